/-
  digits: a sequence of the digits of some bytes.
-/
import Derived.RangeFuncBox
import Derived.RangeFuncLeaves
import Derived.Shelf.Abstract
import Derived.OwnWalkIn
import Derived.TacticsInMore
import Derived.LoopNIn
import Derived.LoopIn
import Derived.Maps.AppendAt
import Derived.Test.YtiabdcejibeciaaDoorTreeOrderZ0
namespace Go.Proofs.YtiabdcejibeciaaDoor
open Go.RowKit Go.Shelf

attribute [local go_sem] Oper.semAt_some

/-- A digit. -/
def dg (x : Int) : Int := if x < 10 then 48 + x else 87 + x
def hexL (xs : List Int) : List Int := xs.flatMap fun x => [dg (x / 16), dg (x % 16)]
theorem hexL_succ (xs : List Int) (k : Nat) (h : k < xs.length) : hexL (xs.take (k + 1)) = hexL (xs.take k) ++ [dg (xs.getD k 0 / 16)] ++ [dg (xs.getD k 0 % 16)] := by
  have e : xs.getD k 0 = xs[k] := by simp [List.getD, h]
  unfold hexL
  rw [List.take_add_one, List.getElem?_eq_getElem h, List.flatMap_append, e]
  simp
theorem hexL_len (xs : List Int) : (hexL xs).length = 2 * xs.length := by
  induction xs with
  | nil => rfl
  | cons x xs ih => simp only [hexL, List.flatMap_cons, List.length_append, List.length_cons, List.length_nil] at *; omega
theorem hexL_take_len (xs : List Int) (k : Nat) (h : k ≤ xs.length) : (hexL (xs.take k)).length = 2 * k := by
  rw [hexL_len, List.length_take]; omega
theorem hexL_pre (xs : List Int) (k : Nat) : hexL (xs.take k) <+: hexL xs := by
  refine ⟨hexL (xs.drop k), ?_⟩
  unfold hexL
  rw [← List.flatMap_append, List.take_append_drop]

theorem digitKey : ∀ n : Nat, (h : n < 16) → ((((⟨#[48, 49, 50, 51, 52, 53, 54, 55, 56, 57, 97, 98, 99, 100, 101, 102]⟩ : ByteArray)[n]'h).toNat : Nat) : Int) = dg n := by decide
theorem digitAt (x : Int) (h : 0 ≤ x ∧ x < 16) (w : World) : (Instr.index 9 (.string ⟨#[48, 49, 50, 51, 52, 53, 54, 55, 56, 57, 97, 98, 99, 100, 101, 102]⟩) (.int .u8 x)).run Tryd.prog w = .ok (.int .u8 (dg x)) w := by
  obtain ⟨n, rfl⟩ := Int.eq_ofNat_of_zero_le h.1
  rw [run_index_string _ _ _ _ _ Tryd.underlying9, dif_pos ⟨h.1, h.2⟩]
  have := digitKey n (by omega)
  rw [← this]
  rfl

set_option maxRecDepth 100000 in
set_option maxHeartbeats 2000000 in
theorem digits1_in (F : Fence) (n : Nat) (h6 : F.fn 107) (hro : F.round = none) (hn : 1 ≤ n) (l Bn n₀ : Nat) (ao : Option Addr) (m cap : Nat) (xs : List Int) (J Jx : List Int → World → Prop)
    (hY : ∀ pre x W, J pre W → pre.length < (hexL xs).length → YieldAt F (n - 1) Tryd.prog l #[.int .u8 x] W fun e W' =>
      (e = .returned (.bool true) ∧ J (pre ++ [x]) W' ∧ Below n₀ W W') ∨ (e = .returned (.bool false) ∧ Jx (pre ++ [x]) W'))
    (W : World) (hBn : W.cell? ⟨Bn, 0, none⟩ = some (.slice ao m cap)) (hL : Sl W ao m cap xs) (hlow : ∀ a, ao = some a → 0 < m → a.block < n₀) (h0 : J [] W) :
    CallsIn F n Tryd.prog 107 #[.func (.yield l) #[] #[], .pointer (some ⟨Bn, 0, none⟩)] W fun e W' => (∃ v, e = .returned v) ∧
      ((∃ ys, ys = hexL xs ∧ J ys W') ∨ (∃ pre, pre <+: hexL xs ∧ Jx pre W')) := by
  have hmx := hL.mx
  have hle := hL.le
  have hln := hL.len
  unfold maxLen at hmx
  refine callsIn_of_wp Tryd.func107 rfl h6 ?_ hro
  simp only [Tryd.ntmps107, List.size_toArray, List.length_cons, List.length_nil, Nat.reduceAdd, Nat.reduceSub, Array.replicate_succ, Array.replicate_zero, List.push_toArray, List.append_toArray, List.nil_append, List.cons_append]
  gi_wp2
  gi_loopw [7] (fun i wr => ∃ k : Nat, k ≤ m ∧ i = .int .i64 k ∧ Below n₀ W wr ∧ J (hexL (xs.take k)) wr) (fun i _ => m - (intOf i).toNat)
  case atStart => exact ⟨0, by omega, rfl, Below.refl _ _, h0⟩
  case round =>
    obtain ⟨k, hk, rfl, hB, hJ⟩ := hrel
    by_cases hlt : k < m
    · have hki : (k : Int) < (m : Int) := by omega
      obtain ⟨a, rfl⟩ : ∃ a, ao = some a := by
        cases ao with
        | none => exact absurd (hL.nil rfl).1 (by omega)
        | some a => exact ⟨a, rfl⟩
      have c0 := hL.cell a rfl k hlt
      have hab : (a.add k).block = a.block := by unfold Addr.add; split <;> rfl
      have c1 : wr.cell? (a.add k) = some (.int .u8 (xs.getD k 0)) := (hB.cell (by rw [hab]; exact hlow a rfl (by omega))).trans c0
      have hb := hL.byte.at k
      have hbe : xs[k]?.getD 0 = xs.getD k 0 := rfl
      rw [hbe] at hb
      have HS : Hid (hexL (xs.take (k + 1)) = hexL (xs.take k) ++ [dg (xs.getD k 0 / 16)] ++ [dg (xs.getD k 0 % 16)]) := hexL_succ xs k (by omega)
      have hpl := hexL_take_len xs k (by omega)
      have hal := hexL_len xs
      have hpre := hexL_pre xs (k + 1)
      rw [HS.out] at hpre
      obtain ⟨x, hx⟩ : ∃ x, x = xs.getD k 0 := ⟨_, rfl⟩
      rw [← hx] at c1 hb HS hpre
      clear hbe c0 hab hx
      have hd1 := digitAt (x / 16) (by omega)
      have hd2 := digitAt (x % 16) (by omega)
      obtain ⟨fn, tmps, assign, body, hy, hR⟩ := hY (hexL (xs.take k)) (dg (x / 16)) wr hJ (by omega)
      gi_wp2
      refine hR.mono ?_
      clear hR hy
      rintro e W3 (⟨rfl, hJ3, hk3⟩ | ⟨rfl, hJx3⟩)
      · obtain ⟨fn2, tmps2, assign2, body2, hy2, hR2⟩ := hY (hexL (xs.take k) ++ [dg (x / 16)]) (dg (x % 16)) W3 hJ3 (by rw [List.length_append, hpl, List.length_singleton]; omega)
        gi_wp2
        refine hR2.mono ?_
        clear hR2 hy2
        rintro e W4 (⟨rfl, hJ4, hk4⟩ | ⟨rfl, hJx4⟩)
        · gi_wp2
          go_roundw
          case rel => exact ⟨k + 1, by omega, by go_num, (hB.trans hk3).trans hk4, by rw [HS.out]; exact hJ4⟩
          case measure => simp [intOf]; omega
        · gi_wp2
          refine bodyPost_ret (results_none rfl _ _ _) rfl ?_
          exact ⟨⟨_, rfl⟩, .inr ⟨_, hpre, hJx4⟩⟩
      · gi_wp2
        refine ⟨fun _ h => (by cases h), ?_⟩
        gi_wp2
        refine bodyPost_ret (results_none rfl _ _ _) rfl ?_
        exact ⟨⟨_, rfl⟩, .inr ⟨_, (List.prefix_append _ _).trans hpre, hJx3⟩⟩
    · have hge : (m : Int) ≤ (k : Int) := by omega
      have e : xs.take k = xs := List.take_of_length_le (by omega)
      rw [e] at hJ
      clear e
      gi_wp2
      go_end0
      exact ⟨⟨_, rfl⟩, .inl ⟨_, rfl, hJ⟩⟩

set_option maxHeartbeats 1000000 in
/-- digits(b): the slice is boxed; the function value captures the box. -/
theorem digits_in (F : Fence) (n : Nat) (h5 : F.fn 82) (hro : F.round = none) (v : Value) (ao : Option Addr) (m cap : Nat) (hv : v = .slice ao m cap) (w : World) :
    CallsIn F n Tryd.prog 82 #[v] w fun e w' => e = .returned (.func (.func 107) #[] #[.pointer (some ⟨w.heap.size, 0, none⟩)]) ∧ w' = w.alloc (.cells #[v] 26) := by
  subst hv
  refine callsIn_of_wp Tryd.func82 rfl h5 ?_ hro
  simp only [Tryd.ntmps82, List.size_toArray, List.length_cons, List.length_nil, Nat.reduceAdd, Nat.reduceSub, Array.replicate_succ, Array.replicate_zero, List.push_toArray, List.append_toArray, List.nil_append, List.cons_append]
  gi_wp2
  go_ret
  exact ⟨rfl, rfl⟩

theorem digits_stops (F : Fence) (n : Nat) (h6 : F.fn 107) (hro : F.round = none) (hn : 1 ≤ n) (Bn n₀ : Nat) (ao : Option Addr) (m cap : Nat) (xs : List Int) (w : World) (hBn : Bn < w.heap.size)
    (hc : w.cell? ⟨Bn, 0, none⟩ = some (.slice ao m cap)) (hL : Sl w ao m cap xs) (hlow : ∀ a, ao = some a → 0 < m → a.block < n₀) :
    SeqStopsK F n Tryd.prog 107 #[.pointer (some ⟨Bn, 0, none⟩)] (fun x : Int => #[Value.int .u8 x]) (Below n₀) (fun ys => ys = hexL xs) (fun pre => pre <+: hexL xs) (hexL xs).length w := fun l J Jx W hW _ _ hY h0 =>
  digits1_in F n h6 hro hn l Bn n₀ ao m cap xs J Jx hY W ((hW.cell (p := ⟨Bn, 0, none⟩) hBn).trans hc) (hL.below hW) hlow h0

end Go.Proofs.YtiabdcejibeciaaDoor
