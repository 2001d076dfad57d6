/-
  slices.Chunk of items: the parts come one by one.
-/
import Derived.RangeFuncBox
import Derived.RangeFuncLeaves
import Derived.Shelf.Abstract
import Derived.OwnWalkIn
import Derived.TacticsInMore
import Derived.LoopNIn
import Derived.LoopIn
import Derived.Test.YtkmkmekhodcioaaGreatDoorChunkLaysZ12
import Derived.Test.YtkmkmekhodcioaaGreatDoorChunkLaysZ6
namespace Go.Proofs.YtkmkmekhodcioaaGreatDoor
open Go.RowKit Go.Shelf

attribute [local go_sem] Oper.semAt_some

/-- A part of n items: where it begins, how many it has. -/
abbrev Pr (n : Nat) := { x : Nat × Nat // x.1 + x.2 ≤ n ∧ 0 < x.2 }
def sA (ao : Option Addr) (i : Nat) : Option Addr := ao.map (·.add (i * 2))
def encP (ao : Option Addr) {n : Nat} (x : Pr n) : Array Value := #[.slice (sA ao x.val.1) x.val.2 x.val.2]
/-- Two blocks are as they were. -/
structure KpTwo (A B : Nat) (W W' : World) : Prop where
  a : W'.heap[A]? = W.heap[A]?
  b : W'.heap[B]? = W.heap[B]?
theorem KpTwo.refl (A B : Nat) (W : World) : KpTwo A B W W := ⟨rfl, rfl⟩
theorem KpTwo.trans {A B : Nat} {W W' W'' : World} (h : KpTwo A B W W') (k : KpTwo A B W' W'') : KpTwo A B W W'' := ⟨k.a.trans h.a, k.b.trans h.b⟩
theorem run_mid2 {W : World} {ao : Option Addr} {n cap i j : Nat} (h1 : i < j) (h2 : j ≤ cap) :
    (Instr.sliceAt 30 (.slice ao n cap) (some (.int .i64 (i : Nat))) (some (.int .i64 (j : Nat))) (some (.int .i64 (j : Nat)))).run Tryz.prog W = .ok (.slice (sA ao i) (j - i) (j - i)) W := by
  have ht := Tryz.underlying30
  have he : Tryz.prog.elem 30 = 43 := by simp [Program.elem, ht]
  rw [run_sliceAt_slice W 30 _ _ _ _ (by rw [he]; exact ht), run_slice_lhm W 30 ao n cap (by rw [he]; exact ht) .i64 .i64 .i64 i j j (by omega) (by omega) (by omega) (by omega), he, size2]
  simp only [Result.andThen_ok, sliced, Int.toNat_natCast, sA]
  rw [if_neg (by omega)]

set_option maxRecDepth 100000 in
set_option maxHeartbeats 4000000 in
theorem chunk1_in (F : Fence) (n : Nat) (h6 : F.fn 66) (hro : F.round = none) (hn : 1 ≤ n) (l Bs Bn : Nat) (ao : Option Addr) (m cap per : Nat) (hp0 : 0 < per) (hp1 : per ≤ 64) (hm : m ≤ 1000000) (hle : m ≤ cap) (J Jx : List (Pr m) → World → Prop)
    (hY : ∀ pre x W, J pre W → pre.length < m → YieldAt F (n - 1) Tryz.prog l (encP ao x) W fun e W' =>
      (e = .returned (.bool true) ∧ J (pre ++ [x]) W' ∧ KpTwo Bs Bn W W') ∨ (e = .returned (.bool false) ∧ Jx (pre ++ [x]) W'))
    (hJd : ∀ pre V, J pre V → J pre V.drew) (W : World) (hBs : W.cell? ⟨Bs, 0, none⟩ = some (.slice ao m cap)) (hBn : W.cell? ⟨Bn, 0, none⟩ = some (.int .i64 per)) (h0 : J [] W) :
    CallsIn F n Tryz.prog 66 #[.func (.yield l) #[] #[], .pointer (some ⟨Bs, 0, none⟩), .pointer (some ⟨Bn, 0, none⟩)] W fun e W' => (∃ v, e = .returned v) ∧
      ((∃ ys : List (Pr m), ys.map Subtype.val = sts m per 0 ∧ J ys W') ∨ (∃ pre, True ∧ Jx pre W')) := by
  refine callsIn_of_wp Tryz.func66 rfl h6 ?_ hro
  simp only [Tryz.ntmps66, List.size_toArray, List.length_cons, List.length_nil, Nat.reduceAdd, Nat.reduceSub, Array.replicate_succ, Array.replicate_zero, List.push_toArray, List.append_toArray, List.nil_append, List.cons_append]
  gi_wp2
  gi_loopw [4] (fun i wr => ∃ (k : Nat) (pre : List (Pr m)), i = .int .i64 k ∧ k ≤ m + 64 ∧ Hid (pre.map Subtype.val ++ sts m per k = sts m per 0) ∧ KpTwo Bs Bn W wr ∧ J pre wr) (fun i _ => m + 64 - (intOf i).toNat)
  case atStart => exact ⟨0, [], rfl, by omega, rfl, KpTwo.refl _ _ _, h0⟩
  case round =>
    obtain ⟨k, pre, rfl, hk64, HP, hK, hJ⟩ := hrel
    have c1 : wr.cell? ⟨Bs, 0, none⟩ = some (.slice ao m cap) := (World.cell?_of_block (a := ⟨Bs, 0, none⟩) hK.a).trans hBs
    have c2 : wr.cell? ⟨Bn, 0, none⟩ = some (.int .i64 per) := (World.cell?_of_block (a := ⟨Bn, 0, none⟩) hK.b).trans hBn
    by_cases hlt : k < m
    · have hki : (k : Int) < (m : Int) := by omega
      obtain ⟨e, he⟩ : ∃ e, e = min per (m - k) := ⟨_, rfl⟩
      have he1 : 0 < e ∧ k + e ≤ m ∧ e ≤ 64 := by rw [he]; simp only [Nat.min_def]; split <;> omega
      have HE : Hid (sts m per k = (k, e) :: sts m per (k + per)) := by show _ = _; rw [he]; exact sts_cons hp0 (by omega)
      have r1 := fun V => run_back2 (W := V) (ao := ao) (n := m) (cap := cap) (j := k) (by omega)
      have r2 := fun V => run_mid2 (W := V) (ao := ao) (n := m) (cap := cap) (i := k) (j := k + e) (by omega) (by omega)
      gi_wp2
      have hmin : (if m - k < per then ((m - k : Nat) : Int) else (per : Int)) = (e : Int) := by
        rw [he, Nat.min_def]
        split <;> split <;> omega
      have HMIN : Hid ((if m - k < per then ((m - k : Nat) : Int) else (per : Int)) = (e : Int)) := hmin
      have HMIN2 : Hid (min (per : Int) ((m - k : Nat) : Int) = (e : Int)) := by show _ = _; rw [he]; omega
      clear hmin
      have hJ' := hJd _ _ hJ
      have hK' : KpTwo Bs Bn W wr.drew := ⟨hK.a, hK.b⟩
      have c1' : wr.drew.cell? ⟨Bs, 0, none⟩ = some (.slice ao m cap) := c1
      have c2' : wr.drew.cell? ⟨Bn, 0, none⟩ = some (.int .i64 per) := c2
      have hpl : pre.length < m := by
        have h1 := congrArg List.length HP.out
        rw [HE.out] at h1
        simp only [List.length_append, List.length_map, List.length_cons] at h1
        have h2 := sts_len (n := m) hp0 m 0 (by omega)
        omega
      obtain ⟨fn, tmps, assign, body, hy, hR⟩ := hY pre ⟨(k, e), he1.2.1, he1.1⟩ wr.drew hJ' hpl
      simp only [encP, sA] at hy
      obtain ⟨v, hv⟩ : ∃ v, v = wr.drew := ⟨_, rfl⟩
      gi_region
      all_goals (first | rw [HMIN.out] | rw [HMIN2.out])
      all_goals rw [← hv] at hJ' hK' c1' c2' hy hR ⊢
      all_goals clear hv c1 c2 hK hJ HMIN HMIN2 he r1
      all_goals gi_wp2
      all_goals
        refine hR.mono ?_
        clear hR hy
        rintro ee W3 (⟨rfl, hJ3, hk3⟩ | ⟨rfl, hJx3⟩)
      all_goals first
        | (have c3 : W3.cell? ⟨Bn, 0, none⟩ = some (.int .i64 per) := (World.cell?_of_block (a := ⟨Bn, 0, none⟩) hk3.b).trans c2'
           gi_wp2
           go_roundw
           case rel =>
             refine ⟨k + per, pre ++ [⟨(k, e), he1.2.1, he1.1⟩], by go_num, by omega, ?_, hK'.trans hk3, hJ3⟩
             show _ = _
             rw [← HP.out, HE.out]
             simp
           case measure => simp [intOf]; omega)
        | (gi_wp2
           refine bodyPost_ret (results_none rfl _ _ _) rfl ?_
           exact ⟨⟨_, rfl⟩, .inr ⟨_, trivial, hJx3⟩⟩)
    · have hge : (m : Int) ≤ (k : Int) := by omega
      have hge2 : ¬ (k : Int) < (m : Int) := by omega
      rw [sts_end (by omega), List.append_nil] at HP
      gi_wp2
      go_end0
      exact ⟨⟨_, rfl⟩, .inl ⟨pre, HP.out, hJ⟩⟩

set_option maxHeartbeats 1000000 in
set_option maxRecDepth 100000 in
/-- slices.Chunk(s, n): both are boxed; the function value captures the boxes. -/
theorem chunk_in (F : Fence) (n : Nat) (h5 : F.fn 37) (hro : F.round = none) (ao : Option Addr) (m cap per : Nat) (hp : 0 < per) (w : World) :
    CallsIn F n Tryz.prog 37 #[.slice ao m cap, .int .i64 per] w fun e w' => e = .returned (.func (.func 66) #[] #[.pointer (some ⟨w.heap.size, 0, none⟩), .pointer (some ⟨w.heap.size + 1, 0, none⟩)]) ∧ w' = (w.alloc (.cells #[.slice ao m cap] 30)).alloc (.cells #[.int .i64 per] 3) := by
  have hp1 : ¬ (per : Int) < 1 := by omega
  refine callsIn_of_wp Tryz.func37 rfl h5 ?_ hro
  simp only [Tryz.ntmps37, List.size_toArray, List.length_cons, List.length_nil, Nat.reduceAdd, Nat.reduceSub, Array.replicate_succ, Array.replicate_zero, List.push_toArray, List.append_toArray, List.nil_append, List.cons_append]
  gi_wp2
  go_ret
  exact ⟨rfl, rfl⟩

theorem chunk_stops (F : Fence) (n : Nat) (h6 : F.fn 66) (hro : F.round = none) (hn : 1 ≤ n) (Bs Bn : Nat) (ao : Option Addr) (m cap per : Nat) (hp0 : 0 < per) (hp1 : per ≤ 64) (hm : m ≤ 1000000) (hle : m ≤ cap) (w : World)
    (hBs : w.cell? ⟨Bs, 0, none⟩ = some (.slice ao m cap)) (hBn : w.cell? ⟨Bn, 0, none⟩ = some (.int .i64 per)) :
    SeqStopsK F n Tryz.prog 66 #[.pointer (some ⟨Bs, 0, none⟩), .pointer (some ⟨Bn, 0, none⟩)] (encP ao (n := m)) (KpTwo Bs Bn) (fun ys => ys.map Subtype.val = sts m per 0) (fun _ => True) m w := fun l J Jx W hW aJ _ hY h0 =>
  chunk1_in F n h6 hro hn l Bs Bn ao m cap per hp0 hp1 hm hle J Jx hY (fun pre V h => aJ pre V V.drew none h ⟨rfl, rfl, rfl, Nat.le_refl _, fun _ _ _ => rfl⟩ (fun _ e => by cases e)) W
    ((hW.cell (p := ⟨Bs, 0, none⟩) (World.block_lt_of_cell? w _ hBs)).trans hBs) ((hW.cell (p := ⟨Bn, 0, none⟩) (World.block_lt_of_cell? w _ hBn)).trans hBn) h0
end Go.Proofs.YtkmkmekhodcioaaGreatDoor
