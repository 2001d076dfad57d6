/-
  sumOf, Sum: bytes in parts.
-/
import Derived.Test.YtmedheecimglkaaDoorSumM
namespace Go.Proofs.YtmedheecimglkaaDoor
open Go.RowKit

/-- A part: where it lies, its length and capacity, its bytes. -/
structure Part where
  ao : Option Addr
  n : Nat
  cap : Nat
  xs : List Int
def Part.val (q : Part) : Value := .slice q.ao q.n q.cap
/-- The cells from a on hold these parts. -/
def Pts (w : World) (a : Addr) (ps : List Part) : Prop := ∀ i (h : i < ps.length), w.cell? (a.add i) = some ps[i].val ∧ Sl w ps[i].ao ps[i].n ps[i].cap ps[i].xs
def allB (ps : List Part) : List Int := ps.flatMap Part.xs
theorem allB_take (ps : List Part) (k : Nat) (h : k < ps.length) : allB (ps.take (k + 1)) = allB (ps.take k) ++ ps[k].xs := by
  unfold allB
  rw [List.take_add_one, List.getElem?_eq_getElem h, List.flatMap_append]
  simp only [Option.toList_some, List.flatMap_cons, List.flatMap_nil, List.append_nil]
theorem allB_le (ps : List Part) (k : Nat) : (allB (ps.take k)).length ≤ (allB ps).length := by
  have : ps = ps.take k ++ ps.drop k := (List.take_append_drop k ps).symm
  have e : allB ps = allB (ps.take k) ++ allB (ps.drop k) := by
    unfold allB
    rw [← List.flatMap_append, List.take_append_drop]
  rw [e, List.length_append]
  omega
theorem Pts.below {w w' : World} {a : Addr} {ps : List Part} (h : Pts w a ps) (hb : Below w.heap.size w w') : Pts w' a ps := by
  intro i hi
  obtain ⟨h1, h2⟩ := h i hi
  exact ⟨(hb.cell (World.block_lt_of_cell? w _ h1)).trans h1, h2.below hb⟩

theorem own_base {w : World} {base base' : Nat} {e : TypeId} {size : Nat} {v : Value} {n : Nat} {xs : List Value} (h : w.ownsRow base e size v n xs) (hb : base' ≤ base) : w.ownsRow base' e size v n xs := by
  refine ⟨h.1, ?_⟩
  rcases h.2 with h | ⟨g, cap, cur, h1, h2, h3⟩
  · exact .inl h
  · exact .inr ⟨g, cap, cur, h1, Nat.le_trans hb h2, h3⟩

set_option maxRecDepth 100000 in
set_option maxHeartbeats 1000000 in
theorem sumOf_any (w : World) (b o : Nat) (n cap : Nat) (ps : List Part) (hT : Tabs w) (hP : Pts w ⟨b, o, none⟩ ps) (hn : ps.length = n) (hnb : (n : Int) < 4611686018427387904) (hl : (allB ps).length + 72 < 18446744073709551616) :
    Calls Tryd.prog 114 #[.slice (some ⟨b, o, none⟩) n cap] w fun e w' => ∃ v, e = .returned v ∧ w'.ownsRow w.heap.size 5 1 v 32 (bv (sumL (allB ps))) ∧ Below w.heap.size w w' := by
  have h2 := hT.two
  go_enter Tryd.func114, Tryd.ntmps114
  go_wp2_with (go_at_call 80; refine (new_any w).mono ?_; rintro e w1 ⟨rfl, H1, g1⟩; have B1 : Below w.heap.size w w1 := (Below.refl _ w).grown g1 (Nat.le_refl _) (by simp); clear g1)
  go_loopw [9] (fun i wr => ∃ k : Nat, k ≤ n ∧ i = .int .i64 k ∧ Below w.heap.size w wr ∧ HS wr w.heap.size (allB (ps.take k))) (fun i _ => n - (intOf i).toNat)
  case atStart => exact ⟨0, by omega, rfl, B1, H1⟩
  case round =>
    clear H1 B1
    obtain ⟨k, hk, rfl, B2, H2⟩ := hrel
    have T2 := hT.below B2 h2
    have s2 := B2.size
    by_cases hlt : k < n
    · have hki : (k : Int) < (n : Int) := by omega
      have hkl : k < ps.length := by omega
      obtain ⟨c1, S1⟩ := (hP.below B2) k hkl
      rw [add_at] at c1
      have HT : Hid (allB (ps.take (k + 1)) = allB (ps.take k) ++ ps[k].xs) := allB_take ps k hkl
      have hle := allB_le ps (k + 1)
      have hne : ∀ a, ps[k].ao = some a → 0 < ps[k].n → a.block ≠ w.heap.size := by
        intro a ha h0
        have := (hP k hkl).2.lt a ha h0
        omega
      rw [HT.out, List.length_append] at hle
      obtain ⟨q, hq⟩ : ∃ q, q = ps[k] := ⟨_, rfl⟩
      rw [← hq] at c1 S1 hne HT hle
      clear hq
      unfold Part.val at c1
      go_wp2_with (go_at_call 81; refine (add_any wr w.heap.size _ q.ao q.n q.cap q.xs T2 H2 h2 S1 hne (by omega)).mono ?_; rintro e w3 ⟨⟨v, rfl⟩, H3, g3⟩; have B3 : Below w.heap.size w w3 := B2.grown g3 s2 (by intro k hk; cases hk; exact Nat.le_refl _))
      go_roundw
      case rel =>
        refine ⟨k + 1, by omega, by go_num, B3, ?_⟩
        rw [HT.out]
        exact H3
      case measure => simp [intOf]; omega
    · have hge : (n : Int) ≤ (k : Int) := by omega
      have e : ps.take k = ps := List.take_of_length_le (by omega)
      rw [e] at H2
      clear e
      go_wp2_with (go_at_call 82; refine (hsum_any wr w.heap.size _ T2 H2 hl).mono ?_; rintro e w3 ⟨v, rfl, own3, B3⟩)
      go_ret
      refine ⟨_, rfl, own_base own3 s2, B2.trans (B3.mono s2)⟩
/-- Parts laid in a new block. -/
theorem Pts.new (w : World) (ps : List Part) (t : TypeId) (h : ∀ q ∈ ps, Sl w q.ao q.n q.cap q.xs) : Pts (w.alloc (.cells (ps.map Part.val).toArray t)) ⟨w.heap.size, 0, none⟩ ps := by
  intro i hi
  refine ⟨?_, (h _ (List.getElem_mem hi)).below ((Below.refl _ w).alloc (Nat.le_refl _) _)⟩
  rw [add_at, Nat.zero_add, cell_of_row _ _ i _ _ _ (heap_alloc_new w _)]
  simp [hi]

set_option maxRecDepth 100000 in
set_option maxHeartbeats 1000000 in
/-- Sum of whatever bytes. -/
theorem sum_any (w : World) (ao : Option Addr) (n cap : Nat) (xs : List Int) (hT : Tabs w) (hS : Sl w ao n cap xs) :
    Calls Tryd.prog 95 #[.slice ao n cap] w fun e w' => ∃ v, e = .returned v ∧ w'.ownsRow w.heap.size 5 1 v 32 (bv (sumL xs)) ∧ Below w.heap.size w w' := by
  have h2 := hT.two
  have hm := hS.mx
  have hle := hS.le
  have hln := hS.len
  unfold maxLen at hm
  go_enter Tryd.func95, Tryd.ntmps95
  go_wp2_with fail
  have B1 : Below w.heap.size w (w.alloc (.cells #[.slice ao n cap] 23)) := (Below.refl _ w).alloc (Nat.le_refl _) _
  have hq : Pts (w.alloc (.cells #[.slice ao n cap] 23)) ⟨w.heap.size, 0, none⟩ [⟨ao, n, cap, xs⟩] := Pts.new w [⟨ao, n, cap, xs⟩] 23 (by intro q hq; rw [List.mem_singleton.1 hq]; exact hS)
  have ea : allB [⟨ao, n, cap, xs⟩] = xs := by simp [allB]
  refine (sumOf_any _ w.heap.size 0 1 1 [⟨ao, n, cap, xs⟩] (hT.below B1 h2) hq rfl (by decide) (by rw [ea]; omega)).mono ?_
  rintro e w3 ⟨v, rfl, own3, B3⟩
  rw [ea] at own3
  clear ea hq
  go_wp2
  go_ret
  exact ⟨_, rfl, own_base own3 B1.size, B1.trans (B3.mono B1.size)⟩
end Go.Proofs.YtmedheecimglkaaDoor
