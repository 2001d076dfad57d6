/-
  The reference's Is.
-/
import Derived.Test.YtmidjiailinjmaaPRead
import Derived.Test.YtmidjiailinjmaaHRegA
namespace Go.Proofs.Ytmidjiailinjmaa
open Go.RowKit

/-- A place in a block of its own. -/
def PC (w : World) (p : Nat) (x y : Int) : Prop := w.heap[p]? = some (.cells #[.int .i64 x, .int .i64 y] 28)
theorem PC.lt {w : World} {p : Nat} {x y : Int} (h : PC w p x y) : p < w.heap.size := (Array.getElem?_eq_some_iff.1 h).1
theorem PC.c0 {w : World} {p : Nat} {x y : Int} (h : PC w p x y) : w.cell? ⟨p, 0, none⟩ = some (.int .i64 x) := by rw [cell_of_row w p 0 _ _ _ h]; rfl
theorem PC.c1 {w : World} {p : Nat} {x y : Int} (h : PC w p x y) : w.cell? ⟨p, 1, none⟩ = some (.int .i64 y) := by rw [cell_of_row w p 1 _ _ _ h]; rfl
theorem PC.below {w w' : World} {p n : Nat} {x y : Int} (h : PC w p x y) (hb : Below n w w') (hp : p < n) : PC w' p x y := (hb.block p hp).trans h
theorem PC.keep {w w' : World} {p : Nat} {x y : Int} (h : PC w p x y) (hb : Below w.heap.size w w') : PC w' p x y := h.below hb h.lt
theorem PC.free {w : World} {p : Nat} {x y : Int} (h : PC w p x y) (j : Nat) : w.frozen? ⟨p, j, none⟩ = false := frozen_of_row w p j _ _ h

set_option maxHeartbeats 2000000 in
set_option maxRecDepth 100000 in
theorem ris_any (w : World) (x y : Int) :
    Calls Try.prog 11 #[.agg #[.int .i64 x, .int .i64 y]] w fun e w' => e = .returned (.bool (inP x && inP y)) ∧ Below w.heap.size w w' := by
  have k1 : PC (w.alloc (.cells #[.int .i64 x, .int .i64 y] 28)) w.heap.size x y := heap_alloc_new w _
  have B1 : Below w.heap.size w (w.alloc (.cells #[.int .i64 x, .int .i64 y] 28)) := (Below.refl _ w).alloc (Nat.le_refl _) _
  obtain ⟨V, hV⟩ : ∃ V, V = (inP x && inP y) := ⟨_, rfl⟩
  have HV : Hid (V = (decide (-1048576 ≤ x) && decide (x ≤ 1048576) && decide (-1048576 ≤ y) && decide (y ≤ 1048576))) := by
    rw [hV]
    unfold inP
    show _ = _
    rw [Bool.decide_and, Bool.decide_and, Bool.and_assoc, Bool.and_assoc, Bool.and_assoc]
  rw [← hV]
  clear hV
  by_cases a : -1048576 ≤ x
  · by_cases b : x ≤ 1048576
    · by_cases c : -1048576 ≤ y
      · by_cases d : y ≤ 1048576
        · have e : V = true := by rw [HV.out, decide_eq_true a, decide_eq_true b, decide_eq_true c, decide_eq_true d]; rfl
          rw [e]
          clear HV e
          go_enter Try.func11, Try.ntmps11
          go_wp2
          go_ret
          exact ⟨rfl, B1⟩
        · have e : V = false := by rw [HV.out, decide_eq_true a, decide_eq_true b, decide_eq_true c, decide_eq_false d]; rfl
          rw [e]
          clear HV e
          go_enter Try.func11, Try.ntmps11
          go_wp2
          go_ret
          exact ⟨rfl, B1⟩
      · have e : V = false := by rw [HV.out, decide_eq_true a, decide_eq_true b, decide_eq_false c]; rfl
        rw [e]
        clear HV e
        go_enter Try.func11, Try.ntmps11
        go_wp2
        go_ret
        exact ⟨rfl, B1⟩
    · have e : V = false := by rw [HV.out, decide_eq_true a, decide_eq_false b]; rfl
      rw [e]
      clear HV e
      go_enter Try.func11, Try.ntmps11
      go_wp2
      go_ret
      exact ⟨rfl, B1⟩
  · have e : V = false := by rw [HV.out, decide_eq_false a]; rfl
    rw [e]
    clear HV e
    go_enter Try.func11, Try.ntmps11
    go_wp2
    go_ret
    exact ⟨rfl, B1⟩
end Go.Proofs.Ytmidjiailinjmaa
