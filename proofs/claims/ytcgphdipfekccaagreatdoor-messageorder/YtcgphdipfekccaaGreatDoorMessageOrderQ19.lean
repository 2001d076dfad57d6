/-
  Texts in one: PWrites.
-/
import Derived.Test.YtcgphdipfekccaaGreatDoorMessageOrderQ4
namespace Go.Proofs.YtcgphdipfekccaaGreatDoor
open Go.RowKit
set_option maxRecDepth 100000 in
set_option maxHeartbeats 2000000 in
theorem pwrites_any (w : World) (o : OA) :
    Calls Tryz.prog 77 #[o.val] w fun e w' => e = .returned (.bool (decide (o.kind ≠ 7 ∧ o.kind ≠ 8))) ∧ Below w.heap.size w w' := by
  have B : Below w.heap.size w (w.alloc (Obj.cells o.cells.toArray 31)) := (Below.refl _ w).alloc (Nat.le_refl _) _
  unfold OA.cells at B
  unfold OA.val
  by_cases e7 : o.kind = 7
  · have i : (o.kind != 7) = false := by simp [e7]
    have hv : Hid (decide (o.kind ≠ 7 ∧ o.kind ≠ 8) = false) := decide_eq_false (by omega)
    clear e7
    go_enter Tryz.func77, Tryz.ntmps77
    go_wp2
    go_ret
    exact ⟨by rw [hv.out] <;> rfl, B⟩
  · have i : (o.kind != 7) = true := by simp [e7]
    by_cases e8 : o.kind = 8
    · have j : (o.kind != 8) = false := by simp [e8]
      have hv : Hid (decide (o.kind ≠ 7 ∧ o.kind ≠ 8) = false) := decide_eq_false (by omega)
      clear e7 e8
      go_enter Tryz.func77, Tryz.ntmps77
      go_wp2
      go_ret
      exact ⟨by rw [hv.out] <;> rfl, B⟩
    · have j : (o.kind != 8) = true := by simp [e8]
      have hv : Hid (decide (o.kind ≠ 7 ∧ o.kind ≠ 8) = true) := decide_eq_true ⟨e7, e8⟩
      clear e7 e8
      go_enter Tryz.func77, Tryz.ntmps77
      go_wp2
      go_ret
      exact ⟨by rw [hv.out] <;> rfl, B⟩
end Go.Proofs.YtcgphdipfekccaaGreatDoor
