/-
  The program's Column.
-/
import Derived.Test.YtepkjnklapamjaaCRight
namespace Go.Proofs.Ytepkjnklapamjaa
open Go.RowKit

set_option maxRecDepth 100000 in
set_option maxHeartbeats 4000000 in
theorem pcolumn_any (w : World) (a b : KA) :
    Calls Try.prog 18 #[a.val, b.val] w fun e w' => e = .returned (.bool (a.col b)) ∧ Below w.heap.size w w' := by
  have B : Below w.heap.size w ((w.alloc (Obj.cells #[.string a.row, .string a.fam, .string a.qual, .int .u64 0] 24)).alloc (Obj.cells #[.string b.row, .string b.fam, .string b.qual, .int .u64 0] 24)) := ((Below.refl _ w).alloc (Nat.le_refl _) _).alloc (by simp) _
  unfold KA.val
  by_cases e1 : a.row = b.row
  · have t1 : (a.row.toList == b.row.toList) = true := by rw [e1]; simp
    by_cases e2 : a.fam = b.fam
    · have t2 : (a.fam.toList == b.fam.toList) = true := by rw [e2]; simp
      by_cases e3 : a.qual = b.qual
      · have t3 : (a.qual.toList == b.qual.toList) = true := by rw [e3]; simp
        have hv : Hid (a.col b = true) := decide_eq_true ⟨e1, e2, e3⟩
        clear e1 e2 e3
        go_enter Try.func18, Try.ntmps18
        go_wp2
        go_ret
        exact ⟨by rw [hv.out] <;> rfl, B⟩
      · have t3 := toL_ne e3
        have hv : Hid (a.col b = false) := decide_eq_false fun h => e3 h.2.2
        clear e1 e2 e3
        go_enter Try.func18, Try.ntmps18
        go_wp2
        go_ret
        exact ⟨by rw [hv.out] <;> rfl, B⟩
    · have t2 := toL_ne e2
      have hv : Hid (a.col b = false) := decide_eq_false fun h => e2 h.2.1
      clear e1 e2
      go_enter Try.func18, Try.ntmps18
      go_wp2
      go_ret
      exact ⟨by rw [hv.out] <;> rfl, B⟩
  · have t1 := toL_ne e1
    have hv : Hid (a.col b = false) := decide_eq_false fun h => e1 h.1
    clear e1
    go_enter Try.func18, Try.ntmps18
    go_wp2
    go_ret
    exact ⟨by rw [hv.out] <;> rfl, B⟩
end Go.Proofs.Ytepkjnklapamjaa
