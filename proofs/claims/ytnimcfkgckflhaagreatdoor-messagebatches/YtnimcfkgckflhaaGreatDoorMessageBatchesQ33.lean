/-
  Texts in one: RTabs.
-/
import Derived.Test.YtnimcfkgckflhaaGreatDoorMessageBatchesQ31
namespace Go.Proofs.YtnimcfkgckflhaaGreatDoor
open Go.RowKit
set_option maxRecDepth 100000 in
set_option maxHeartbeats 1000000 in
theorem rfirst_any (w : World) : Calls Tryz.prog 74 #[] w fun e w' => e = .returned (.slice (some ⟨w.heap.size, 0, none⟩) 8 8) ∧ w' = w.alloc (.cells (wv H0).toArray 111) := by
  go_enter Tryz.func74, Tryz.ntmps74
  go_wp2
  go_ret
  exact ⟨rfl, rfl⟩
set_option maxRecDepth 100000 in
set_option maxHeartbeats 1000000 in
theorem rcubes_any (w : World) : Calls Tryz.prog 75 #[] w fun e w' => e = .returned (.slice (some ⟨w.heap.size, 0, none⟩) 64 64) ∧ w' = w.alloc (.cells (wv K0).toArray 111) := by
  go_enter Tryz.func75, Tryz.ntmps75
  go_wp2
  go_ret
  exact ⟨rfl, rfl⟩
theorem tab_cw (w : World) (xs : List Int) (t : TypeId) : CW (w.alloc (.cells (wv xs).toArray t)) w.heap.size xs := Arr.cw (heap_alloc_new w _)
end Go.Proofs.YtnimcfkgckflhaaGreatDoor
