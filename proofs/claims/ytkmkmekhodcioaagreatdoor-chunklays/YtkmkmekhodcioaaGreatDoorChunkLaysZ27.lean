/-
  The reference's two tables.
-/
import Derived.Test.YtkmkmekhodcioaaGreatDoorChunkLaysZ25
namespace Go.Proofs.YtkmkmekhodcioaaGreatDoor
open Go.RowKit

set_option maxRecDepth 100000 in
set_option maxHeartbeats 1000000 in
theorem rfirst_any (w : World) : Calls Tryz.prog 50 #[] w fun e w' => e = .returned (.slice (some ⟨w.heap.size, 0, none⟩) 8 8) ∧ w' = w.alloc (.cells (wv H0).toArray 89) := by
  go_enter Tryz.func50, Tryz.ntmps50
  go_wp2
  go_ret
  exact ⟨rfl, rfl⟩

set_option maxRecDepth 100000 in
set_option maxHeartbeats 1000000 in
theorem rcubes_any (w : World) : Calls Tryz.prog 51 #[] w fun e w' => e = .returned (.slice (some ⟨w.heap.size, 0, none⟩) 64 64) ∧ w' = w.alloc (.cells (wv K0).toArray 89) := by
  go_enter Tryz.func51, Tryz.ntmps51
  go_wp2
  go_ret
  exact ⟨rfl, rfl⟩

theorem tab_cw (w : World) (xs : List Int) (t : TypeId) : CW (w.alloc (.cells (wv xs).toArray t)) w.heap.size xs := Arr.cw (heap_alloc_new w _)

end Go.Proofs.YtkmkmekhodcioaaGreatDoor
