/-
  The reference's two tables.
-/
import Derived.Test.YtiabdcejibeciaaDoorTreeOrderZ27
namespace Go.Proofs.YtiabdcejibeciaaDoor
open Go.RowKit

set_option maxRecDepth 100000 in
set_option maxHeartbeats 1000000 in
theorem rfirst_any (w : World) : Calls Tryd.prog 52 #[] w fun e w' => e = .returned (.slice (some ⟨w.heap.size, 0, none⟩) 8 8) ∧ w' = w.alloc (.cells (wv H0).toArray 93) := by
  go_enter Tryd.func52, Tryd.ntmps52
  go_wp2
  go_ret
  exact ⟨rfl, rfl⟩

set_option maxRecDepth 100000 in
set_option maxHeartbeats 1000000 in
theorem rcubes_any (w : World) : Calls Tryd.prog 53 #[] w fun e w' => e = .returned (.slice (some ⟨w.heap.size, 0, none⟩) 64 64) ∧ w' = w.alloc (.cells (wv K0).toArray 93) := by
  go_enter Tryd.func53, Tryd.ntmps53
  go_wp2
  go_ret
  exact ⟨rfl, rfl⟩

theorem tab_cw (w : World) (xs : List Int) (t : TypeId) : CW (w.alloc (.cells (wv xs).toArray t)) w.heap.size xs := Arr.cw (heap_alloc_new w _)

end Go.Proofs.YtiabdcejibeciaaDoor
