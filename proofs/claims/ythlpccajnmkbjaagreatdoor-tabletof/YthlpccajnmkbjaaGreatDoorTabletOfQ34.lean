/-
  Texts in one: TbSame.
-/
import Derived.Test.YthlpccajnmkbjaaGreatDoorTabletOfQ33
namespace Go.Proofs.YthlpccajnmkbjaaGreatDoor
open Go.RowKit
set_option maxHeartbeats 1000000 in
theorem same10_any (w : World) (ao bo : Option Addr) (n cap cap2 : Nat) (l l2 : List CA) (L : CL w ao n cap l) (L2 : CL w bo n cap2 l2) (hl : l.map CA.c = l2.map CA.c) (hn : n ≤ 1000) :
    Calls Tryz.prog 16 #[.slice ao n cap, .slice bo n cap2] w fun x w' => x = .returned (.bool true) ∧ Below w.heap.size w w' := by
  have CR := rresults_any w 0 ao bo n cap cap2 l l2 false L L2 hl hn
  unfold resV at CR
  clear L L2 hl
  go_enter Tryz.func16, Tryz.ntmps16
  go_wp2_with fail
  refine CR.mono ?_
  rintro e w2 ⟨rfl, C2⟩
  clear CR
  go_wp2
  go_ret
  exact ⟨rfl, C2⟩
theorem CL.len_of {w w' : World} {ao bo : Option Addr} {n m cap cap2 : Nat} {l l2 : List CA} (L : CL w ao n cap l) (L2 : CL w' bo m cap2 l2) (hl : l.map CA.c = l2.map CA.c) : m = n := by
  have := congrArg List.length hl
  rw [List.length_map, List.length_map, L.len, L2.len] at this
  exact this.symm
end Go.Proofs.YthlpccajnmkbjaaGreatDoor
