/-
  A contract: wire.Bool.
-/
import Derived.Test.YtbfcilfdeemnpaaForms
import Derived.Test.YtbfcilfdeemnpaaRDefs
namespace Go.Proofs.Ytbfcilfdeemnpaa
open Go.RowKit

set_option maxHeartbeats 400000 in
theorem wBool_any (w : World) (ao : Option Addr) (n cap : Nat) (b : Bool) (xs : List Int) (h : Sl w ao n cap xs) (hr : n + 30 ≤ 140737488355328) :
    Calls Try.prog 55 #[.slice ao n cap, .bool b] w fun e w' =>
      ∃ v, e = .returned v ∧ w'.ownsRow w.heap.size 5 1 v (n + 1) (bv (xs ++ enb b)) ∧ Below w.heap.size w w' := by
  cases b
  all_goals
    go_enter Try.func55, Try.ntmps55
    go_wp2_with fail
    refine (withRoom_any w ao n cap 1 xs h (by omega)).mono ?_
    rintro e w1 ⟨rfl, hown1, hb1⟩
    have hs := hb1.size
    go_wp2_with (at_builtin; refine wpList_app rfl _ _ rfl w.heap.size _ _ _ rfl (hown1.alloc _) _ _ _ _ rfl (Sl.one w1 _ (by decide)) (by omega) (by simp; omega) ?_; intro v3 w3 hown3 hb3)
    have hb4 := (hb1.alloc hs _).trans hb3
    clear hb1 hown1 hb3
    go_ret
    exact ⟨v3, rfl, hown3, hb4⟩
end Go.Proofs.Ytbfcilfdeemnpaa
