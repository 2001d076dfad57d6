/-
  A contract: the reference's Bool.
-/
import Derived.Test.YtbfcilfdeemnpaaRefForms
import Derived.Test.YtbfcilfdeemnpaaMC
namespace Go.Proofs.Ytbfcilfdeemnpaa
open Go.RowKit

set_option maxHeartbeats 400000 in
theorem rBool_any (w : World) (ao : Option Addr) (n cap : Nat) (b : Bool) (xs : List Int) (h : Sl w ao n cap xs) (hr : n + 30 ≤ 140737488355328) :
    Calls Try.prog 56 #[.slice ao n cap, .bool b] w fun e w' =>
      ∃ v, e = .returned v ∧ w'.ownsRow w.heap.size 5 1 v (n + 1) (bv (xs ++ enb b)) ∧ Below w.heap.size w w' := by
  have hA := h.below ((Below.refl w.heap.size w).alloc (Nat.le_refl _) (.cells #[] 5))
  have hO := own_empty w
  cases b
  · go_enter Try.func56, Try.ntmps56
    go_wp2_with (first | (at_builtin; refine wpList_app rfl (.tmp 11) (.tmp 12) rfl w.heap.size _ _ _ rfl hO _ _ _ _ rfl hA (by omega) (by simp) ?_; intro v1 w1 hown1 hb1; simp only [Nat.zero_add, List.nil_append] at hown1; have hb2 := ((Below.refl w.heap.size w).alloc (Nat.le_refl _) _).trans hb1; have hs2 := hb2.size; clear hb1) | (at_builtin; refine wpList_app rfl (.tmp 13) (.tmp 14) rfl w.heap.size _ _ _ rfl (hown1.alloc _) _ _ _ _ rfl (Sl.one w1 _ (by decide)) (by omega) (by simp; omega) ?_; intro v3 w3 hown3 hb3))
    have hb4 := (hb2.alloc hs2 _).trans hb3
    clear hb2 hown1 hb3
    go_ret
    exact ⟨v3, rfl, hown3, hb4⟩
  · go_enter Try.func56, Try.ntmps56
    go_wp2_with (first | (at_builtin; refine wpList_app rfl (.tmp 6) (.tmp 7) rfl w.heap.size _ _ _ rfl hO _ _ _ _ rfl hA (by omega) (by simp) ?_; intro v1 w1 hown1 hb1; simp only [Nat.zero_add, List.nil_append] at hown1; have hb2 := ((Below.refl w.heap.size w).alloc (Nat.le_refl _) _).trans hb1; have hs2 := hb2.size; clear hb1) | (at_builtin; refine wpList_app rfl (.tmp 8) (.tmp 9) rfl w.heap.size _ _ _ rfl (hown1.alloc _) _ _ _ _ rfl (Sl.one w1 _ (by decide)) (by omega) (by simp; omega) ?_; intro v3 w3 hown3 hb3))
    have hb4 := (hb2.alloc hs2 _).trans hb3
    clear hb2 hown1 hb3
    go_ret
    exact ⟨v3, rfl, hown3, hb4⟩
end Go.Proofs.Ytbfcilfdeemnpaa
