/-
  A contract: wire.withRoom answers a copy of its bytes in a new array that has as much room behind them as was asked.
-/
import Derived.Test.YtmedheecimglkaaDoorBase
namespace Go.Proofs.YtmedheecimglkaaDoor
open Go.RowKit

set_option maxHeartbeats 400000 in
theorem withRoom_any (w : World) (ao : Option Addr) (n cap r : Nat) (xs : List Int) (h : Sl w ao n cap xs) (hr : n + r ≤ 140737488355328) :
    Calls Tryd.prog 90 #[.slice ao n cap, .int .i64 r] w fun e w' =>
      e = .returned (.slice (some ⟨w.heap.size, 0, none⟩) n (n + r)) ∧ w'.ownsRow w.heap.size 5 1 (.slice (some ⟨w.heap.size, 0, none⟩) n (n + r)) n (bv xs) ∧ Below w.heap.size w w' := by
  obtain ⟨i0, hi, hz0, hz1, hz2⟩ := info_parts u8info
  have hl := h.len
  have hnil := h.nil
  have hcells := h.cells
  go_enter Tryd.func90, Tryd.ntmps90
  go_wp2_with (first | (at_make; refine wpList_make_own _ rfl _ _ 23 rfl w.heap.size 5 i0 (.int .u8 0) 1 Tryd.underlying23 hi hz0 hz1 _ _ _ (n + r) rfl rfl (by omega) (by rw [hz2]; omega) (by unfold maxLen; omega) (Nat.le_refl _) ?_; intro w1 hown1 hgrow1) | (at_builtin; refine wpList_append_fits_any _ rfl _ _ 23 rfl w.heap.size 5 i0 1 Tryd.underlying23 hi hz1 w.heap.size 0 (n + r) [] rfl hown1 ao n cap (bv xs) rfl (by rw [bv_length]; omega) hnil (fun ad had j u hu => hgrow1.cell (hcells ad had j u hu) (by simp)) (bv_one xs) (by omega) ?_; intro w2 hown2 hgrow2; simp only [Nat.zero_add, List.nil_append] at hown2) | fail)
  have hb : Below w.heap.size w w2 := ((Below.refl _ w).grown hgrow1 (Nat.le_refl _) (fun k hk => by simp at hk)).grown hgrow2 hgrow1.size (fun k hk => by simp at hk; omega)
  go_ret
  exact ⟨rfl, hown2, hb⟩
end Go.Proofs.YtmedheecimglkaaDoor
