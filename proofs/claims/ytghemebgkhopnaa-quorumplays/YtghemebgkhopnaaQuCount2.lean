/-
  Count: how many have voted for a word.
-/
import Derived.Test.YtghemebgkhopnaaQuCount
namespace Go.Proofs.Ytghemebgkhopnaa
open Go.RowKit

theorem sl_str_le {w : World} {ao : Option Addr} {n cap : Nat} {xs : List Int} (S : Sl w ao n cap xs) : (strOfNums xs).size ≤ maxLen := by
  rw [strOfNums_size, S.len]
  exact Nat.le_trans S.le S.mx
theorem count_nil (w : World) (v : Value) : Calls Try.prog 21 #[.pointer none, v] w fun x w' => x = .returned (.int .i64 0) ∧ w' = w := by
  go_enter Try.func21, Try.ntmps21
  go_wp2
  go_ret
  exact ⟨rfl, rfl⟩
set_option maxRecDepth 100000 in
set_option maxHeartbeats 4000000 in
theorem count_any (w : World) (p f : Nat) (l : List VT) (h : QS w p f l) (ao : Option Addr) (n cap : Nat) (xs : List Int) (S : Sl w ao n cap xs) : Calls Try.prog 21 #[.pointer (some ⟨p, 0, none⟩), .slice ao n cap] w fun x w' =>
    x = .returned (.int .i64 (cntV (strOfNums xs) l : Nat)) ∧ Below w.heap.size w w' := by
  have hle := sl_str_le S
  have HC : Hid (∀ V, Below w.heap.size w V → (convert 28 9 (.slice ao n cap)).run Try.prog V = .ok (.string (strOfNums xs)) V) := fun V hV => conv_str (S.below hV)
  go_enter Try.func21, Try.ntmps21
  go_wp2_with fail
  have E0 : Below w.heap.size w w.drew := (Below.refl _ _).drew
  have Q0 := h.below E0
  refine wp_region_noPanic ?_
  refine wp_region_held_drew (S := fun V => (convert 28 9 (.slice ao n cap)).run Try.prog V = .ok (.string (strOfNums xs)) V) (by kernel_rfl) (HC.out _ E0) (fun H0 => ?_)
  obtain ⟨v0, hv0⟩ : ∃ v, v = w.drew := ⟨_, rfl⟩
  rw [← hv0] at H0 E0 Q0 ⊢
  clear hv0
  refine hr_take_w 0 (some 7) (.pointer (some ⟨p, 0, none⟩)) rfl rfl (by kernel_rfl) (by kernel_rfl) (by kernel_rfl) rfl (fun W hW => by go_simp) H0 ?_
  simp only [Act.put, List.setIfInBounds_toArray, List.set_cons_zero, List.set_cons_succ]
  refine hr_take_w 2 (some 9) (.slice ao n cap) rfl rfl (by kernel_rfl) (by kernel_rfl) (by kernel_rfl) rfl (fun W hW => by go_simp) H0 ?_
  simp only [Act.put, List.setIfInBounds_toArray, List.set_cons_zero, List.set_cons_succ]
  refine hr_take_w 3 (some 10) (.string (strOfNums xs)) rfl rfl (by kernel_rfl) (by kernel_rfl) (by kernel_rfl) rfl (fun W hW => by go_simp) H0 ?_
  simp only [Act.put, List.setIfInBounds_toArray, List.set_cons_zero, List.set_cons_succ]
  refine hr_call_w 1 (some 8) 33 #[.pointer (some ⟨p, 0, none⟩)] rfl rfl (by kernel_rfl) rfl (by go_simp) (fun v w' => ∃ (m : Nat) (F : Value → Option Value), v = .map (some v0.heap.size) ∧ MF w' 9 v0.heap.size m F ∧ Hid (CntS F l) ∧ Below v0.heap.size v0 w') ((counts_any v0 p f l Q0).mono (by
    rintro e w' ⟨m, F, rfl, M, HF, C⟩
    exact ⟨_, rfl, m, F, rfl, M, HF, C⟩)) ?_
  rintro v v1 ⟨m, F, rfl, M, HF, C1⟩
  have E1 := E0.trans (C1.mono E0.size)
  have H1 := HC.out v1 E1
  have hlk := look_c M HF.out (strOfNums xs) hle
  refine ⟨H1, ?_⟩
  simp only [Act.put, List.setIfInBounds_toArray, List.set_cons_zero, List.set_cons_succ]
  refine hr_do 4 (some 11) (.int .i64 (cntV (strOfNums xs) l : Nat)) rfl rfl (by kernel_rfl) rfl (w' := v1) (by go_simp) H1 ?_
  simp only [Act.put, List.setIfInBounds_toArray, List.set_cons_zero, List.set_cons_succ]
  refine hr_take_w 5 (some 4) (.int .i64 (cntV (strOfNums xs) l : Nat)) rfl rfl (by kernel_rfl) (by kernel_rfl) (by kernel_rfl) rfl (fun W hW => by go_simp) H1 ?_
  simp only [Act.put, List.setIfInBounds_toArray, List.set_cons_zero, List.set_cons_succ]
  refine wpAnyH_done (by kernel_rfl) ?_ _
  refine NoPanic.normal ?_
  go_wp2
  go_ret
  exact ⟨rfl, E1⟩
end Go.Proofs.Ytghemebgkhopnaa
