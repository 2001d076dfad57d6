/-
  Texts in one: SlInsort, SlSorted, SlCerts, SlAsk, SlAlive, SlLT, SlLU, SlTwoM, SlTU, SlTB, SlTW, SlTN, NumL, SlTO, Same.
-/
import Derived.Test.YtbbhokodleaheaaSlotsTwoQFL
import Derived.Test.YtbbhokodleaheaaSlotsTwoQ2
import Derived.Test.YtbbhokodleaheaaSlotsTwoQ1
import Derived.Test.YtbbhokodleaheaaSlotsTwoQ0
import Derived.OwnWalk
import Derived.Lib.SmallJoins
import Derived.Deep.QuietTactic
import Derived.BigQuiet
namespace Go.Proofs.Ytbbhokodleaheaa
open Go.RowKit
theorem uvr_at {w : World} {gb : Nat} {L : List Nat} {rest : List Value} (h : Arr w gb 30 (uv L ++ rest)) (j : Nat) (hj : j < L.length) : w.cell? ⟨gb, j, none⟩ = some (.int .u64 (L.getD j 0 : Nat)) := by
  rw [h.cell, List.getElem?_append_left (by rw [uv_len]; exact hj)]
  simp [uv, List.getD, hj]
theorem uv_set (L : List Nat) (rest : List Value) (j v : Nat) (h : j < L.length) : (uv L ++ rest).set j (.int .u64 (v : Nat)) = uv (L.set j v) ++ rest := by
  rw [List.set_append_left _ _ (by rw [uv_len]; exact h)]
  simp [uv, List.map_set]
theorem less_at (w : World) (x y : Nat) {b : Bool} (h : decide (x < y) = b) : Calls Try.prog 87 #[.int .u64 (x : Nat), .int .u64 (y : Nat)] w fun e w' => e = .returned (.bool b) ∧ Below w.heap.size w w' := by
  refine (less_u x y w).mono ?_
  rintro e w' ⟨rfl, rfl⟩
  exact ⟨by rw [h], Below.refl _ _⟩
def SortPost (w : World) (gb : Nat) (L : List Nat) (rest : List Value) (e : Ending) (w' : World) : Prop := ∃ L', e = .returned (.tuple #[]) ∧ L'.Perm L ∧ L'.Pairwise (· ≤ ·) ∧ Arr w' gb 30 (uv L' ++ rest) ∧ w.grownBy w' (some gb)
set_option maxRecDepth 100000 in
set_option maxHeartbeats 4000000 in
theorem insort_u (w : World) (gb n cap : Nat) (L0 : List Nat) (rest : List Value) (hA : Arr w gb 30 (uv L0 ++ rest)) (hl : L0.length = n) (hn : n ≤ 8) :
    Calls Try.prog 81 #[.slice (some ⟨gb, 0, none⟩) n cap, .int .i64 0, .int .i64 (n : Nat)] w (SortPost w gb L0 rest) := by
  go_enter Try.func81, Try.ntmps81
  go_wp2
  go_loopw [6] (fun i wr => ∃ (k : Nat) (L : List Nat), i = .int .i64 (k : Nat) ∧ 1 ≤ k ∧ (k ≤ n ∨ k = 1) ∧ L.Perm L0 ∧ SoTo L k ∧ Arr wr gb 30 (uv L ++ rest) ∧ w.grownBy wr (some gb)) (fun i _ => 10 - (intOf i).toNat)
  case atStart => exact ⟨1, L0, rfl, Nat.le_refl _, .inr rfl, List.Perm.refl _, fun a b h1 h2 => by omega, hA, bel_grown (Below.refl _ _) _⟩
  case round =>
    obtain ⟨k, L, rfl, hk1, hk2, hP, hS, HA0, HG0⟩ := hrel
    have hL := hP.length_eq
    by_cases hlt : k < n
    · have hki : (k : Int) < (n : Int) := by omega
      have hS2 : Hid (Ins L k k) := hS.ins
      clear hS
      go_wp2
      go_loopw [7] (fun jv wr => ∃ (j : Nat) (L : List Nat), jv = .int .i64 (j : Nat) ∧ j ≤ k ∧ L.Perm L0 ∧ Hid (Ins L k j) ∧ Arr wr gb 30 (uv L ++ rest) ∧ w.grownBy wr (some gb)) (fun j _ => (intOf j).toNat)
      case atStart => exact ⟨k, L, rfl, Nat.le_refl _, hP, hS2, HA0, HG0⟩
      case round =>
        obtain ⟨j, L, rfl, hjk, hP, hI, HA, HG⟩ := hrel
        have hL := hP.length_eq
        by_cases hj0 : 0 < j
        · have hj1 : (0 : Int) < (j : Int) := by omega
          have iw : IntKind.i64.wrap ((j : Int) - 1) = (j : Int) - 1 := by rw [IntKind.wrap_i64]; omega
          have jn : ((j : Int) - 1).toNat = j - 1 := by omega
          have q1 : ¬ n ≤ j := by omega
          have q2 : ¬ (n : Int) ≤ (j : Int) - 1 := by omega
          have q3 : (1 : Int) ≤ (j : Int) := by omega
          by_cases hlt2 : L.getD j 0 < L.getD (j - 1) 0
          · have hless : decide (L.getD j 0 < L.getD (j - 1) 0) = true := decide_eq_true hlt2
            have hIn2 : Hid (Ins (swp L j) k (j - 1)) := hI.out.step hj0 hjk (by omega) hlt2
            clear hlt2
            go_wp2_with fail
            have tHS : Hid (∀ V, Below wr.heap.size wr V → V.cell? ⟨gb, j, none⟩ = some (.int .u64 (L.getD j 0 : Nat)) ∧ V.cell? ⟨gb, j - 1, none⟩ = some (.int .u64 (L.getD (j - 1) 0 : Nat))) := fun V hV => by have K := Arr.below HA hV HA.lt; exact ⟨uvr_at K j (by omega), uvr_at K (j - 1) (by omega)⟩
            have tE0 : Below wr.heap.size wr wr.drew := (Below.refl _ _).drew
            refine wp_region_noPanic ?_
            refine wp_region_held_drew (S := fun V => V.cell? ⟨gb, j, none⟩ = some (.int .u64 (L.getD j 0 : Nat)) ∧ V.cell? ⟨gb, j - 1, none⟩ = some (.int .u64 (L.getD (j - 1) 0 : Nat))) (by kernel_rfl) (tHS.out _ tE0) (fun tH0 => ?_)
            obtain ⟨tv0, hv0⟩ : ∃ v, v = wr.drew := ⟨_, rfl⟩
            rw [← hv0] at tH0 tE0 ⊢
            clear hv0
            refine hr_take_w 0 (some 16) (.int .i64 (j : Nat)) rfl rfl (by kernel_rfl) (by kernel_rfl) (by kernel_rfl) rfl (fun W hW => by obtain ⟨h0, h1⟩ := hW; go_simp) tH0 ?_
            simp only [FL]
            refine hr_take_w 1 (some 17) (.int .i64 0) rfl rfl (by kernel_rfl) (by kernel_rfl) (by kernel_rfl) rfl (fun W hW => by obtain ⟨h0, h1⟩ := hW; go_simp) tH0 ?_
            simp only [FL]
            refine hr_take_w 2 (some 18) (.bool true) rfl rfl (by kernel_rfl) (by kernel_rfl) (by kernel_rfl) rfl (fun W hW => by obtain ⟨h0, h1⟩ := hW; go_simp) tH0 ?_
            simp only [FL]
            refine hr_take_w 3 (some 19) (.bool true) rfl rfl (by kernel_rfl) (by kernel_rfl) (by kernel_rfl) rfl (fun W hW => by obtain ⟨h0, h1⟩ := hW; go_simp) tH0 ?_
            simp only [FL]
            refine hr_take_w 4 (some 20) (.slice (some ⟨gb, 0, none⟩) n cap) rfl rfl (by kernel_rfl) (by kernel_rfl) (by kernel_rfl) rfl (fun W hW => by obtain ⟨h0, h1⟩ := hW; go_simp) tH0 ?_
            simp only [FL]
            refine hr_take_w 5 (some 21) (.int .i64 (j : Nat)) rfl rfl (by kernel_rfl) (by kernel_rfl) (by kernel_rfl) rfl (fun W hW => by obtain ⟨h0, h1⟩ := hW; go_simp) tH0 ?_
            simp only [FL]
            refine hr_take_w 6 (some 22) (.pointer (some ⟨gb, j, none⟩)) rfl rfl (by kernel_rfl) (by kernel_rfl) (by kernel_rfl) rfl (fun W hW => by obtain ⟨h0, h1⟩ := hW; go_simp) tH0 ?_
            simp only [FL]
            refine hr_take_w 7 (some 23) (.int .u64 (L.getD j 0 : Nat)) rfl rfl (by kernel_rfl) (by kernel_rfl) (by kernel_rfl) rfl (fun W hW => by obtain ⟨h0, h1⟩ := hW; go_simp) tH0 ?_
            simp only [FL]
            refine hr_take_w 8 (some 24) (.slice (some ⟨gb, 0, none⟩) n cap) rfl rfl (by kernel_rfl) (by kernel_rfl) (by kernel_rfl) rfl (fun W hW => by obtain ⟨h0, h1⟩ := hW; go_simp) tH0 ?_
            simp only [FL]
            refine hr_take_w 9 (some 25) (.int .i64 (j : Nat)) rfl rfl (by kernel_rfl) (by kernel_rfl) (by kernel_rfl) rfl (fun W hW => by obtain ⟨h0, h1⟩ := hW; go_simp) tH0 ?_
            simp only [FL]
            refine hr_take_w 10 (some 26) (.int .i64 ((j : Int) - 1)) rfl rfl (by kernel_rfl) (by kernel_rfl) (by kernel_rfl) rfl (fun W hW => by obtain ⟨h0, h1⟩ := hW; go_simp) tH0 ?_
            simp only [FL]
            refine hr_take_w 11 (some 27) (.pointer (some ⟨gb, j - 1, none⟩)) rfl rfl (by kernel_rfl) (by kernel_rfl) (by kernel_rfl) rfl (fun W hW => by obtain ⟨h0, h1⟩ := hW; go_simp) tH0 ?_
            simp only [FL]
            refine hr_take_w 12 (some 28) (.int .u64 (L.getD (j - 1) 0 : Nat)) rfl rfl (by kernel_rfl) (by kernel_rfl) (by kernel_rfl) rfl (fun W hW => by obtain ⟨h0, h1⟩ := hW; go_simp) tH0 ?_
            simp only [FL]
            refine hr_call_w 13 (some 29) 87 #[.int .u64 (L.getD j 0 : Nat), .int .u64 (L.getD (j - 1) 0 : Nat)] rfl rfl (by kernel_rfl) rfl (by go_simp) (fun v w' => v = .bool true ∧ Below tv0.heap.size tv0 w') ((less_at tv0 _ _ hless).mono (by
              rintro e w' ⟨rfl, C⟩
              exact ⟨_, rfl, rfl, C⟩)) ?_
            rintro v tv1 ⟨rfl, tC0⟩
            have tE1 := tE0.trans (tC0.mono tE0.size)
            have tH1 := tHS.out tv1 tE1
            refine ⟨tH1, ?_⟩
            simp only [FL]
            refine hr_take_w 14 (some 30) (.bool true) rfl rfl (by kernel_rfl) (by kernel_rfl) (by kernel_rfl) rfl (fun W hW => by obtain ⟨h0, h1⟩ := hW; go_simp) tH1 ?_
            simp only [FL]
            refine wpAnyH_done (by kernel_rfl) ?_ _
            refine NoPanic.normal ?_
            have HA1 := Arr.below HA tE1 HA.lt
            go_wp2_with fail
            have uE0 : Below tv1.heap.size tv1 tv1.drew := (Below.refl _ _).drew
            refine wp_region_noPanic ?_
            refine wp_region_held_drew (S := fun _ => True) (by kernel_rfl) trivial (fun _ => ?_)
            obtain ⟨uv0, hv0⟩ : ∃ v, v = tv1.drew := ⟨_, rfl⟩
            rw [← hv0] at uE0 ⊢
            clear hv0
            have A1 := Arr.below HA1 uE0 HA1.lt
            have c0 := uvr_at A1 j (by omega)
            have c1 := uvr_at A1 (j - 1) (by omega)
            refine hr_take_w 0 (some 33) (.slice (some ⟨gb, 0, none⟩) n cap) rfl rfl (by kernel_rfl) (by kernel_rfl) (by kernel_rfl) rfl (fun W hW => by go_simp) trivial ?_
            simp only [FL]
            refine hr_take_w 1 (some 34) (.int .i64 (j : Nat)) rfl rfl (by kernel_rfl) (by kernel_rfl) (by kernel_rfl) rfl (fun W hW => by go_simp) trivial ?_
            simp only [FL]
            refine hr_take_w 2 (some 35) (.slice (some ⟨gb, 0, none⟩) n cap) rfl rfl (by kernel_rfl) (by kernel_rfl) (by kernel_rfl) rfl (fun W hW => by go_simp) trivial ?_
            simp only [FL]
            refine hr_take_w 3 (some 36) (.int .i64 (j : Nat)) rfl rfl (by kernel_rfl) (by kernel_rfl) (by kernel_rfl) rfl (fun W hW => by go_simp) trivial ?_
            simp only [FL]
            refine hr_take_w 4 (some 37) (.int .i64 ((j : Int) - 1)) rfl rfl (by kernel_rfl) (by kernel_rfl) (by kernel_rfl) rfl (fun W hW => by go_simp) trivial ?_
            simp only [FL]
            refine hr_take_w 5 (some 38) (.slice (some ⟨gb, 0, none⟩) n cap) rfl rfl (by kernel_rfl) (by kernel_rfl) (by kernel_rfl) rfl (fun W hW => by go_simp) trivial ?_
            simp only [FL]
            refine hr_take_w 6 (some 39) (.int .i64 (j : Nat)) rfl rfl (by kernel_rfl) (by kernel_rfl) (by kernel_rfl) rfl (fun W hW => by go_simp) trivial ?_
            simp only [FL]
            refine hr_take_w 7 (some 40) (.int .i64 ((j : Int) - 1)) rfl rfl (by kernel_rfl) (by kernel_rfl) (by kernel_rfl) rfl (fun W hW => by go_simp) trivial ?_
            simp only [FL]
            refine hr_take_w 10 (some 43) (.slice (some ⟨gb, 0, none⟩) n cap) rfl rfl (by kernel_rfl) (by kernel_rfl) (by kernel_rfl) rfl (fun W hW => by go_simp) trivial ?_
            simp only [FL]
            refine hr_take_w 11 (some 44) (.int .i64 (j : Nat)) rfl rfl (by kernel_rfl) (by kernel_rfl) (by kernel_rfl) rfl (fun W hW => by go_simp) trivial ?_
            simp only [FL]
            refine hr_take_w 8 (some 41) (.pointer (some ⟨gb, j - 1, none⟩)) rfl rfl (by kernel_rfl) (by kernel_rfl) (by kernel_rfl) rfl (fun W hW => by go_simp) trivial ?_
            simp only [FL]
            refine hr_take_w 12 (some 45) (.pointer (some ⟨gb, j, none⟩)) rfl rfl (by kernel_rfl) (by kernel_rfl) (by kernel_rfl) rfl (fun W hW => by go_simp) trivial ?_
            simp only [FL]
            refine hr_two (i := 9) (j := 13) (by kernel_rfl) ?_ ?_
            · refine op_ex 9 (some 42) rfl rfl rfl (R := fun v w' => v = .int .u64 (L.getD (j - 1) 0 : Nat) ∧ w' = uv0) ⟨_, _, by go_simp, rfl, rfl⟩ ?_
              rintro v w' ⟨rfl, rfl⟩
              refine ⟨trivial, ?_⟩
              simp only [FL]
              refine hr_do 13 (some 46) (.int .u64 (L.getD j 0 : Nat)) rfl rfl (by kernel_rfl) rfl (w' := w') (by go_simp) trivial ?_
              simp only [FL]
              refine hr_take_w 14 (some 47) (.pointer (some ⟨gb, j, none⟩)) rfl rfl (by kernel_rfl) (by kernel_rfl) (by kernel_rfl) rfl (fun W hW => by go_simp) trivial ?_
              simp only [FL]
              have f0 := A1.free j
              have A2 := A1.set j (.int .u64 (L.getD (j - 1) 0 : Nat))
              have c2 : (w'.setCell ⟨gb, j, none⟩ (.int .u64 (L.getD (j - 1) 0 : Nat))).cell? ⟨gb, j - 1, none⟩ = some (.int .u64 (L.getD (j - 1) 0 : Nat)) := by
                have := uvr_at (rest := rest) (L := L.set j (L.getD (j - 1) 0)) (by rw [uv_set L rest j _ (by omega)] at A2; exact A2) (j - 1) (by rw [List.length_set]; omega)
                rw [gset _ _ _ _ (by omega), if_neg (by omega)] at this
                exact this
              have f2 := A2.free (j - 1)
              have A3 := A2.set (j - 1) (.int .u64 (L.getD j 0 : Nat))
              have G2 : w'.grownBy (w'.setCell ⟨gb, j, none⟩ (.int .u64 (L.getD (j - 1) 0 : Nat))) (some gb) := grown_set (bel_grown (Below.refl _ w') (some gb)) j _
              obtain ⟨w2, hw2⟩ : ∃ v, v = w'.setCell ⟨gb, j, none⟩ (.int .u64 (L.getD (j - 1) 0 : Nat)) := ⟨_, rfl⟩
              refine hr_skip 15 none (w' := w2) rfl rfl (by kernel_rfl) rfl (by rw [hw2]; clear hw2; go_simp) trivial ?_
              rw [← hw2] at A2 A3 G2 c2 f2
              clear hw2
              simp only [Act.put]
              refine hr_take_w 16 (some 48) (.pointer (some ⟨gb, j - 1, none⟩)) rfl rfl (by kernel_rfl) (by kernel_rfl) (by kernel_rfl) rfl (fun W hW => by go_simp) trivial ?_
              simp only [FL]
              have G3 : w2.grownBy (w2.setCell ⟨gb, j - 1, none⟩ (.int .u64 (L.getD j 0 : Nat))) (some gb) := grown_set (bel_grown (Below.refl _ w2) (some gb)) (j - 1) _
              obtain ⟨w3, hw3⟩ : ∃ v, v = w2.setCell ⟨gb, j - 1, none⟩ (.int .u64 (L.getD j 0 : Nat)) := ⟨_, rfl⟩
              refine hr_skip 17 none (w' := w3) rfl rfl (by kernel_rfl) rfl (by rw [hw3]; clear hw3; go_simp) trivial ?_
              rw [← hw3] at A3 G3
              clear hw3
              simp only [Act.put]
              refine wpAnyH_done (by kernel_rfl) ?_ _
              refine NoPanic.normal ?_
              have A4 : Arr w3 gb 30 (uv (swp L j) ++ rest) := by
                rw [uv_set L rest j _ (by omega), uv_set _ rest (j - 1) _ (by rw [List.length_set]; omega)] at A3
                exact A3
              have G4 : w.grownBy w3 (some gb) := gro_trans (gro_trans (gro_trans (gro_trans HG (bel_grown tE1 _)) (bel_grown uE0 _)) G2) G3
              clear A1 A2 A3 c0 c1 c2 f0 f2
              go_wp2
              go_roundw
              case rel => exact ⟨j - 1, swp L j, by go_num, by omega, (swp_perm L j hj0 (by omega)).trans hP, hIn2, A4, G4⟩
              case measure => simp [intOf]; omega
            · refine op_ex 13 (some 46) rfl rfl rfl (R := fun v w' => v = .int .u64 (L.getD j 0 : Nat) ∧ w' = uv0) ⟨_, _, by go_simp, rfl, rfl⟩ ?_
              rintro v w' ⟨rfl, rfl⟩
              refine ⟨trivial, ?_⟩
              simp only [FL]
              refine hr_do 9 (some 42) (.int .u64 (L.getD (j - 1) 0 : Nat)) rfl rfl (by kernel_rfl) rfl (w' := w') (by go_simp) trivial ?_
              simp only [FL]
              refine hr_take_w 14 (some 47) (.pointer (some ⟨gb, j, none⟩)) rfl rfl (by kernel_rfl) (by kernel_rfl) (by kernel_rfl) rfl (fun W hW => by go_simp) trivial ?_
              simp only [FL]
              have f0 := A1.free j
              have A2 := A1.set j (.int .u64 (L.getD (j - 1) 0 : Nat))
              have c2 : (w'.setCell ⟨gb, j, none⟩ (.int .u64 (L.getD (j - 1) 0 : Nat))).cell? ⟨gb, j - 1, none⟩ = some (.int .u64 (L.getD (j - 1) 0 : Nat)) := by
                have := uvr_at (rest := rest) (L := L.set j (L.getD (j - 1) 0)) (by rw [uv_set L rest j _ (by omega)] at A2; exact A2) (j - 1) (by rw [List.length_set]; omega)
                rw [gset _ _ _ _ (by omega), if_neg (by omega)] at this
                exact this
              have f2 := A2.free (j - 1)
              have A3 := A2.set (j - 1) (.int .u64 (L.getD j 0 : Nat))
              have G2 : w'.grownBy (w'.setCell ⟨gb, j, none⟩ (.int .u64 (L.getD (j - 1) 0 : Nat))) (some gb) := grown_set (bel_grown (Below.refl _ w') (some gb)) j _
              obtain ⟨w2, hw2⟩ : ∃ v, v = w'.setCell ⟨gb, j, none⟩ (.int .u64 (L.getD (j - 1) 0 : Nat)) := ⟨_, rfl⟩
              refine hr_skip 15 none (w' := w2) rfl rfl (by kernel_rfl) rfl (by rw [hw2]; clear hw2; go_simp) trivial ?_
              rw [← hw2] at A2 A3 G2 c2 f2
              clear hw2
              simp only [Act.put]
              refine hr_take_w 16 (some 48) (.pointer (some ⟨gb, j - 1, none⟩)) rfl rfl (by kernel_rfl) (by kernel_rfl) (by kernel_rfl) rfl (fun W hW => by go_simp) trivial ?_
              simp only [FL]
              have G3 : w2.grownBy (w2.setCell ⟨gb, j - 1, none⟩ (.int .u64 (L.getD j 0 : Nat))) (some gb) := grown_set (bel_grown (Below.refl _ w2) (some gb)) (j - 1) _
              obtain ⟨w3, hw3⟩ : ∃ v, v = w2.setCell ⟨gb, j - 1, none⟩ (.int .u64 (L.getD j 0 : Nat)) := ⟨_, rfl⟩
              refine hr_skip 17 none (w' := w3) rfl rfl (by kernel_rfl) rfl (by rw [hw3]; clear hw3; go_simp) trivial ?_
              rw [← hw3] at A3 G3
              clear hw3
              simp only [Act.put]
              refine wpAnyH_done (by kernel_rfl) ?_ _
              refine NoPanic.normal ?_
              have A4 : Arr w3 gb 30 (uv (swp L j) ++ rest) := by
                rw [uv_set L rest j _ (by omega), uv_set _ rest (j - 1) _ (by rw [List.length_set]; omega)] at A3
                exact A3
              have G4 : w.grownBy w3 (some gb) := gro_trans (gro_trans (gro_trans (gro_trans HG (bel_grown tE1 _)) (bel_grown uE0 _)) G2) G3
              clear A1 A2 A3 c0 c1 c2 f0 f2
              go_wp2
              go_roundw
              case rel => exact ⟨j - 1, swp L j, by go_num, by omega, (swp_perm L j hj0 (by omega)).trans hP, hIn2, A4, G4⟩
              case measure => simp [intOf]; omega
          · have hless : decide (L.getD j 0 < L.getD (j - 1) 0) = false := decide_eq_false hlt2
            have hD : Hid (SoTo L (k + 1)) := hI.out.done (.inr hlt2)
            clear hlt2
            go_wp2_with fail
            have tHS : Hid (∀ V, Below wr.heap.size wr V → V.cell? ⟨gb, j, none⟩ = some (.int .u64 (L.getD j 0 : Nat)) ∧ V.cell? ⟨gb, j - 1, none⟩ = some (.int .u64 (L.getD (j - 1) 0 : Nat))) := fun V hV => by have K := Arr.below HA hV HA.lt; exact ⟨uvr_at K j (by omega), uvr_at K (j - 1) (by omega)⟩
            have tE0 : Below wr.heap.size wr wr.drew := (Below.refl _ _).drew
            refine wp_region_noPanic ?_
            refine wp_region_held_drew (S := fun V => V.cell? ⟨gb, j, none⟩ = some (.int .u64 (L.getD j 0 : Nat)) ∧ V.cell? ⟨gb, j - 1, none⟩ = some (.int .u64 (L.getD (j - 1) 0 : Nat))) (by kernel_rfl) (tHS.out _ tE0) (fun tH0 => ?_)
            obtain ⟨tv0, hv0⟩ : ∃ v, v = wr.drew := ⟨_, rfl⟩
            rw [← hv0] at tH0 tE0 ⊢
            clear hv0
            refine hr_take_w 0 (some 16) (.int .i64 (j : Nat)) rfl rfl (by kernel_rfl) (by kernel_rfl) (by kernel_rfl) rfl (fun W hW => by obtain ⟨h0, h1⟩ := hW; go_simp) tH0 ?_
            simp only [FL]
            refine hr_take_w 1 (some 17) (.int .i64 0) rfl rfl (by kernel_rfl) (by kernel_rfl) (by kernel_rfl) rfl (fun W hW => by obtain ⟨h0, h1⟩ := hW; go_simp) tH0 ?_
            simp only [FL]
            refine hr_take_w 2 (some 18) (.bool true) rfl rfl (by kernel_rfl) (by kernel_rfl) (by kernel_rfl) rfl (fun W hW => by obtain ⟨h0, h1⟩ := hW; go_simp) tH0 ?_
            simp only [FL]
            refine hr_take_w 3 (some 19) (.bool true) rfl rfl (by kernel_rfl) (by kernel_rfl) (by kernel_rfl) rfl (fun W hW => by obtain ⟨h0, h1⟩ := hW; go_simp) tH0 ?_
            simp only [FL]
            refine hr_take_w 4 (some 20) (.slice (some ⟨gb, 0, none⟩) n cap) rfl rfl (by kernel_rfl) (by kernel_rfl) (by kernel_rfl) rfl (fun W hW => by obtain ⟨h0, h1⟩ := hW; go_simp) tH0 ?_
            simp only [FL]
            refine hr_take_w 5 (some 21) (.int .i64 (j : Nat)) rfl rfl (by kernel_rfl) (by kernel_rfl) (by kernel_rfl) rfl (fun W hW => by obtain ⟨h0, h1⟩ := hW; go_simp) tH0 ?_
            simp only [FL]
            refine hr_take_w 6 (some 22) (.pointer (some ⟨gb, j, none⟩)) rfl rfl (by kernel_rfl) (by kernel_rfl) (by kernel_rfl) rfl (fun W hW => by obtain ⟨h0, h1⟩ := hW; go_simp) tH0 ?_
            simp only [FL]
            refine hr_take_w 7 (some 23) (.int .u64 (L.getD j 0 : Nat)) rfl rfl (by kernel_rfl) (by kernel_rfl) (by kernel_rfl) rfl (fun W hW => by obtain ⟨h0, h1⟩ := hW; go_simp) tH0 ?_
            simp only [FL]
            refine hr_take_w 8 (some 24) (.slice (some ⟨gb, 0, none⟩) n cap) rfl rfl (by kernel_rfl) (by kernel_rfl) (by kernel_rfl) rfl (fun W hW => by obtain ⟨h0, h1⟩ := hW; go_simp) tH0 ?_
            simp only [FL]
            refine hr_take_w 9 (some 25) (.int .i64 (j : Nat)) rfl rfl (by kernel_rfl) (by kernel_rfl) (by kernel_rfl) rfl (fun W hW => by obtain ⟨h0, h1⟩ := hW; go_simp) tH0 ?_
            simp only [FL]
            refine hr_take_w 10 (some 26) (.int .i64 ((j : Int) - 1)) rfl rfl (by kernel_rfl) (by kernel_rfl) (by kernel_rfl) rfl (fun W hW => by obtain ⟨h0, h1⟩ := hW; go_simp) tH0 ?_
            simp only [FL]
            refine hr_take_w 11 (some 27) (.pointer (some ⟨gb, j - 1, none⟩)) rfl rfl (by kernel_rfl) (by kernel_rfl) (by kernel_rfl) rfl (fun W hW => by obtain ⟨h0, h1⟩ := hW; go_simp) tH0 ?_
            simp only [FL]
            refine hr_take_w 12 (some 28) (.int .u64 (L.getD (j - 1) 0 : Nat)) rfl rfl (by kernel_rfl) (by kernel_rfl) (by kernel_rfl) rfl (fun W hW => by obtain ⟨h0, h1⟩ := hW; go_simp) tH0 ?_
            simp only [FL]
            refine hr_call_w 13 (some 29) 87 #[.int .u64 (L.getD j 0 : Nat), .int .u64 (L.getD (j - 1) 0 : Nat)] rfl rfl (by kernel_rfl) rfl (by go_simp) (fun v w' => v = .bool false ∧ Below tv0.heap.size tv0 w') ((less_at tv0 _ _ hless).mono (by
              rintro e w' ⟨rfl, C⟩
              exact ⟨_, rfl, rfl, C⟩)) ?_
            rintro v tv1 ⟨rfl, tC0⟩
            have tE1 := tE0.trans (tC0.mono tE0.size)
            have tH1 := tHS.out tv1 tE1
            refine ⟨tH1, ?_⟩
            simp only [FL]
            refine hr_take_w 14 (some 30) (.bool false) rfl rfl (by kernel_rfl) (by kernel_rfl) (by kernel_rfl) rfl (fun W hW => by obtain ⟨h0, h1⟩ := hW; go_simp) tH1 ?_
            simp only [FL]
            refine wpAnyH_done (by kernel_rfl) ?_ _
            refine NoPanic.normal ?_
            have HA1 := Arr.below HA tE1 HA.lt
            go_wp2
            go_roundw
            case rel => exact ⟨k + 1, L, by go_num, by omega, .inl (by omega), hP, hD.out, HA1, gro_trans HG (bel_grown tE1 _)⟩
            case measure => simp [intOf]; omega
        · obtain rfl : j = 0 := by omega
          have hD : Hid (SoTo L (k + 1)) := hI.out.done (.inl rfl)
          go_wp2_with fail
          have tHS : Hid (∀ V, Below wr.heap.size wr V → True) := fun _ _ => trivial
          have tE0 : Below wr.heap.size wr wr.drew := (Below.refl _ _).drew
          refine wp_region_noPanic ?_
          refine wp_region_held_drew (S := fun V => True) (by kernel_rfl) (tHS.out _ tE0) (fun tH0 => ?_)
          obtain ⟨tv0, hv0⟩ : ∃ v, v = wr.drew := ⟨_, rfl⟩
          rw [← hv0] at tE0 ⊢
          clear hv0
          refine hr_take_w 0 (some 16) (.int .i64 ((0 : Nat) : Int)) rfl rfl (by kernel_rfl) (by kernel_rfl) (by kernel_rfl) rfl (fun W hW => by go_simp) tH0 ?_
          simp only [FL]
          refine hr_take_w 1 (some 17) (.int .i64 0) rfl rfl (by kernel_rfl) (by kernel_rfl) (by kernel_rfl) rfl (fun W hW => by go_simp) tH0 ?_
          simp only [FL]
          refine hr_take_w 2 (some 18) (.bool false) rfl rfl (by kernel_rfl) (by kernel_rfl) (by kernel_rfl) rfl (fun W hW => by go_simp) tH0 ?_
          simp only [FL]
          refine hr_take_w 3 (some 19) (.bool false) rfl rfl (by kernel_rfl) (by kernel_rfl) (by kernel_rfl) rfl (fun W hW => by go_simp) tH0 ?_
          simp only [FL]
          refine hr_none 4 (some 20) rfl rfl (by kernel_rfl) (by kernel_rfl) (by kernel_rfl) rfl tH0 ?_
          simp only [FL]
          refine hr_none 5 (some 21) rfl rfl (by kernel_rfl) (by kernel_rfl) (by kernel_rfl) rfl tH0 ?_
          simp only [FL]
          refine hr_none 6 (some 22) rfl rfl (by kernel_rfl) (by kernel_rfl) (by kernel_rfl) rfl tH0 ?_
          simp only [FL]
          refine hr_none 7 (some 23) rfl rfl (by kernel_rfl) (by kernel_rfl) (by kernel_rfl) rfl tH0 ?_
          simp only [FL]
          refine hr_none 8 (some 24) rfl rfl (by kernel_rfl) (by kernel_rfl) (by kernel_rfl) rfl tH0 ?_
          simp only [FL]
          refine hr_none 9 (some 25) rfl rfl (by kernel_rfl) (by kernel_rfl) (by kernel_rfl) rfl tH0 ?_
          simp only [FL]
          refine hr_none 10 (some 26) rfl rfl (by kernel_rfl) (by kernel_rfl) (by kernel_rfl) rfl tH0 ?_
          simp only [FL]
          refine hr_none 11 (some 27) rfl rfl (by kernel_rfl) (by kernel_rfl) (by kernel_rfl) rfl tH0 ?_
          simp only [FL]
          refine hr_none 12 (some 28) rfl rfl (by kernel_rfl) (by kernel_rfl) (by kernel_rfl) rfl tH0 ?_
          simp only [FL]
          refine hr_none 13 (some 29) rfl rfl (by kernel_rfl) (by kernel_rfl) (by kernel_rfl) rfl tH0 ?_
          simp only [FL]
          refine hr_take_w 14 (some 30) (.bool false) rfl rfl (by kernel_rfl) (by kernel_rfl) (by kernel_rfl) rfl (fun W hW => by go_simp) tH0 ?_
          simp only [FL]
          refine wpAnyH_done (by kernel_rfl) ?_ _
          refine NoPanic.normal ?_
          have HA1 := Arr.below HA tE0 HA.lt
          go_wp2
          go_roundw
          case rel => exact ⟨k + 1, L, by go_num, by omega, .inl (by omega), hP, hD.out, HA1, gro_trans HG (bel_grown tE0 _)⟩
          case measure => simp [intOf]; omega
    · have hge : ¬ (k : Int) < (n : Int) := by omega
      have hS3 : L.Pairwise (· ≤ ·) := SoTo.pair fun a b hab hb => hS a b hab (by omega)
      go_wp2
      go_end0
      exact ⟨L, rfl, hP, hS3, HA0, HG0⟩
open Go.RowKit Go.Shelf
attribute [local go_sem] Oper.semAt_some
theorem insort_nil (w : World) : Calls Try.prog 81 #[.slice none 0 0, .int .i64 0, .int .i64 0] w fun e w' => e = .returned (.tuple #[]) ∧ w' = w := by
  go_enter Try.func81, Try.ntmps81
  go_wp2
  refine wp_loop_rounds 1 ?_
  rw [rounds_succ]
  go_wp2
  go_end0
  exact ⟨rfl, rfl⟩
set_option maxRecDepth 100000 in
set_option maxHeartbeats 4000000 in
theorem pdq_nil (w : World) (lim : Int) : Calls Try.prog 77 #[.slice none 0 0, .int .i64 0, .int .i64 0, .int .i64 lim] w fun e w' => e = .returned (.tuple #[]) ∧ w' = w := by
  have CI := insort_nil w
  go_enter Try.func77, Try.ntmps77
  go_wp2
  refine wp_loop_rounds 1 ?_
  rw [rounds_succ]
  go_wp2_with (go_at_call 81; refine CI.mono ?_; rintro e w1 ⟨rfl, hw1⟩; have hw1 := hw1.symm; subst hw1)
  refine bodyPost_ret (results_none rfl _ _ _) rfl ?_
  exact ⟨rfl, rfl⟩
set_option maxRecDepth 100000 in
set_option maxHeartbeats 4000000 in
theorem pdq_u (w : World) (gb n cap : Nat) (L : List Nat) (rest : List Value) (hA : Arr w gb 30 (uv L ++ rest)) (hl : L.length = n) (hn : n ≤ 8) (lim : Int) :
    Calls Try.prog 77 #[.slice (some ⟨gb, 0, none⟩) n cap, .int .i64 0, .int .i64 (n : Nat), .int .i64 lim] w (SortPost w gb L rest) := by
  have CI := insort_u w gb n cap L rest hA hl hn
  have h12 : (n : Int) ≤ 12 := by omega
  clear hA hl
  go_enter Try.func77, Try.ntmps77
  go_wp2
  refine wp_loop_rounds 1 ?_
  rw [rounds_succ]
  go_wp2_with (go_at_call 81; refine CI.mono ?_; rintro e w1 ⟨L', rfl, h1⟩)
  go_end0
  exact ⟨L', rfl, h1⟩
set_option maxRecDepth 100000 in
set_option maxHeartbeats 4000000 in
theorem sort_nil (w : World) : Calls Try.prog 65 #[.slice none 0 0] w fun e w' => e = .returned (.tuple #[]) ∧ w' = w := by
  have CL := len_u 0 (by omega) w
  have CP := fun lim => pdq_nil w lim
  go_enter Try.func65, Try.ntmps65
  go_wp2_with (first
    | (go_at_call 78; refine CL.mono ?_; rintro e w1 ⟨⟨x, rfl⟩, hw1⟩; have hw1 := hw1.symm; subst hw1)
    | (go_at_call 77; refine (CP _).mono ?_; rintro e w1 ⟨rfl, hw1⟩; have hw1 := hw1.symm; subst hw1))
  go_end0
  exact ⟨rfl, rfl⟩
set_option maxRecDepth 100000 in
set_option maxHeartbeats 4000000 in
theorem sort_u (w : World) (gb n cap : Nat) (L : List Nat) (rest : List Value) (hA : Arr w gb 30 (uv L ++ rest)) (hl : L.length = n) (hn : n ≤ 8) :
    Calls Try.prog 65 #[.slice (some ⟨gb, 0, none⟩) n cap] w (SortPost w gb L rest) := by
  have CL := len_u n hn w
  have CP := fun lim => pdq_u w gb n cap L rest hA hl hn lim
  have wr64 : IntKind.u64.wrap (n : Int) = (n : Int) := by rw [IntKind.wrap_u64]; omega
  clear hA hl
  go_enter Try.func65, Try.ntmps65
  go_wp2_with (first
    | (go_at_call 78; refine CL.mono ?_; rintro e w1 ⟨⟨x, rfl⟩, hw1⟩; have hw1 := hw1.symm; subst hw1)
    | (go_at_call 77; refine (CP _).mono ?_; rintro e w1 ⟨L', rfl, h1⟩))
  go_end0
  exact ⟨L', rfl, h1⟩
def keysG (g : GT) : List Nat := (List.range' (g.low + 1) 8).filter fun k => (g.s k).isSome
theorem keysG_len (g : GT) : (keysG g).length ≤ 8 := by
  unfold keysG
  have := List.length_filter_le (fun k => (g.s k).isSome) (List.range' (g.low + 1) 8)
  rwa [List.length_range'] at this
theorem keysG_lt (g : GT) : (keysG g).Pairwise (· < ·) := List.Pairwise.filter _ (List.pairwise_lt_range' 1)
theorem nodup_lt {l : List Nat} (h : l.Pairwise (· < ·)) : l.Nodup := h.imp fun h => Nat.ne_of_lt h
theorem perm_col {w : World} {base L M n : Nat} {g : GT} {F : Value → Option Value} {B : Nat → SB} {ρ : Nat → Nat} (h : LG w base L M n g F B ρ) {D : DataW Value}
    (hF : ∀ v l, keyOf Try.prog 30 v = some l → (F v = none ∧ Maps.has D l = false ∧ ∀ z, D.atKey l z = z) ∨ ∃ u, F v = some u ∧ Maps.has D l = true ∧ ∀ z, D.atKey l z = .held u)
    {ss : List Nat} (hC : ColU D (fun _ => false) ss) : ss.Perm (keysG g) := by
  refine (List.perm_ext_iff_of_nodup hC.1 (nodup_lt (keysG_lt g))).2 fun a => ?_
  have lz := h.lowz
  have key : ∀ x : Nat, x < 18446744073709551616 → (Maps.has D (.int .u64 (x : Nat)) = true ↔ (g.s x).isSome = true) := fun x hx => by
    have hk := keyU x hx
    have hk2 : keyOf Try.prog 30 (.int .u64 (x : Nat)) = some (.int .u64 (x : Nat)) := hk
    rcases hF _ _ hk2 with ⟨h1, h2, _⟩ | ⟨u, h1, h2, _⟩
    · rw [h2]
      cases hs : g.s x with
      | none => simp
      | some y =>
        rw [(h.here x y hs).1] at h1
        cases h1
    · rw [h2]
      obtain ⟨j, e, hj⟩ := h.no _ (by rw [h1]; simp)
      simp only [Value.int.injEq, true_and] at e
      obtain rfl : j = x := by omega
      cases hs : g.s j with
      | none => exact absurd hs hj
      | some y => simp
  unfold keysG
  rw [List.mem_filter, List.mem_range'_1]
  constructor
  · intro ha
    have h64 := hC.2.1 a ha
    have := (key a h64).1 ((hC.2.2 a h64).1 ha).1
    refine ⟨?_, this⟩
    cases hs : g.s a with
    | none => rw [hs] at this; cases this
    | some y =>
      have := h.win a y hs
      omega
  · rintro ⟨h1, h2⟩
    have h64 : a < 18446744073709551616 := by omega
    exact (hC.2.2 a h64).2 ⟨(key a h64).2 h2, rfl⟩
theorem sorted_eq {g : GT} {L : List Nat} (hp : L.Perm (keysG g)) (hs : L.Pairwise (· ≤ ·)) : L = keysG g :=
  List.Perm.eq_of_pairwise (fun _ _ _ _ h1 h2 => Nat.le_antisymm h1 h2) hs ((keysG_lt g).imp fun h => Nat.le_of_lt h) hp
def KeysPost (w : World) (g : GT) (e : Ending) (w' : World) : Prop := ∃ ao cap, e = .returned (.slice ao (keysG g).length cap) ∧ (∀ j, j < (keysG g).length → ∃ gb, ao = some ⟨gb, 0, none⟩ ∧ w.heap.size ≤ gb ∧ w'.cell? ⟨gb, j, none⟩ = some (.int .u64 ((keysG g).getD j 0 : Nat))) ∧ (keysG g).length ≤ cap ∧ cap ≤ maxLen ∧ Below w.heap.size w w'
set_option maxRecDepth 100000 in
set_option maxHeartbeats 4000000 in
theorem sorted_any (w : World) (base L M n : Nat) (g : GT) (F : Value → Option Value) (B : Nat → SB) (ρ : Nat → Nat) (h : LG w base L M n g F B ρ) (hn : n ≤ 1000000) (Bm : Nat) (hBm : w.cell? ⟨Bm, 0, none⟩ = some (.map (some M))) :
    Calls Try.prog 40 #[.func (.func 66) #[] #[.pointer (some ⟨Bm, 0, none⟩)]] w (KeysPost w g) := by
  obtain ⟨D, hown, hsz, hF⟩ := h.mf
  have CC := (callsIn_wide (n := 4)).1 (collect_u 4 (Nat.le_refl _) Bm M n D F hF (by omega) w hBm hown)
  have HP : Hid (∀ ss, ColU D (fun _ => false) ss → ss.Perm (keysG g)) := fun ss hC => perm_col h hF hC
  have HL : Hid ((keysG g).length ≤ 8) := keysG_len g
  clear h hown hF hBm hsz
  go_enter Try.func40, Try.ntmps40
  go_wp2_with fail
  refine CC.mono ?_
  rintro e w1 ⟨v, ss, rfl, hC, hrow, hB⟩
  have hp := HP.out ss hC
  have hlen := hp.length_eq
  rcases hrow.2 with ⟨rfl, hz⟩ | ⟨gb, cap, cur, rfl, hbase, hgb, r1, r2, r3, r4⟩
  · have h0 : Hid ((keysG g).length = 0) := by show _ = _; omega
    have CS := sort_nil w1
    clear hlen hrow hC hp HP
    go_wp2_with (go_at_call 65; refine CS.mono ?_; rintro e w2 ⟨rfl, hw2⟩; have hw2 := hw2.symm; subst hw2)
    go_ret
    have h0 := h0.out
    exact ⟨none, 0, by rw [h0]; rfl, fun j hj => by omega, by omega, by decide, hB⟩
  · have hA : Arr w1 gb 30 (uv ss ++ cur.toList.drop ss.length) := by
      rw [Nat.mul_one] at r4
      rw [← r4, List.take_append_drop]
      exact hgb
    have hl8 := HL.out
    have CS := sort_u w1 gb ss.length cap ss _ hA rfl (by omega)
    have HLEN : Hid (ss.length = (keysG g).length) := hlen
    have HH : Hid (ss.Perm (keysG g) ∧ w.heap.size ≤ gb ∧ ss.length ≤ cap ∧ cap ≤ maxLen ∧ Below w.heap.size w w1) := ⟨hp, hbase, r1, r2, hB⟩
    clear hA hgb hlen r3 r4 hp hbase r1 r2 hl8 hrow hC hB HP
    go_wp2_with (go_at_call 65; refine CS.mono ?_; rintro e w2 ⟨L', rfl, p1, p2, p3, p4⟩)
    go_ret
    obtain ⟨hp, hbase, r1, r2, hB⟩ := HH.out
    have hlen := HLEN.out
    obtain rfl := sorted_eq (p1.trans hp) p2
    have q1 : Ending.returned (.slice (some ⟨gb, 0, none⟩) ss.length cap) = .returned (.slice (some ⟨gb, 0, none⟩) (keysG g).length cap) := by simp only [hlen]
    have q2 : ∀ j, j < (keysG g).length → w2.cell? ⟨gb, j, none⟩ = some (.int .u64 ((keysG g).getD j 0 : Nat)) := fun j hj => uvr_at p3 j hj
    have q3 : Below w.heap.size w w2 := hB.grown p4 hB.size fun j hj => by cases hj; exact hbase
    exact ⟨some ⟨gb, 0, none⟩, cap, q1, fun j hj => ⟨gb, rfl, hbase, q2 j hj⟩, by omega, r2, q3⟩
open Go.RowKit
theorem lty15 : GTy elS.lists.sz 24 (.slice none 0 0) 47 40 := ⟨by kernel_rfl, rfl, Try.underlying40⟩
def certK (g : GT) (k : Nat) : Option (List SV) := ((g.s k).bind ST.cert).map CT.texts
def certsG (g : GT) : List (List SV) := (keysG g).filterMap (certK g)
theorem filterMap_snoc {α β : Type} (f : α → Option β) (l : List α) (x : α) : (l ++ [x]).filterMap f = l.filterMap f ++ (match f x with | none => [] | some y => [y]) := by
  rw [List.filterMap_append]
  cases h : f x with
  | none => simp [h]
  | some y => simp [h]
theorem keysG_at {g : GT} {j : Nat} (h : j < (keysG g).length) : ∃ x, g.s ((keysG g).getD j 0) = some x := by
  have e : (keysG g).getD j 0 = (keysG g)[j] := by simp [List.getD, h]
  rw [e]
  have hm : (keysG g)[j] ∈ keysG g := List.getElem_mem h
  unfold keysG at hm
  rw [List.mem_filter] at hm
  have := hm.2
  cases hs : g.s (keysG g)[j] with
  | none =>
    have h2 : (g.s (keysG g)[j]).isSome = true := this
    rw [hs] at h2
    cases h2
  | some x => exact ⟨x, rfl⟩
def CertsPost (w : World) (g : GT) (e : Ending) (w' : World) : Prop := ∃ ao cap ls, e = .returned (.slice ao (certsG g).length cap) ∧ GL elS.lists w' ao (certsG g).length cap ls ∧ ls.map (fun s => s.l.map SA.v) = certsG g ∧ Below w.heap.size w w'
set_option maxRecDepth 100000 in
set_option maxHeartbeats 4000000 in
theorem certs_any15 (w : World) (base L M n : Nat) (g : GT) (F : Value → Option Value) (B : Nat → SB) (ρ : Nat → Nat) (h : LG w base L M n g F B ρ) (hn : n ≤ 1000000) :
    Calls Try.prog 15 #[.pointer (some ⟨L, 0, none⟩)] w (CertsPost w g) := by
  have x3 : w.cell? ⟨L, 3, none⟩ = some (.map (some M)) := h.lc.cell 3
  obtain ⟨W1, hW1⟩ : ∃ W1, W1 = w.alloc (.cells #[.map (some M)] 67) := ⟨_, rfl⟩
  have CK := (callsIn_wide (n := 1)).1 (keys_u Fence.wide 1 trivial rfl (some M) w)
  rw [← hW1] at CK
  have b1 : Below w.heap.size w W1 := by rw [hW1]; exact (Below.refl _ _).alloc (Nat.le_refl _) _
  have cM : W1.cell? ⟨w.heap.size, 0, none⟩ = some (.map (some M)) := by rw [hW1]; exact cell_of_row _ _ 0 _ _ _ (heap_alloc_new w _)
  have CS := sorted_any W1 base L M n g F B _ (h.below b1).1 hn w.heap.size cM
  have HLG : Hid (LG w base L M n g F B ρ) := h
  have HL8 : Hid ((keysG g).length ≤ 8) := keysG_len g
  have HB1 : Hid (Below w.heap.size w W1) := b1
  clear h hW1 cM b1
  go_enter Try.func15, Try.ntmps15
  go_wp2_with (first
    | (go_at_call 41; refine CK.mono ?_; rintro e w1 ⟨rfl, hw1⟩; have hw1 := hw1.symm; subst hw1)
    | (go_at_call 40; refine CS.mono ?_; rintro e w2 ⟨ao, cap, rfl, q1, q2, q3, B2⟩))
  have HQ : Hid (∀ j, j < (keysG g).length → ∃ gb, ao = some ⟨gb, 0, none⟩ ∧ w2.cell? ⟨gb, j, none⟩ = some (.int .u64 ((keysG g).getD j 0 : Nat))) := fun j hj => by
    obtain ⟨gb, h1, _, h2⟩ := q1 j hj
    exact ⟨gb, h1, h2⟩
  have E2 : Below w.heap.size w w2 := HB1.out.trans (B2.mono HB1.out.size)
  have HE2 : Hid (Below w.heap.size w w2) := E2
  clear CK CS q1 x3 B2 HB1 E2
  obtain ⟨kn, hkn⟩ : ∃ n, n = (keysG g).length := ⟨_, rfl⟩
  have HKN : Hid (kn = (keysG g).length) := hkn
  rw [← hkn] at q2 HQ HL8 ⊢
  clear hkn
  go_loopw [3, 16] (fun v i wr => ∃ (k : Nat) (u : Value) (ls : List (LS SA)), k ≤ kn ∧ i = .int .i64 (k : Nat) ∧ u = v ∧ GI elS.lists 47 wr w2.heap.size u ls ∧ Hid (ls.map (fun s => s.l.map SA.v) = ((keysG g).take k).filterMap (certK g)) ∧ Below w2.heap.size w2 wr) (fun _ i _ => 10 - (intOf i).toNat)
  case atStart => exact ⟨0, _, [], Nat.zero_le _, rfl, rfl, GI.nil _ _ _ _, by show _ = _; simp, Below.refl _ _⟩
  case round =>
    obtain ⟨k, u, ls, hk, rfl, rfl, GR, HV, BR⟩ := hrel
    obtain ⟨vao, vcap, rfl⟩ := GR.slice
    by_cases hlt : k < kn
    · have HKL : Hid (k + 1 ≤ kn ∧ k < 8) := ⟨hlt, by have := HL8.out; omega⟩
      have hk8 : k < 8 := HKL.out.2
      have hki : (k : Int) < (kn : Int) := by omega
      obtain ⟨gb, rfl, ck0⟩ := HQ.out k hlt
      obtain ⟨x, hx⟩ := keysG_at (g := g) (j := k) (by rw [← HKN.out]; exact hlt)
      obtain ⟨q, hq⟩ : ∃ q, q = (keysG g).getD k 0 := ⟨_, rfl⟩
      rw [← hq] at hx ck0
      have ck : wr.cell? ⟨gb, k, none⟩ = some (.int .u64 (q : Nat)) := (BR.cell (World.block_lt_of_cell? _ _ ck0)).trans ck0
      have HT : Hid (((keysG g).take (k + 1)).filterMap (certK g) = ((keysG g).take k).filterMap (certK g) ++ (match x.cert with | none => [] | some c => [c.texts])) := by
        show _ = _
        have hkl : k < (keysG g).length := by rw [← HKN.out]; exact hlt
        have e2 : (keysG g)[k] = q := by rw [hq]; simp [List.getD, hkl]
        rw [List.take_succ_eq_append_getElem hkl, filterMap_snoc, e2]
        congr 1
        unfold certK
        rw [hx]
        rw [show (some x).bind ST.cert = x.cert from rfl]
        cases x.cert <;> rfl
      obtain ⟨KR, -⟩ := HLG.out.below (HE2.out.trans (BR.mono HE2.out.size))
      obtain ⟨fX, HX⟩ := KR.here q x hx
      have hw := KR.win q x hx
      have lz := KR.lowz
      have hl := KR.mf.look1 kU Try.underlying67 (zSlot wr) (keyU q (by omega))
      rw [fX] at hl
      simp only [Option.getD_some] at hl
      have x3 : wr.cell? ⟨L, 3, none⟩ = some (.map (some M)) := KR.lc.cell 3
      have y7 : wr.cell? ⟨(B q).X, 7, none⟩ = some (.bool x.cert.isSome) := HX.cell 7
      have y8 : wr.cell? ⟨(B q).X, 8, none⟩ = some (.int .u64 (cvw x.cert : Nat)) := HX.cell 8
      have y9 : wr.cell? ⟨(B q).X, 9, none⟩ = some (.string (csm x.cert)) := HX.cell 9
      have y10 : wr.cell? ⟨(B q).X, 10, none⟩ = some (.slice (B q).ao (B q).n (B q).cap) := HX.cell 10
      have C5 : Below wr.heap.size wr (wr.alloc (.cells #[.bool x.cert.isSome, .int .u64 (cvw x.cert : Nat), .string (csm x.cert), .slice (B q).ao (B q).n (B q).cap] 85)) := (Below.refl _ _).alloc (Nat.le_refl _) _
      have B5 := BR.trans (C5.mono BR.size)
      have GR5 := GR.below elS_fine.lists C5
      have HSA : Hid (SlotAt wr g.f (B q) x) := HX
      have HOWN : Hid (∀ z, (Value.slice vao ls.length vcap).ownBlock = some z → z < wr.heap.size) := fun z hz => (GR.own.lt z hz).2
      have hs5 : wr.heap.size ≤ (wr.alloc (.cells #[.bool x.cert.isSome, .int .u64 (cvw x.cert : Nat), .string (csm x.cert), .slice (B q).ao (B q).n (B q).cap] 85)).heap.size := C5.size
      clear fX KR HX hw lz ck0
      cases hc : x.cert with
      | none =>
        have hi : x.cert.isSome = false := by rw [hc]; rfl
        have HV2 : Hid (ls.map (fun s => s.l.map SA.v) = ((keysG g).take (k + 1)).filterMap (certK g)) := by
          show _ = _
          rw [HT.out, hc, HV.out]
          simp
        rw [hi] at y7 B5 GR5
        clear hc hi HT HV HSA GR BR C5 hq hx
        go_wp2
        go_roundw
        case rel => exact ⟨k + 1, _, ls, HKL.out.1, by go_num, rfl, GR5, HV2, B5⟩
        case measure => have := HKL.out.2; simp [intOf]; omega
      | some c =>
        have hi : x.cert.isSome = true := by rw [hc]; rfl
        have HV2 : Hid (∀ ys : List SA, ys.map SA.v = ctx x.cert → ∀ ro n rc, (ls ++ ([⟨ro, n, rc, ys⟩] : List (LS SA))).map (fun s : LS SA => s.l.map SA.v) = ((keysG g).take (k + 1)).filterMap (certK g)) := fun ys e ro n rc => by
          rw [HT.out, hc, List.map_append, HV.out]
          show _ ++ [ys.map SA.v] = _
          rw [e, hc]
          rfl
        have CA := cloneAll_any (wr.alloc (.cells #[.bool x.cert.isSome, .int .u64 (cvw x.cert : Nat), .string (csm x.cert), .slice (B q).ao (B q).n (B q).cap] 85)) (B q).ao (B q).n (B q).cap (B q).l (HSA.out.L.below elS_fine C5) HSA.out.ln HSA.out.tz
        have HLV : Hid ((B q).l.map SA.v = ctx x.cert ∧ (B q).l.length ≤ 100) := ⟨HSA.out.lv, by rw [HSA.out.L.len]; exact HSA.out.ln⟩
        have hll : ls.length ≤ k := by
          have e := congrArg List.length HV.out
          rw [List.length_map] at e
          have := List.length_filterMap_le (certK g) ((keysG g).take k)
          rw [List.length_take] at this
          omega
        have HLL : Hid (ls.length ≤ 8) := by have := HL8.out; show ls.length ≤ 8; omega
        have b5 := B5.size
        rw [hi] at y7 B5 GR5 CA b5 hs5
        clear hc hi HT HV HSA GR BR C5 hq hx hll
        go_wp2_with (first
          | (go_at_call 42; refine CA.mono ?_; rintro e w4 ⟨ro, rc, ys, rfl, GY, YV, C4, HY⟩
             have GR6 := GR5.below elS_fine.lists C4
             have B6 := B5.trans (C4.mono b5)
             have s6 := C4.size
             clear CA GR5 B5)
          | (refine stop_at (.call { callee := .builtin .append, args := #[Operand.tmp 31, Operand.tmp 35], argTypes := #[40, 40] }) rfl ?_))
        refine ⟨?_⟩
        have C7 : Below w4.heap.size w4 (w4.alloc (.cells #[.slice ro (B q).l.length rc] 47)) := (Below.refl _ _).alloc (Nat.le_refl _) _
        have GR7 := GR6.below elS_fine.lists C7
        have B7 := B6.trans (C7.mono B6.size)
        have yok : elS.lists.ok ⟨ro, (B q).l.length, rc, ys⟩ (w4.alloc (.cells #[.slice ro (B q).l.length rc] 47)) := GY.below elS_fine C7
        have HG : ∀ j t, (elS.lists.c (⟨ro, (B q).l.length, rc, ys⟩ : LS SA))[j]? = some t → (w4.alloc (.cells #[.slice ro (B q).l.length rc] 47)).cell? ((⟨w4.heap.size, 0, none⟩ : Addr).add j) = some t := fun j t ht => by
          rw [Addr.add_lit, Nat.zero_add, cell_of_row _ _ j _ _ _ (heap_alloc_new _ _)]
          simpa [El.lists] using ht
        have HF : ∀ z, elS.lists.blk (⟨ro, (B q).l.length, rc, ys⟩ : LS SA) z → (Value.slice vao ls.length vcap).ownBlock ≠ some z := fun z hz e => by
          have h1 := HY z hz
          have h2 := HOWN.out z e
          omega
        refine wpList_appG elS_fine.lists lty15 rfl (.tmp 31) (.tmp 35) rfl GR7 rfl rfl HG yok HF (by have := HLL.out; omega) (by have := HLL.out; unfold maxLen; omega) B7.size ?_
        intro v8 w8 GR8 B8
        have HV3 := HV2.out ys (YV.trans HLV.out.1) ro (B q).l.length rc
        have HV4 : Hid _ := HV3
        have B9 := B7.trans B8
        clear HV3 HG HF yok GR7 GR6 B7 B6 C7 C4 GY
        go_wp2
        go_roundw
        case rel => exact ⟨k + 1, v8, ls ++ [⟨ro, (B q).l.length, rc, ys⟩], HKL.out.1, by go_num, rfl, GR8, HV4, B9⟩
        case measure => have := HKL.out.2; simp [intOf]; omega
    · have hge : ¬ (k : Int) < (kn : Int) := by omega
      have HT : Hid ((keysG g).take k = keysG g) := List.take_of_length_le (by rw [← HKN.out]; omega)
      obtain ⟨ao2, cap2, e, GLx, _⟩ := GR.gl elS_fine.lists
      simp only [Value.slice.injEq] at e
      obtain ⟨rfl, -, rfl⟩ := e
      have HV2 : ls.map (fun s => s.l.map SA.v) = certsG g := by rw [HV.out, HT.out]; rfl
      have HLN : Hid (ls.length = (certsG g).length) := by show _ = _; rw [← HV2, List.length_map]
      have HVV : Hid (ls.map (fun s => s.l.map SA.v) = certsG g) := HV2
      clear HV HT GR HV2
      go_wp2
      go_ret
      have E9 := HE2.out.trans (BR.mono HE2.out.size)
      have hl := HLN.out
      rw [hl] at GLx
      exact ⟨vao, vcap, ls, by rw [hl]; rfl, GLx, HVV.out, E9⟩
open Go.RowKit
theorem most_at (w : World) (f : Nat) (h1 : 1 ≤ f) (h4 : f ≤ 4) : Calls Try.prog 46 #[.int .i64 (f : Nat)] w fun e w' => e = .returned (.int .i64 (2 * (f : Int) + 1)) ∧ Below w.heap.size w w' := by
  refine (most_any (f : Int) w).mono ?_
  rintro e w' ⟨rfl, rfl⟩
  exact ⟨by rw [nF_t 2 (okF_t (by omega) (by omega))], Below.refl _ _⟩
def ptrS (B : Nat → SB) (g : GT) (seq : Nat) : Value := if (g.s seq).isSome = true then .pointer (some ⟨(B seq).X, 0, none⟩) else .pointer none
theorem find_any (w : World) (base L M n : Nat) (g : GT) (F : Value → Option Value) (B : Nat → SB) (ρ : Nat → Nat) (h : LG w base L M n g F B ρ) (seq : Nat) (hs : seq < 18446744073709551616) :
    Calls Try.prog 43 #[.pointer (some ⟨L, 0, none⟩), .int .u64 (seq : Nat)] w fun e w' => e = .returned (ptrS B g seq) ∧ w' = w := by
  have x3 : w.cell? ⟨L, 3, none⟩ = some (.map (some M)) := h.lc.cell 3
  have hl := h.mf.look1 kU Try.underlying67 (zSlot w) (keyU seq hs)
  have hp : Hid ((F (.int .u64 (seq : Nat))).getD (.pointer none) = ptrS B g seq) := by
    show _ = _
    unfold ptrS
    cases hx : g.s seq with
    | none =>
      rw [h.none_at hx]
      rfl
    | some x =>
      rw [(h.here seq x hx).1]
      rfl
  rw [hp.out] at hl
  generalize ptrS B g seq = pv at *
  clear h hp
  go_enter Try.func43, Try.ntmps43
  go_wp2
  go_ret
  exact ⟨rfl, rfl⟩
def RetO (w : World) (o : Option ByteArray) (e : Ending) (w' : World) : Prop := ∃ ao n cap, e = .returned (.tuple #[.slice ao n cap, .bool o.isSome]) ∧ Sl w' ao n cap (match o with | none => [] | some s => sb s) ∧ Below w.heap.size w w'
def comO (g : GT) (seq : Nat) : Option ByteArray := (g.s seq).bind fun x => if commS g.f x = true then some x.sum else none
def preO (g : GT) (seq : Nat) : Bool := match g.s seq with | none => false | some x => prepS g.f x
set_option maxRecDepth 100000 in
set_option maxHeartbeats 4000000 in
theorem prep_any15 (w : World) (base L M n : Nat) (g : GT) (F : Value → Option Value) (B : Nat → SB) (ρ : Nat → Nat) (HG : LG w base L M n g F B ρ) (seq : Nat) (hs : seq < 18446744073709551616) :
    Calls Try.prog 20 #[.pointer (some ⟨L, 0, none⟩), .int .u64 (seq : Nat)] w (fun e w' => e = .returned (.bool (preO g seq)) ∧ Below w.heap.size w w') := by
  have CF := find_any w base L M n g F B ρ HG seq hs
  cases hx : g.s seq with
  | none =>
    have e1 : ptrS B g seq = .pointer none := by unfold ptrS; rw [hx]; rfl
    have e2 : preO g seq = false := by unfold preO; rw [hx]
    rw [e1] at CF
    rw [e2]
    clear e1 e2 HG hx
    go_enter Try.func20, Try.ntmps20
    go_wp2_with (go_at_call 43; refine CF.mono ?_; rintro e w1 ⟨rfl, hw1⟩; have hw1 := hw1.symm; subst hw1)
    go_ret
    exact ⟨rfl, Below.refl _ _⟩
  | some x =>
    have e1 : ptrS B g seq = .pointer (some ⟨(B seq).X, 0, none⟩) := by unfold ptrS; rw [hx]; rfl
    have e2 : preO g seq = prepS g.f x := by unfold preO; rw [hx]
    obtain ⟨-, HX⟩ := HG.here seq x hx
    have CP := isPrep_any w L g.f g.low g.view M HG.lc HG.f4 (B seq) x HX
    rw [e1] at CF
    rw [e2]
    clear e1 e2 HG hx HX
    go_enter Try.func20, Try.ntmps20
    go_wp2_with (first
      | (go_at_call 43; refine CF.mono ?_; rintro e w1 ⟨rfl, hw1⟩; have hw1 := hw1.symm; subst hw1)
      | (go_at_call 44; refine CP.mono ?_; rintro e w2 ⟨rfl, E2⟩))
    go_ret
    exact ⟨rfl, E2⟩
set_option maxRecDepth 100000 in
set_option maxHeartbeats 4000000 in
theorem comm_any15 (w : World) (base L M n : Nat) (g : GT) (F : Value → Option Value) (B : Nat → SB) (ρ : Nat → Nat) (HG : LG w base L M n g F B ρ) (seq : Nat) (hs : seq < 18446744073709551616) :
    Calls Try.prog 19 #[.pointer (some ⟨L, 0, none⟩), .int .u64 (seq : Nat)] w (RetO w (comO g seq)) := by
  have CF := find_any w base L M n g F B ρ HG seq hs
  cases hx : g.s seq with
  | none =>
    have e1 : ptrS B g seq = .pointer none := by unfold ptrS; rw [hx]; rfl
    have e2 : comO g seq = none := by unfold comO; rw [hx]; rfl
    rw [e1] at CF
    rw [e2]
    clear e1 e2 HG hx
    go_enter Try.func19, Try.ntmps19
    go_wp2_with (go_at_call 43; refine CF.mono ?_; rintro e w1 ⟨rfl, hw1⟩; have hw1 := hw1.symm; subst hw1)
    go_wp2_with fail
    have tHS : Hid (∀ V, Below w.heap.size w V → True) := fun _ _ => trivial
    have tE0 : Below w.heap.size w w.drew := (Below.refl _ _).drew
    refine wp_region_noPanic ?_
    refine wp_region_held_drew (S := fun V => True) (by kernel_rfl) (tHS.out _ tE0) (fun tH0 => ?_)
    obtain ⟨tv0, hv0⟩ : ∃ v, v = w.drew := ⟨_, rfl⟩
    rw [← hv0] at tE0 ⊢
    clear hv0
    refine hr_take_w 0 (some 10) (.pointer none) rfl rfl (by kernel_rfl) (by kernel_rfl) (by kernel_rfl) rfl (fun W hW => by go_simp) tH0 ?_
    simp only [FL]
    refine hr_take_w 1 (some 11) (.bool true) rfl rfl (by kernel_rfl) (by kernel_rfl) (by kernel_rfl) rfl (fun W hW => by go_simp) tH0 ?_
    simp only [FL]
    refine hr_take_w 2 (some 12) (.bool true) rfl rfl (by kernel_rfl) (by kernel_rfl) (by kernel_rfl) rfl (fun W hW => by go_simp) tH0 ?_
    simp only [FL]
    refine hr_none 3 (some 13) rfl rfl (by kernel_rfl) (by kernel_rfl) (by kernel_rfl) rfl tH0 ?_
    simp only [FL]
    refine hr_none 4 (some 14) rfl rfl (by kernel_rfl) (by kernel_rfl) (by kernel_rfl) rfl tH0 ?_
    simp only [FL]
    refine hr_none 5 (some 15) rfl rfl (by kernel_rfl) (by kernel_rfl) (by kernel_rfl) rfl tH0 ?_
    simp only [FL]
    refine hr_none 6 (some 16) rfl rfl (by kernel_rfl) (by kernel_rfl) (by kernel_rfl) rfl tH0 ?_
    simp only [FL]
    refine hr_take_w 7 (some 17) (.bool true) rfl rfl (by kernel_rfl) (by kernel_rfl) (by kernel_rfl) rfl (fun W hW => by go_simp) tH0 ?_
    simp only [FL]
    refine hr_take_w 8 (some 18) (.bool true) rfl rfl (by kernel_rfl) (by kernel_rfl) (by kernel_rfl) rfl (fun W hW => by go_simp) tH0 ?_
    simp only [FL]
    refine hr_none 9 (some 19) rfl rfl (by kernel_rfl) (by kernel_rfl) (by kernel_rfl) rfl tH0 ?_
    simp only [FL]
    refine hr_none 10 (some 20) rfl rfl (by kernel_rfl) (by kernel_rfl) (by kernel_rfl) rfl tH0 ?_
    simp only [FL]
    refine hr_none 11 (some 21) rfl rfl (by kernel_rfl) (by kernel_rfl) (by kernel_rfl) rfl tH0 ?_
    simp only [FL]
    refine hr_none 12 (some 22) rfl rfl (by kernel_rfl) (by kernel_rfl) (by kernel_rfl) rfl tH0 ?_
    simp only [FL]
    refine hr_none 13 (some 23) rfl rfl (by kernel_rfl) (by kernel_rfl) (by kernel_rfl) rfl tH0 ?_
    simp only [FL]
    refine hr_none 14 (some 24) rfl rfl (by kernel_rfl) (by kernel_rfl) (by kernel_rfl) rfl tH0 ?_
    simp only [FL]
    refine hr_none 15 (some 25) rfl rfl (by kernel_rfl) (by kernel_rfl) (by kernel_rfl) rfl tH0 ?_
    simp only [FL]
    refine hr_none 16 (some 26) rfl rfl (by kernel_rfl) (by kernel_rfl) (by kernel_rfl) rfl tH0 ?_
    simp only [FL]
    refine hr_none 17 (some 27) rfl rfl (by kernel_rfl) (by kernel_rfl) (by kernel_rfl) rfl tH0 ?_
    simp only [FL]
    refine hr_none 18 (some 28) rfl rfl (by kernel_rfl) (by kernel_rfl) (by kernel_rfl) rfl tH0 ?_
    simp only [FL]
    refine hr_none 19 (some 29) rfl rfl (by kernel_rfl) (by kernel_rfl) (by kernel_rfl) rfl tH0 ?_
    simp only [FL]
    refine hr_none 20 (some 30) rfl rfl (by kernel_rfl) (by kernel_rfl) (by kernel_rfl) rfl tH0 ?_
    simp only [FL]
    refine hr_none 21 (some 31) rfl rfl (by kernel_rfl) (by kernel_rfl) (by kernel_rfl) rfl tH0 ?_
    simp only [FL]
    refine hr_none 22 (some 32) rfl rfl (by kernel_rfl) (by kernel_rfl) (by kernel_rfl) rfl tH0 ?_
    simp only [FL]
    refine hr_none 23 (some 33) rfl rfl (by kernel_rfl) (by kernel_rfl) (by kernel_rfl) rfl tH0 ?_
    simp only [FL]
    refine hr_none 24 (some 34) rfl rfl (by kernel_rfl) (by kernel_rfl) (by kernel_rfl) rfl tH0 ?_
    simp only [FL]
    refine hr_none 25 (some 35) rfl rfl (by kernel_rfl) (by kernel_rfl) (by kernel_rfl) rfl tH0 ?_
    simp only [FL]
    refine hr_none 26 (some 36) rfl rfl (by kernel_rfl) (by kernel_rfl) (by kernel_rfl) rfl tH0 ?_
    simp only [FL]
    refine hr_take_w 27 (some 37) (.bool true) rfl rfl (by kernel_rfl) (by kernel_rfl) (by kernel_rfl) rfl (fun W hW => by go_simp) tH0 ?_
    simp only [FL]
    refine wpAnyH_done (by kernel_rfl) ?_ _
    refine NoPanic.normal ?_
    go_wp2
    go_ret2
    exact ⟨none, 0, 0, rfl, Sl.nothing _, tE0⟩
  | some x =>
    have e1 : ptrS B g seq = .pointer (some ⟨(B seq).X, 0, none⟩) := by unfold ptrS; rw [hx]; rfl
    obtain ⟨-, HX⟩ := HG.here seq x hx
    have sz := HX.sz
    have e2 : comO g seq = if commS g.f x = true then some x.sum else none := by unfold comO; rw [hx]; rfl
    rw [e1] at CF
    rw [e2]
    have HXB : ∀ V, Below w.heap.size w V → SlotAt V g.f (B seq) x := fun V hV => HX.keep (hV.block _ HX.lt) (hV.block _ HX.P.lt) (hV.block _ HX.Q.lt) fun z hz => hV.block z (HX.imm_lt hz)
    generalize B seq = b at *
    cases hp : prepS g.f x with
    | false =>
      have e3 : commS g.f x = false := by unfold commS; rw [hp]; rfl
      rw [e3]
      clear e1 e2 hx e3
      go_enter Try.func19, Try.ntmps19
      go_wp2_with (go_at_call 43; refine CF.mono ?_; rintro e w1 ⟨rfl, hw1⟩; have hw1 := hw1.symm; subst hw1)
      go_wp2_with fail
      have tHS : Hid (∀ V, Below w.heap.size w V → V.cell? ⟨b.X, 1, none⟩ = some (.string x.sum) ∧ V.cell? ⟨b.X, 6, none⟩ = some (.pointer (some ⟨b.q, 0, none⟩)) ∧ V.cell? ⟨L, 0, none⟩ = some (.int .i64 (g.f : Nat))) := fun V hV => by have K := Arr.below HX.mem hV HX.lt; exact ⟨K.cell 1, K.cell 6, (HG.lc.below hV).cell 0⟩
      have tE0 : Below w.heap.size w w.drew := (Below.refl _ _).drew
      refine wp_region_noPanic ?_
      refine wp_region_held_drew (S := fun V => V.cell? ⟨b.X, 1, none⟩ = some (.string x.sum) ∧ V.cell? ⟨b.X, 6, none⟩ = some (.pointer (some ⟨b.q, 0, none⟩)) ∧ V.cell? ⟨L, 0, none⟩ = some (.int .i64 (g.f : Nat))) (by kernel_rfl) (tHS.out _ tE0) (fun tH0 => ?_)
      obtain ⟨tv0, hv0⟩ : ∃ v, v = w.drew := ⟨_, rfl⟩
      rw [← hv0] at tH0 tE0 ⊢
      clear hv0
      refine hr_take_w 0 (some 10) (.pointer (some ⟨b.X, 0, none⟩)) rfl rfl (by kernel_rfl) (by kernel_rfl) (by kernel_rfl) rfl (fun W hW => by obtain ⟨h0, h1, h2⟩ := hW; go_simp) tH0 ?_
      simp only [FL]
      refine hr_take_w 1 (some 11) (.bool false) rfl rfl (by kernel_rfl) (by kernel_rfl) (by kernel_rfl) rfl (fun W hW => by obtain ⟨h0, h1, h2⟩ := hW; go_simp) tH0 ?_
      simp only [FL]
      refine hr_take_w 2 (some 12) (.bool false) rfl rfl (by kernel_rfl) (by kernel_rfl) (by kernel_rfl) rfl (fun W hW => by obtain ⟨h0, h1, h2⟩ := hW; go_simp) tH0 ?_
      simp only [FL]
      refine hr_take_w 3 (some 13) (.pointer (some ⟨L, 0, none⟩)) rfl rfl (by kernel_rfl) (by kernel_rfl) (by kernel_rfl) rfl (fun W hW => by obtain ⟨h0, h1, h2⟩ := hW; go_simp) tH0 ?_
      simp only [FL]
      refine hr_take_w 4 (some 14) (.pointer (some ⟨b.X, 0, none⟩)) rfl rfl (by kernel_rfl) (by kernel_rfl) (by kernel_rfl) rfl (fun W hW => by obtain ⟨h0, h1, h2⟩ := hW; go_simp) tH0 ?_
      simp only [FL]
      refine hr_call_w 5 (some 15) 44 #[.pointer (some ⟨L, 0, none⟩), .pointer (some ⟨b.X, 0, none⟩)] rfl rfl (by kernel_rfl) rfl (by go_simp) (fun v w' => v = .bool (prepS g.f x) ∧ Below tv0.heap.size tv0 w') ((isPrep_any tv0 L g.f g.low g.view M (HG.lc.below tE0) HG.f4 b x (HXB tv0 tE0)).mono (by
        rintro e w' ⟨rfl, C⟩
        exact ⟨_, rfl, rfl, C⟩)) ?_
      rintro v tv1 ⟨rfl, tC0⟩
      have tE1 := tE0.trans (tC0.mono tE0.size)
      have tH1 := tHS.out tv1 tE1
      refine ⟨tH1, ?_⟩
      simp only [FL]
      refine hr_take_w 6 (some 16) (.bool true) rfl rfl (by kernel_rfl) (by kernel_rfl) (by kernel_rfl) rfl (fun W hW => by obtain ⟨h0, h1, h2⟩ := hW; go_simp) tH1 ?_
      simp only [FL]
      refine hr_take_w 7 (some 17) (.bool true) rfl rfl (by kernel_rfl) (by kernel_rfl) (by kernel_rfl) rfl (fun W hW => by obtain ⟨h0, h1, h2⟩ := hW; go_simp) tH1 ?_
      simp only [FL]
      refine hr_take_w 8 (some 18) (.bool true) rfl rfl (by kernel_rfl) (by kernel_rfl) (by kernel_rfl) rfl (fun W hW => by obtain ⟨h0, h1, h2⟩ := hW; go_simp) tH1 ?_
      simp only [FL]
      refine hr_none 9 (some 19) rfl rfl (by kernel_rfl) (by kernel_rfl) (by kernel_rfl) rfl tH1 ?_
      simp only [FL]
      refine hr_none 10 (some 20) rfl rfl (by kernel_rfl) (by kernel_rfl) (by kernel_rfl) rfl tH1 ?_
      simp only [FL]
      refine hr_none 11 (some 21) rfl rfl (by kernel_rfl) (by kernel_rfl) (by kernel_rfl) rfl tH1 ?_
      simp only [FL]
      refine hr_none 12 (some 22) rfl rfl (by kernel_rfl) (by kernel_rfl) (by kernel_rfl) rfl tH1 ?_
      simp only [FL]
      refine hr_none 13 (some 23) rfl rfl (by kernel_rfl) (by kernel_rfl) (by kernel_rfl) rfl tH1 ?_
      simp only [FL]
      refine hr_none 14 (some 24) rfl rfl (by kernel_rfl) (by kernel_rfl) (by kernel_rfl) rfl tH1 ?_
      simp only [FL]
      refine hr_none 15 (some 25) rfl rfl (by kernel_rfl) (by kernel_rfl) (by kernel_rfl) rfl tH1 ?_
      simp only [FL]
      refine hr_none 16 (some 26) rfl rfl (by kernel_rfl) (by kernel_rfl) (by kernel_rfl) rfl tH1 ?_
      simp only [FL]
      refine hr_none 17 (some 27) rfl rfl (by kernel_rfl) (by kernel_rfl) (by kernel_rfl) rfl tH1 ?_
      simp only [FL]
      refine hr_none 18 (some 28) rfl rfl (by kernel_rfl) (by kernel_rfl) (by kernel_rfl) rfl tH1 ?_
      simp only [FL]
      refine hr_none 19 (some 29) rfl rfl (by kernel_rfl) (by kernel_rfl) (by kernel_rfl) rfl tH1 ?_
      simp only [FL]
      refine hr_none 20 (some 30) rfl rfl (by kernel_rfl) (by kernel_rfl) (by kernel_rfl) rfl tH1 ?_
      simp only [FL]
      refine hr_none 21 (some 31) rfl rfl (by kernel_rfl) (by kernel_rfl) (by kernel_rfl) rfl tH1 ?_
      simp only [FL]
      refine hr_none 22 (some 32) rfl rfl (by kernel_rfl) (by kernel_rfl) (by kernel_rfl) rfl tH1 ?_
      simp only [FL]
      refine hr_none 23 (some 33) rfl rfl (by kernel_rfl) (by kernel_rfl) (by kernel_rfl) rfl tH1 ?_
      simp only [FL]
      refine hr_none 24 (some 34) rfl rfl (by kernel_rfl) (by kernel_rfl) (by kernel_rfl) rfl tH1 ?_
      simp only [FL]
      refine hr_none 25 (some 35) rfl rfl (by kernel_rfl) (by kernel_rfl) (by kernel_rfl) rfl tH1 ?_
      simp only [FL]
      refine hr_none 26 (some 36) rfl rfl (by kernel_rfl) (by kernel_rfl) (by kernel_rfl) rfl tH1 ?_
      simp only [FL]
      refine hr_take_w 27 (some 37) (.bool true) rfl rfl (by kernel_rfl) (by kernel_rfl) (by kernel_rfl) rfl (fun W hW => by obtain ⟨h0, h1, h2⟩ := hW; go_simp) tH1 ?_
      simp only [FL]
      refine wpAnyH_done (by kernel_rfl) ?_ _
      refine NoPanic.normal ?_
      go_wp2
      go_ret2
      exact ⟨none, 0, 0, rfl, Sl.nothing _, tE1⟩
    | true =>
      by_cases hc : 2 * g.f + 1 ≤ cntV x.sum x.cv
      · have e3 : commS g.f x = true := by unfold commS; rw [hp, decide_eq_true hc]; rfl
        rw [e3]
        have i2 : ¬ (cntV x.sum x.cv : Int) < 2 * (g.f : Int) + 1 := by omega
        have d2 : decide ((cntV x.sum x.cv : Int) < 2 * (g.f : Int) + 1) = false := decide_eq_false i2
        clear e1 e2 hx e3
        go_enter Try.func19, Try.ntmps19
        go_wp2_with (go_at_call 43; refine CF.mono ?_; rintro e w1 ⟨rfl, hw1⟩; have hw1 := hw1.symm; subst hw1)
        go_wp2_with fail
        have tHS : Hid (∀ V, Below w.heap.size w V → V.cell? ⟨b.X, 1, none⟩ = some (.string x.sum) ∧ V.cell? ⟨b.X, 6, none⟩ = some (.pointer (some ⟨b.q, 0, none⟩)) ∧ V.cell? ⟨L, 0, none⟩ = some (.int .i64 (g.f : Nat))) := fun V hV => by have K := Arr.below HX.mem hV HX.lt; exact ⟨K.cell 1, K.cell 6, (HG.lc.below hV).cell 0⟩
        have tE0 : Below w.heap.size w w.drew := (Below.refl _ _).drew
        refine wp_region_noPanic ?_
        refine wp_region_held_drew (S := fun V => V.cell? ⟨b.X, 1, none⟩ = some (.string x.sum) ∧ V.cell? ⟨b.X, 6, none⟩ = some (.pointer (some ⟨b.q, 0, none⟩)) ∧ V.cell? ⟨L, 0, none⟩ = some (.int .i64 (g.f : Nat))) (by kernel_rfl) (tHS.out _ tE0) (fun tH0 => ?_)
        obtain ⟨tv0, hv0⟩ : ∃ v, v = w.drew := ⟨_, rfl⟩
        rw [← hv0] at tH0 tE0 ⊢
        clear hv0
        refine hr_take_w 0 (some 10) (.pointer (some ⟨b.X, 0, none⟩)) rfl rfl (by kernel_rfl) (by kernel_rfl) (by kernel_rfl) rfl (fun W hW => by obtain ⟨h0, h1, h2⟩ := hW; go_simp) tH0 ?_
        simp only [FL]
        refine hr_take_w 1 (some 11) (.bool false) rfl rfl (by kernel_rfl) (by kernel_rfl) (by kernel_rfl) rfl (fun W hW => by obtain ⟨h0, h1, h2⟩ := hW; go_simp) tH0 ?_
        simp only [FL]
        refine hr_take_w 2 (some 12) (.bool false) rfl rfl (by kernel_rfl) (by kernel_rfl) (by kernel_rfl) rfl (fun W hW => by obtain ⟨h0, h1, h2⟩ := hW; go_simp) tH0 ?_
        simp only [FL]
        refine hr_take_w 3 (some 13) (.pointer (some ⟨L, 0, none⟩)) rfl rfl (by kernel_rfl) (by kernel_rfl) (by kernel_rfl) rfl (fun W hW => by obtain ⟨h0, h1, h2⟩ := hW; go_simp) tH0 ?_
        simp only [FL]
        refine hr_take_w 4 (some 14) (.pointer (some ⟨b.X, 0, none⟩)) rfl rfl (by kernel_rfl) (by kernel_rfl) (by kernel_rfl) rfl (fun W hW => by obtain ⟨h0, h1, h2⟩ := hW; go_simp) tH0 ?_
        simp only [FL]
        refine hr_call_w 5 (some 15) 44 #[.pointer (some ⟨L, 0, none⟩), .pointer (some ⟨b.X, 0, none⟩)] rfl rfl (by kernel_rfl) rfl (by go_simp) (fun v w' => v = .bool (prepS g.f x) ∧ Below tv0.heap.size tv0 w') ((isPrep_any tv0 L g.f g.low g.view M (HG.lc.below tE0) HG.f4 b x (HXB tv0 tE0)).mono (by
          rintro e w' ⟨rfl, C⟩
          exact ⟨_, rfl, rfl, C⟩)) ?_
        rintro v tv1 ⟨rfl, tC0⟩
        have tE1 := tE0.trans (tC0.mono tE0.size)
        have tH1 := tHS.out tv1 tE1
        refine ⟨tH1, ?_⟩
        simp only [FL]
        refine hr_take_w 6 (some 16) (.bool false) rfl rfl (by kernel_rfl) (by kernel_rfl) (by kernel_rfl) rfl (fun W hW => by obtain ⟨h0, h1, h2⟩ := hW; go_simp) tH1 ?_
        simp only [FL]
        refine hr_take_w 7 (some 17) (.bool false) rfl rfl (by kernel_rfl) (by kernel_rfl) (by kernel_rfl) rfl (fun W hW => by obtain ⟨h0, h1, h2⟩ := hW; go_simp) tH1 ?_
        simp only [FL]
        refine hr_take_w 8 (some 18) (.bool false) rfl rfl (by kernel_rfl) (by kernel_rfl) (by kernel_rfl) rfl (fun W hW => by obtain ⟨h0, h1, h2⟩ := hW; go_simp) tH1 ?_
        simp only [FL]
        refine hr_take_w 9 (some 19) (.pointer (some ⟨b.X, 0, none⟩)) rfl rfl (by kernel_rfl) (by kernel_rfl) (by kernel_rfl) rfl (fun W hW => by obtain ⟨h0, h1, h2⟩ := hW; go_simp) tH1 ?_
        simp only [FL]
        refine hr_take_w 10 (some 20) (.pointer (some ⟨b.X, 0, none⟩)) rfl rfl (by kernel_rfl) (by kernel_rfl) (by kernel_rfl) rfl (fun W hW => by obtain ⟨h0, h1, h2⟩ := hW; go_simp) tH1 ?_
        simp only [FL]
        refine hr_take_w 11 (some 21) (.pointer (some ⟨b.X, 0, none⟩)) rfl rfl (by kernel_rfl) (by kernel_rfl) (by kernel_rfl) rfl (fun W hW => by obtain ⟨h0, h1, h2⟩ := hW; go_simp) tH1 ?_
        simp only [FL]
        refine hr_take_w 12 (some 22) (.pointer (some ⟨b.X, 6, none⟩)) rfl rfl (by kernel_rfl) (by kernel_rfl) (by kernel_rfl) rfl (fun W hW => by obtain ⟨h0, h1, h2⟩ := hW; go_simp) tH1 ?_
        simp only [FL]
        refine hr_take_w 13 (some 23) (.pointer (some ⟨b.q, 0, none⟩)) rfl rfl (by kernel_rfl) (by kernel_rfl) (by kernel_rfl) rfl (fun W hW => by obtain ⟨h0, h1, h2⟩ := hW; go_simp) tH1 ?_
        simp only [FL]
        refine hr_take_w 14 (some 24) (.pointer (some ⟨b.X, 0, none⟩)) rfl rfl (by kernel_rfl) (by kernel_rfl) (by kernel_rfl) rfl (fun W hW => by obtain ⟨h0, h1, h2⟩ := hW; go_simp) tH1 ?_
        simp only [FL]
        refine hr_take_w 15 (some 25) (.pointer (some ⟨b.X, 0, none⟩)) rfl rfl (by kernel_rfl) (by kernel_rfl) (by kernel_rfl) rfl (fun W hW => by obtain ⟨h0, h1, h2⟩ := hW; go_simp) tH1 ?_
        simp only [FL]
        refine hr_take_w 16 (some 26) (.pointer (some ⟨b.X, 0, none⟩)) rfl rfl (by kernel_rfl) (by kernel_rfl) (by kernel_rfl) rfl (fun W hW => by obtain ⟨h0, h1, h2⟩ := hW; go_simp) tH1 ?_
        simp only [FL]
        refine hr_take_w 17 (some 27) (.pointer (some ⟨b.X, 1, none⟩)) rfl rfl (by kernel_rfl) (by kernel_rfl) (by kernel_rfl) rfl (fun W hW => by obtain ⟨h0, h1, h2⟩ := hW; go_simp) tH1 ?_
        simp only [FL]
        refine hr_take_w 18 (some 28) (.string x.sum) rfl rfl (by kernel_rfl) (by kernel_rfl) (by kernel_rfl) rfl (fun W hW => by obtain ⟨h0, h1, h2⟩ := hW; go_simp) tH1 ?_
        simp only [FL]
        refine hr_take_w 21 (some 31) (.pointer (some ⟨L, 0, none⟩)) rfl rfl (by kernel_rfl) (by kernel_rfl) (by kernel_rfl) rfl (fun W hW => by obtain ⟨h0, h1, h2⟩ := hW; go_simp) tH1 ?_
        simp only [FL]
        refine hr_take_w 22 (some 32) (.pointer (some ⟨L, 0, none⟩)) rfl rfl (by kernel_rfl) (by kernel_rfl) (by kernel_rfl) rfl (fun W hW => by obtain ⟨h0, h1, h2⟩ := hW; go_simp) tH1 ?_
        simp only [FL]
        refine hr_take_w 23 (some 33) (.pointer (some ⟨L, 0, none⟩)) rfl rfl (by kernel_rfl) (by kernel_rfl) (by kernel_rfl) rfl (fun W hW => by obtain ⟨h0, h1, h2⟩ := hW; go_simp) tH1 ?_
        simp only [FL]
        refine hr_take_w 24 (some 34) (.int .i64 (g.f : Nat)) rfl rfl (by kernel_rfl) (by kernel_rfl) (by kernel_rfl) rfl (fun W hW => by obtain ⟨h0, h1, h2⟩ := hW; go_simp) tH1 ?_
        simp only [FL]
        refine hr_ex 19 (some 29) rfl rfl (by kernel_rfl) rfl (R := fun v w' => ∃ g, v = .slice (some ⟨g, 0, none⟩) x.sum.size (grownCap tv1 x.sum.size 0 5) ∧ Sl w' (some ⟨g, 0, none⟩) x.sum.size (grownCap tv1 x.sum.size 0 5) (sb x.sum) ∧ Below tv1.heap.size tv1 w') (by have hr := Lib.run_convert_string_bytes (P := Try.prog) tv1 9 35 5 x.sum Try.underlying9 Try.underlying35 Try.underlying5; exact ⟨_, _, by go_simp, _, rfl, bytesWorld_sl tv1 x.sum (by have := HX.sz; omega), bytesWorld_below tv1 x.sum⟩) ?_
        rintro v tv2 ⟨cg, rfl, tG0, tC1⟩
        have tE2 := tE1.trans (tC1.mono tE1.size)
        have tH2 := tHS.out tv2 tE2
        refine ⟨tH2, ?_⟩
        simp only [FL]
        refine hr_call_w 20 (some 30) 45 #[.pointer (some ⟨b.q, 0, none⟩), .slice (some ⟨cg, 0, none⟩) x.sum.size (grownCap tv1 x.sum.size 0 5)] rfl rfl (by kernel_rfl) rfl (by go_simp) (fun v w' => v = .int .i64 (cntV x.sum x.cv : Nat) ∧ Below tv2.heap.size tv2 w') ((count_sb tv2 b.q g.f x.cv (HX.Q.below tE2) _ _ _ x.sum tG0).mono (by
          rintro e w' ⟨rfl, C⟩
          exact ⟨_, rfl, rfl, C⟩)) ?_
        rintro v tv3 ⟨rfl, tC2⟩
        have tE3 := tE2.trans (tC2.mono tE2.size)
        have tH3 := tHS.out tv3 tE3
        refine ⟨tH3, ?_⟩
        simp only [FL]
        refine hr_call_w 25 (some 35) 46 #[.int .i64 (g.f : Nat)] rfl rfl (by kernel_rfl) rfl (by go_simp) (fun v w' => v = .int .i64 (2 * (g.f : Int) + 1) ∧ Below tv3.heap.size tv3 w') ((most_at tv3 g.f HG.f1 HG.f4).mono (by
          rintro e w' ⟨rfl, C⟩
          exact ⟨_, rfl, rfl, C⟩)) ?_
        rintro v tv4 ⟨rfl, tC3⟩
        have tE4 := tE3.trans (tC3.mono tE3.size)
        have tH4 := tHS.out tv4 tE4
        refine ⟨tH4, ?_⟩
        simp only [FL]
        refine hr_take_w 26 (some 36) (.bool false) rfl rfl (by kernel_rfl) (by kernel_rfl) (by kernel_rfl) rfl (fun W hW => by obtain ⟨h0, h1, h2⟩ := hW; go_simp) tH4 ?_
        simp only [FL]
        refine hr_take_w 27 (some 37) (.bool false) rfl rfl (by kernel_rfl) (by kernel_rfl) (by kernel_rfl) rfl (fun W hW => by obtain ⟨h0, h1, h2⟩ := hW; go_simp) tH4 ?_
        simp only [FL]
        refine wpAnyH_done (by kernel_rfl) ?_ _
        refine NoPanic.normal ?_
        have x1 := tH4.1
        go_wp2_with (refine stop_at (.convert 9 35 (Operand.tmp 42)) rfl ?_)
        refine ⟨?_⟩
        refine wpList_conv_bytes rfl (Operand.tmp 42) rfl x.sum rfl (by omega) ?_
        rintro gg cc w3 - S3 C3
        go_wp2
        go_ret2
        exact ⟨_, _, _, rfl, S3, tE4.trans (C3.mono tE4.size)⟩
      · have e3 : commS g.f x = false := by unfold commS; rw [hp, decide_eq_false hc]; rfl
        rw [e3]
        have i2 : (cntV x.sum x.cv : Int) < 2 * (g.f : Int) + 1 := by omega
        have d2 : decide ((cntV x.sum x.cv : Int) < 2 * (g.f : Int) + 1) = true := decide_eq_true i2
        clear e1 e2 hx e3
        go_enter Try.func19, Try.ntmps19
        go_wp2_with (go_at_call 43; refine CF.mono ?_; rintro e w1 ⟨rfl, hw1⟩; have hw1 := hw1.symm; subst hw1)
        go_wp2_with fail
        have tHS : Hid (∀ V, Below w.heap.size w V → V.cell? ⟨b.X, 1, none⟩ = some (.string x.sum) ∧ V.cell? ⟨b.X, 6, none⟩ = some (.pointer (some ⟨b.q, 0, none⟩)) ∧ V.cell? ⟨L, 0, none⟩ = some (.int .i64 (g.f : Nat))) := fun V hV => by have K := Arr.below HX.mem hV HX.lt; exact ⟨K.cell 1, K.cell 6, (HG.lc.below hV).cell 0⟩
        have tE0 : Below w.heap.size w w.drew := (Below.refl _ _).drew
        refine wp_region_noPanic ?_
        refine wp_region_held_drew (S := fun V => V.cell? ⟨b.X, 1, none⟩ = some (.string x.sum) ∧ V.cell? ⟨b.X, 6, none⟩ = some (.pointer (some ⟨b.q, 0, none⟩)) ∧ V.cell? ⟨L, 0, none⟩ = some (.int .i64 (g.f : Nat))) (by kernel_rfl) (tHS.out _ tE0) (fun tH0 => ?_)
        obtain ⟨tv0, hv0⟩ : ∃ v, v = w.drew := ⟨_, rfl⟩
        rw [← hv0] at tH0 tE0 ⊢
        clear hv0
        refine hr_take_w 0 (some 10) (.pointer (some ⟨b.X, 0, none⟩)) rfl rfl (by kernel_rfl) (by kernel_rfl) (by kernel_rfl) rfl (fun W hW => by obtain ⟨h0, h1, h2⟩ := hW; go_simp) tH0 ?_
        simp only [FL]
        refine hr_take_w 1 (some 11) (.bool false) rfl rfl (by kernel_rfl) (by kernel_rfl) (by kernel_rfl) rfl (fun W hW => by obtain ⟨h0, h1, h2⟩ := hW; go_simp) tH0 ?_
        simp only [FL]
        refine hr_take_w 2 (some 12) (.bool false) rfl rfl (by kernel_rfl) (by kernel_rfl) (by kernel_rfl) rfl (fun W hW => by obtain ⟨h0, h1, h2⟩ := hW; go_simp) tH0 ?_
        simp only [FL]
        refine hr_take_w 3 (some 13) (.pointer (some ⟨L, 0, none⟩)) rfl rfl (by kernel_rfl) (by kernel_rfl) (by kernel_rfl) rfl (fun W hW => by obtain ⟨h0, h1, h2⟩ := hW; go_simp) tH0 ?_
        simp only [FL]
        refine hr_take_w 4 (some 14) (.pointer (some ⟨b.X, 0, none⟩)) rfl rfl (by kernel_rfl) (by kernel_rfl) (by kernel_rfl) rfl (fun W hW => by obtain ⟨h0, h1, h2⟩ := hW; go_simp) tH0 ?_
        simp only [FL]
        refine hr_call_w 5 (some 15) 44 #[.pointer (some ⟨L, 0, none⟩), .pointer (some ⟨b.X, 0, none⟩)] rfl rfl (by kernel_rfl) rfl (by go_simp) (fun v w' => v = .bool (prepS g.f x) ∧ Below tv0.heap.size tv0 w') ((isPrep_any tv0 L g.f g.low g.view M (HG.lc.below tE0) HG.f4 b x (HXB tv0 tE0)).mono (by
          rintro e w' ⟨rfl, C⟩
          exact ⟨_, rfl, rfl, C⟩)) ?_
        rintro v tv1 ⟨rfl, tC0⟩
        have tE1 := tE0.trans (tC0.mono tE0.size)
        have tH1 := tHS.out tv1 tE1
        refine ⟨tH1, ?_⟩
        simp only [FL]
        refine hr_take_w 6 (some 16) (.bool false) rfl rfl (by kernel_rfl) (by kernel_rfl) (by kernel_rfl) rfl (fun W hW => by obtain ⟨h0, h1, h2⟩ := hW; go_simp) tH1 ?_
        simp only [FL]
        refine hr_take_w 7 (some 17) (.bool false) rfl rfl (by kernel_rfl) (by kernel_rfl) (by kernel_rfl) rfl (fun W hW => by obtain ⟨h0, h1, h2⟩ := hW; go_simp) tH1 ?_
        simp only [FL]
        refine hr_take_w 8 (some 18) (.bool false) rfl rfl (by kernel_rfl) (by kernel_rfl) (by kernel_rfl) rfl (fun W hW => by obtain ⟨h0, h1, h2⟩ := hW; go_simp) tH1 ?_
        simp only [FL]
        refine hr_take_w 9 (some 19) (.pointer (some ⟨b.X, 0, none⟩)) rfl rfl (by kernel_rfl) (by kernel_rfl) (by kernel_rfl) rfl (fun W hW => by obtain ⟨h0, h1, h2⟩ := hW; go_simp) tH1 ?_
        simp only [FL]
        refine hr_take_w 10 (some 20) (.pointer (some ⟨b.X, 0, none⟩)) rfl rfl (by kernel_rfl) (by kernel_rfl) (by kernel_rfl) rfl (fun W hW => by obtain ⟨h0, h1, h2⟩ := hW; go_simp) tH1 ?_
        simp only [FL]
        refine hr_take_w 11 (some 21) (.pointer (some ⟨b.X, 0, none⟩)) rfl rfl (by kernel_rfl) (by kernel_rfl) (by kernel_rfl) rfl (fun W hW => by obtain ⟨h0, h1, h2⟩ := hW; go_simp) tH1 ?_
        simp only [FL]
        refine hr_take_w 12 (some 22) (.pointer (some ⟨b.X, 6, none⟩)) rfl rfl (by kernel_rfl) (by kernel_rfl) (by kernel_rfl) rfl (fun W hW => by obtain ⟨h0, h1, h2⟩ := hW; go_simp) tH1 ?_
        simp only [FL]
        refine hr_take_w 13 (some 23) (.pointer (some ⟨b.q, 0, none⟩)) rfl rfl (by kernel_rfl) (by kernel_rfl) (by kernel_rfl) rfl (fun W hW => by obtain ⟨h0, h1, h2⟩ := hW; go_simp) tH1 ?_
        simp only [FL]
        refine hr_take_w 14 (some 24) (.pointer (some ⟨b.X, 0, none⟩)) rfl rfl (by kernel_rfl) (by kernel_rfl) (by kernel_rfl) rfl (fun W hW => by obtain ⟨h0, h1, h2⟩ := hW; go_simp) tH1 ?_
        simp only [FL]
        refine hr_take_w 15 (some 25) (.pointer (some ⟨b.X, 0, none⟩)) rfl rfl (by kernel_rfl) (by kernel_rfl) (by kernel_rfl) rfl (fun W hW => by obtain ⟨h0, h1, h2⟩ := hW; go_simp) tH1 ?_
        simp only [FL]
        refine hr_take_w 16 (some 26) (.pointer (some ⟨b.X, 0, none⟩)) rfl rfl (by kernel_rfl) (by kernel_rfl) (by kernel_rfl) rfl (fun W hW => by obtain ⟨h0, h1, h2⟩ := hW; go_simp) tH1 ?_
        simp only [FL]
        refine hr_take_w 17 (some 27) (.pointer (some ⟨b.X, 1, none⟩)) rfl rfl (by kernel_rfl) (by kernel_rfl) (by kernel_rfl) rfl (fun W hW => by obtain ⟨h0, h1, h2⟩ := hW; go_simp) tH1 ?_
        simp only [FL]
        refine hr_take_w 18 (some 28) (.string x.sum) rfl rfl (by kernel_rfl) (by kernel_rfl) (by kernel_rfl) rfl (fun W hW => by obtain ⟨h0, h1, h2⟩ := hW; go_simp) tH1 ?_
        simp only [FL]
        refine hr_take_w 21 (some 31) (.pointer (some ⟨L, 0, none⟩)) rfl rfl (by kernel_rfl) (by kernel_rfl) (by kernel_rfl) rfl (fun W hW => by obtain ⟨h0, h1, h2⟩ := hW; go_simp) tH1 ?_
        simp only [FL]
        refine hr_take_w 22 (some 32) (.pointer (some ⟨L, 0, none⟩)) rfl rfl (by kernel_rfl) (by kernel_rfl) (by kernel_rfl) rfl (fun W hW => by obtain ⟨h0, h1, h2⟩ := hW; go_simp) tH1 ?_
        simp only [FL]
        refine hr_take_w 23 (some 33) (.pointer (some ⟨L, 0, none⟩)) rfl rfl (by kernel_rfl) (by kernel_rfl) (by kernel_rfl) rfl (fun W hW => by obtain ⟨h0, h1, h2⟩ := hW; go_simp) tH1 ?_
        simp only [FL]
        refine hr_take_w 24 (some 34) (.int .i64 (g.f : Nat)) rfl rfl (by kernel_rfl) (by kernel_rfl) (by kernel_rfl) rfl (fun W hW => by obtain ⟨h0, h1, h2⟩ := hW; go_simp) tH1 ?_
        simp only [FL]
        refine hr_ex 19 (some 29) rfl rfl (by kernel_rfl) rfl (R := fun v w' => ∃ g, v = .slice (some ⟨g, 0, none⟩) x.sum.size (grownCap tv1 x.sum.size 0 5) ∧ Sl w' (some ⟨g, 0, none⟩) x.sum.size (grownCap tv1 x.sum.size 0 5) (sb x.sum) ∧ Below tv1.heap.size tv1 w') (by have hr := Lib.run_convert_string_bytes (P := Try.prog) tv1 9 35 5 x.sum Try.underlying9 Try.underlying35 Try.underlying5; exact ⟨_, _, by go_simp, _, rfl, bytesWorld_sl tv1 x.sum (by have := HX.sz; omega), bytesWorld_below tv1 x.sum⟩) ?_
        rintro v tv2 ⟨cg, rfl, tG0, tC1⟩
        have tE2 := tE1.trans (tC1.mono tE1.size)
        have tH2 := tHS.out tv2 tE2
        refine ⟨tH2, ?_⟩
        simp only [FL]
        refine hr_call_w 20 (some 30) 45 #[.pointer (some ⟨b.q, 0, none⟩), .slice (some ⟨cg, 0, none⟩) x.sum.size (grownCap tv1 x.sum.size 0 5)] rfl rfl (by kernel_rfl) rfl (by go_simp) (fun v w' => v = .int .i64 (cntV x.sum x.cv : Nat) ∧ Below tv2.heap.size tv2 w') ((count_sb tv2 b.q g.f x.cv (HX.Q.below tE2) _ _ _ x.sum tG0).mono (by
          rintro e w' ⟨rfl, C⟩
          exact ⟨_, rfl, rfl, C⟩)) ?_
        rintro v tv3 ⟨rfl, tC2⟩
        have tE3 := tE2.trans (tC2.mono tE2.size)
        have tH3 := tHS.out tv3 tE3
        refine ⟨tH3, ?_⟩
        simp only [FL]
        refine hr_call_w 25 (some 35) 46 #[.int .i64 (g.f : Nat)] rfl rfl (by kernel_rfl) rfl (by go_simp) (fun v w' => v = .int .i64 (2 * (g.f : Int) + 1) ∧ Below tv3.heap.size tv3 w') ((most_at tv3 g.f HG.f1 HG.f4).mono (by
          rintro e w' ⟨rfl, C⟩
          exact ⟨_, rfl, rfl, C⟩)) ?_
        rintro v tv4 ⟨rfl, tC3⟩
        have tE4 := tE3.trans (tC3.mono tE3.size)
        have tH4 := tHS.out tv4 tE4
        refine ⟨tH4, ?_⟩
        simp only [FL]
        refine hr_take_w 26 (some 36) (.bool true) rfl rfl (by kernel_rfl) (by kernel_rfl) (by kernel_rfl) rfl (fun W hW => by obtain ⟨h0, h1, h2⟩ := hW; go_simp) tH4 ?_
        simp only [FL]
        refine hr_take_w 27 (some 37) (.bool true) rfl rfl (by kernel_rfl) (by kernel_rfl) (by kernel_rfl) rfl (fun W hW => by obtain ⟨h0, h1, h2⟩ := hW; go_simp) tH4 ?_
        simp only [FL]
        refine wpAnyH_done (by kernel_rfl) ?_ _
        refine NoPanic.normal ?_
        go_wp2
        go_ret2
        exact ⟨none, 0, 0, rfl, Sl.nothing _, tE4⟩
open Go.RowKit
theorem sl_mark15 (w : World) (c : Int) (h : 0 ≤ c ∧ c ≤ 255) : Sl (w.alloc (.cells #[.int .u8 c] 5 (1, 2))) (some ⟨w.heap.size, 0, none⟩) 1 1 [c] := by
  refine ⟨rfl, Nat.le_refl _, by decide, fun h => by simp at h, fun a ha i hi => ?_, fun x hx => by simp at hx; omega⟩
  obtain rfl := Option.some.inj ha
  obtain rfl : i = 0 := by omega
  rw [Addr.add_lit, World.cell?_alloc_mark]
  rfl
theorem LG.made {w w' : World} {f : Nat} (h1 : 1 ≤ f) (h4 : f ≤ 4) (hL : LC w' (w.heap.size + 1) f 0 0 w.heap.size) (hM : MF w' 30 w.heap.size 0 (fun _ => none)) :
    LG w' w.heap.size (w.heap.size + 1) w.heap.size 0 (newG f) (fun _ => none) (fun _ => ⟨0, 0, 0, ⟨0, ⟨none, 0, 0, []⟩, ⟨none, 0, 0, []⟩⟩, none, 0, 0, []⟩) (fun z => if z = w.heap.size + 1 then 1 else if z = w.heap.size then 2 else 0) where
  f1 := h1
  f4 := h4
  lowz := Nat.zero_le _
  viewz := Nat.zero_le _
  lc := hL
  mf := hM
  here := fun _ _ h => by cases h
  win := fun _ _ h => by cases h
  no := fun _ h => absurd rfl h
  rL := if_pos rfl
  rM := by rw [if_neg (by omega), if_pos rfl]
  ro := fun _ _ h => by cases h
  lo := fun z hz => by rw [if_neg (by omega), if_neg (by omega)]
def svE (a : Nat) : SV := ⟨a, [], []⟩
def saE (a : Nat) : SA := ⟨a, ⟨none, 0, 0, []⟩, ⟨none, 0, 0, []⟩⟩
theorem saE_ok (w : World) (a : Nat) (h : a < 18446744073709551616) : (saE a).ok w := ⟨h, Sl.nothing w, Sl.nothing w⟩
theorem saE_blk (a z : Nat) : ¬ (saE a).blk z := by
  rintro (⟨b, h, _⟩ | ⟨b, h, _⟩) <;> cases h
def xx : ByteArray := strOfNums [120]
def gA : GT := (preG (newG 1) (svE 1) 1 xx).1
def gB : GT := (parG gA (svE 2) 1 xx).1
def gC : GT := (parG gB (svE 3) 1 xx).1
theorem al1 : (preG (newG 1) (svE 1) 1 xx).2 = 0 := by decide
theorem al2 : (parG gA (svE 2) 1 xx).2 = 0 := by decide
theorem al3 : preO gB 1 = false := by decide
theorem al4 : (parG gB (svE 3) 1 xx).2 = 0 := by decide
theorem al5 : preO gC 1 = true := by decide
theorem al6 : (certsG gC).length = 1 := by decide
set_option maxRecDepth 100000 in
set_option maxHeartbeats 4000000 in
theorem alive15 (w : World) : Calls Try.prog 10 #[] w fun e w' => e = .returned (.bool true) ∧ Below w.heap.size w w' := by
  have kc := fun (w : World) (C : Array Value) (n c g : Nat) (hg : g = w.heap.size) => Joins.run_convert_bytes_const_at (P := Try.prog) w 35 5 C n c g hg Try.underlying35 Try.underlying5
  have CN := slNew_good w 1 (by omega) (by omega)
  go_enter Try.func10, Try.ntmps10
  go_wp2_with fail
  refine CN.mono ?_
  rintro x w1 ⟨rfl, hL, hM, C1⟩
  have K1 := LG.made (by omega) (by omega) hL hM
  clear CN hL hM
  have D2 : Below w1.heap.size w1 (w1.alloc (.cells #[.int .u8 120] 5 (1, 2))) := (Below.refl _ _).alloc (Nat.le_refl _) _
  obtain ⟨K2, T2⟩ := K1.below D2
  have CA := pre_any _ _ _ _ _ _ _ _ _ K2 (by decide) (saE 1) (saE_ok _ 1 (by omega)) (fun z hz => absurd hz (saE_blk 1 z)) ⟨by decide, by decide⟩ 1 (by omega) _ 1 1 [120] (sl_mark15 w1 120 (by omega)) (fun z ⟨a, ha, _, e⟩ => by cases ha; rw [← e]; exact rho_new (Nat.le_refl _)) (by omega)
  unfold MsgPost at CA
  rw [show (saE 1).v = svE 1 from rfl, show strOfNums [120] = xx from rfl, al1] at CA
  go_wp2_with fail
  refine CA.mono ?_
  rintro x w3 ⟨n3, F3, B3, ρ3, rfl, K3, T3, h3⟩
  have E3 := (C1.trans T2.bel).trans T3.bel
  clear CA K1 K2 D2 T2 T3 C1
  change LG w3 _ _ _ _ gA _ _ _ at K3
  have D4 : Below w3.heap.size w3 (w3.alloc (.cells #[.int .u8 120] 5 (1, 2))) := (Below.refl _ _).alloc (Nat.le_refl _) _
  obtain ⟨K4, T4⟩ := K3.below D4
  have CA := prepare_any _ _ _ _ _ _ _ _ _ K4 (by unfold maxLen; omega) (saE 2) (saE_ok _ 2 (by omega)) (fun z hz => absurd hz (saE_blk 2 z)) ⟨by decide, by decide⟩ 1 (by omega) _ 1 1 [120] (sl_mark15 w3 120 (by omega)) (fun z ⟨a, ha, _, e⟩ => by cases ha; rw [← e]; exact rho_new (Nat.le_refl _)) (by omega)
  unfold MsgPost at CA
  rw [show (saE 2).v = svE 2 from rfl, show strOfNums [120] = xx from rfl, al2] at CA
  go_wp2_with fail
  refine CA.mono ?_
  rintro x w5 ⟨n5, F5, B5, ρ5, rfl, K5, T5, h5⟩
  have E5 := (E3.trans T4.bel).trans T5.bel
  clear CA K3 K4 D4 T4 T5 E3
  change LG w5 _ _ _ _ gB _ _ _ at K5
  have CP := prep_any15 _ _ _ _ _ _ _ _ _ K5 1 (by omega)
  rw [al3] at CP
  go_wp2_with fail
  refine CP.mono ?_
  rintro x w6 ⟨rfl, C6⟩
  obtain ⟨K6, T6⟩ := K5.below C6
  have D7 : Below w6.heap.size w6 (w6.alloc (.cells #[.int .u8 120] 5 (1, 2))) := (Below.refl _ _).alloc (Nat.le_refl _) _
  obtain ⟨K7, T7⟩ := K6.below D7
  have CA := prepare_any _ _ _ _ _ _ _ _ _ K7 (by unfold maxLen; omega) (saE 3) (saE_ok _ 3 (by omega)) (fun z hz => absurd hz (saE_blk 3 z)) ⟨by decide, by decide⟩ 1 (by omega) _ 1 1 [120] (sl_mark15 w6 120 (by omega)) (fun z ⟨a, ha, _, e⟩ => by cases ha; rw [← e]; exact rho_new (Nat.le_refl _)) (by omega)
  unfold MsgPost at CA
  rw [show (saE 3).v = svE 3 from rfl, show strOfNums [120] = xx from rfl, al4] at CA
  have E7 := (E5.trans T6.bel).trans T7.bel
  clear CP K5 C6 K6 D7 T6 T7 E5
  go_wp2_with fail
  refine CA.mono ?_
  rintro x w8 ⟨n8, F8, B8, ρ8, rfl, K8, T8, h8⟩
  change LG w8 _ _ _ _ gC _ _ _ at K8
  have E8 := E7.trans T8.bel
  have CP := prep_any15 _ _ _ _ _ _ _ _ _ K8 1 (by omega)
  rw [al5] at CP
  clear CA K7 T8 E7
  go_wp2_with fail
  refine CP.mono ?_
  rintro x w9 ⟨rfl, C9⟩
  obtain ⟨K9, T9⟩ := K8.below C9
  have E9 := E8.trans T9.bel
  have CC := certs_any15 _ _ _ _ _ _ _ _ _ K9 (by omega)
  clear CP K8 C9 K9 T9 E8
  unfold CertsPost at CC
  rw [al6] at CC
  have HS := E9.size
  go_wp2_with (go_at_call 15; refine CC.mono ?_; rintro e w10 ⟨ao, cap, ls, rfl, -, -, C10⟩)
  go_ret
  exact ⟨rfl, E9.trans (C10.mono HS)⟩
end Go.Proofs.Ytbbhokodleaheaa
namespace Go.Proofs.Ytbbhokodleaheaa
open Go.RowKit
def LT (w0 : World) (L M n : Nat) (g : GT) (w : World) : Prop := ∃ n' F B ρ, n' ≤ n ∧ LG w w0.heap.size L M n' g F B ρ ∧ Below w0.heap.size w0 w
section
variable {w0 w w' : World} {L M n : Nat} {g : GT}
theorem LT.below (h : LT w0 L M n g w) (hb : Below w.heap.size w w') : LT w0 L M n g w' := by
  obtain ⟨n', F, B, ρ, h1, h2, h3⟩ := h
  obtain ⟨h4, h5⟩ := h2.below hb
  exact ⟨n', F, B, _, h1, h4, h3.trans h5.bel⟩
theorem LT.bel (h : LT w0 L M n g w) : Below w0.heap.size w0 w := by
  obtain ⟨_, _, _, _, _, _, h3⟩ := h
  exact h3
theorem LT.comC (h : LT w0 L M n g w) (seq : Nat) (hs : seq < 18446744073709551616) : Calls Try.prog 19 #[.pointer (some ⟨L, 0, none⟩), .int .u64 (seq : Nat)] w (RetO w (comO g seq)) := by
  obtain ⟨_, F, B, ρ, _, h2, _⟩ := h
  exact comm_any15 w _ L M _ g F B ρ h2 seq hs
end
theorem OX.below {V V' : World} {b p : Nat} {o : OA} (h : OX V b p o) (hb : Below V.heap.size V V') : OX V' b p o :=
  ⟨(hb.cell (World.block_lt_of_cell? _ _ h.c0)).trans h.c0, (hb.cell (World.block_lt_of_cell? _ _ h.c1)).trans h.c1, (hb.cell (World.block_lt_of_cell? _ _ h.c2)).trans h.c2, (hb.cell (World.block_lt_of_cell? _ _ h.c3)).trans h.c3⟩
end Go.Proofs.Ytbbhokodleaheaa
namespace Go.Proofs.Ytbbhokodleaheaa
open Go.RowKit
def LU (w0 : World) (L M n : Nat) (g : GT) (ρ : Nat → Nat) (w : World) : Prop := ∃ n' F B, n' ≤ n ∧ LG w w0.heap.size L M n' g F B ρ ∧ Below w0.heap.size w0 w
section
variable {w0 w w' : World} {L M n : Nat} {g : GT} {ρ : Nat → Nat}
theorem LU.lt (h : LU w0 L M n g ρ w) : LT w0 L M n g w := by
  obtain ⟨n', F, B, h1, h2, h3⟩ := h
  exact ⟨n', F, B, ρ, h1, h2, h3⟩
theorem LU.below (h : LU w0 L M n g ρ w) (hb : Below w.heap.size w w') : LU w0 L M n g (rho w ρ) w' := by
  obtain ⟨n', F, B, h1, h2, h3⟩ := h
  obtain ⟨h4, h5⟩ := h2.below hb
  exact ⟨n', F, B, h1, h4, h3.trans h5.bel⟩
theorem LU.bel (h : LU w0 L M n g ρ w) : Below w0.heap.size w0 w := h.lt.bel
theorem LU.oneC (h : LU w0 L M n g ρ w) (hn : n < maxLen) (o : OA) (ok : o.ok w0) (hz : o.b.n ≤ 1000000) :
    Calls Try.prog 12 #[.pointer (some ⟨L, 0, none⟩), .agg #[.int .i64 o.k, .int .u64 (o.fr : Nat), .int .u64 (o.seq : Nat), .slice o.b.ao o.b.n o.b.cap]] w fun e w' => e = .returned (.int .i64 (oneG g o).2) ∧ ∃ ρ', LU w0 L M (n + 1) (oneG g o).1 ρ' w' ∧ Stp w0.heap.size w w' ρ ρ' := by
  obtain ⟨n', F, B, h1, h2, h3⟩ := h
  refine (one_any w _ L M n' g F B ρ h2 (by omega) o (elO_fine.kept o w0 w ok fun z hz => h3.block z (elO_fine.lt o w0 z ok hz)) (fun z hz => h2.lo z (elO_fine.lt o w0 z ok hz)) hz).mono ?_
  rintro e w' ⟨n5, F5, B5, ρ5, rfl, K5, T5, h5⟩
  exact ⟨rfl, ρ5, ⟨n5, F5, B5, by omega, K5, h3.trans T5.bel⟩, T5⟩
theorem LU.base0 (h : LU w0 L M n g ρ w) : w0.heap.size ≤ w.heap.size := h.bel.size
theorem LU.app (h : LU w0 L M n g ρ w) {v v' : Value} (hg : w.grownBy w' v.ownBlock) (hr : ∀ z, v.ownBlock = some z → ρ z = 3) (hv : ∀ z, v'.ownBlock = some z → v.ownBlock = some z ∨ w.heap.size ≤ z) :
    ∃ ρ', LU w0 L M n g ρ' w' ∧ (∀ z, v'.ownBlock = some z → ρ' z = 3) ∧ (∀ z, z < w.heap.size → ρ' z = ρ z) := by
  obtain ⟨n', F, B, h1, h2, h3⟩ := h
  have hbs : w0.heap.size ≤ w.heap.size := h3.size
  have bl : ∀ z, z < w.heap.size → ρ z ≠ 3 → w'.heap[z]? = w.heap[z]? := fun z hz hn => hg.block z hz fun e => hn (hr z e.symm)
  have ex : ∃ ρ' : Nat → Nat, ρ' = fun z => if z < w.heap.size then ρ z else if v'.ownBlock = some z then 3 else 0 := ⟨_, rfl⟩
  obtain ⟨ρ', hρ⟩ := ex
  have old : ∀ z, z < w.heap.size → ρ' z = ρ z := fun z hz => by rw [hρ]; exact if_pos hz
  refine ⟨ρ', ⟨n', F, B, h1, { h2 with lc := ?_, mf := ?_, here := fun j y hy => ?_, rL := (old _ h2.Llt).trans h2.rL, rM := (old _ h2.mf.lt).trans h2.rM, ro := fun j y hy => ?_, lo := fun z hz => (old z (by omega)).trans (h2.lo z hz) }, ?_⟩, fun z hz => ?_, old⟩
  · exact (bl L h2.Llt (by rw [h2.rL]; omega)).trans h2.lc
  · exact h2.mf.same (bl M h2.mf.lt (by rw [h2.rM]; omega))
  · obtain ⟨a1, a2⟩ := h2.here j y hy
    obtain ⟨r1, r2, r3, r4⟩ := h2.ro j y hy
    exact ⟨a1, a2.keep (bl _ a2.lt (by rw [r1]; omega)) (bl _ a2.P.lt (by rw [r2]; omega)) (bl _ a2.Q.lt (by rw [r3]; omega)) fun z hz => bl z (a2.imm_lt hz) (by rw [r4 z hz]; omega)⟩
  · obtain ⟨a1, a2⟩ := h2.here j y hy
    obtain ⟨r1, r2, r3, r4⟩ := h2.ro j y hy
    exact ⟨(old _ a2.lt).trans r1, (old _ a2.P.lt).trans r2, (old _ a2.Q.lt).trans r3, fun z hz => (old z (a2.imm_lt hz)).trans (r4 z hz)⟩
  · exact h3.grown hg hbs fun k hk => Nat.le_of_not_lt fun hl => by
      have e1 := hr k hk
      have e2 := h2.lo k hl
      omega
  · by_cases hl : z < w.heap.size
    · rw [old z hl]
      rcases hv z hz with c | c
      · exact hr z c
      · omega
    · rw [hρ]
      show (if z < w.heap.size then ρ z else if v'.ownBlock = some z then 3 else 0) = 3
      rw [if_neg hl, if_pos hz]
end
theorem GI.app2 {α : Type} {E : El α} {t s : TypeId} {W : World} {base : Nat} {v : Value} {ys : List α} (F : E.Fine) {bytes : Nat} {z : Value} (hty : GTy E.sz bytes z t s) (h : GI E t W base v ys) (ty : TypeId) {a : Addr} {cp : Nat} {y : α} (hG : ∀ j u, (E.c y)[j]? = some u → W.cell? (a.add j) = some u) (he : E.ok y W) (hf : ∀ x, E.blk y x → v.ownBlock ≠ some x) (hn : (ys.length + 1) * bytes ≤ 140737488355328) (hm : ys.length + 1 ≤ maxLen) (hbase : base ≤ W.heap.size) :
    ∃ v' W1, (Builtin.append_ #[s, s] ty #[v, .slice (some a) 1 cp]).run Try.prog W = .ok v' W1 ∧ GI E t W1 base v' (ys ++ [y]) ∧ W.grownBy W1 v.ownBlock ∧ ∀ x, v'.ownBlock = some x → v.ownBlock = some x ∨ W.heap.size ≤ x := by
  obtain ⟨i0, hi, hz0, hz1, hz2⟩ := info_parts hty.info
  obtain ⟨v', W1, hr, ho, hg, ha⟩ := run_append_own2 (P := Try.prog) W base s ty t i0 _ E.sz bytes hty.und hi hz0 hz1 hz2 hty.zs F.pos v ys.length ((ys.map E.c).flatten) h.own a 1 cp (E.c y) (by rw [F.len, Nat.one_mul]) hG (F.one y) hm hn hbase
  have hown : W1.ownsRow base t E.sz v' (ys ++ [y]).length (((ys ++ [y]).map E.c).flatten) := by
    have e1 : ((ys ++ [y]).map E.c).flatten = (ys.map E.c).flatten ++ E.c y := by simp
    rw [e1, List.length_append]
    exact ho
  have key : ∀ z : α, E.ok z W → (∀ x, E.blk z x → v.ownBlock ≠ some x) → E.ok z W1 ∧ ∀ x, E.blk z x → v'.ownBlock ≠ some x := fun z hz hzf => ⟨F.kept z W W1 hz fun x hx => hg.block x (F.lt z W x hz hx) (fun e => hzf x hx e.symm), fun x hx e => by
    rcases ha x e with c | c
    · exact hzf x hx c
    · have := F.lt z W x hz hx
      omega⟩
  refine ⟨v', W1, hr, ⟨hown, fun z hz => ?_, fun z hz => ?_⟩, hg, ha⟩
  · rcases List.mem_append.1 hz with hz | hz
    · exact (key z (h.ok z hz) (h.far z hz)).1
    · rw [List.mem_singleton.1 hz]; exact (key y he hf).1
  · rcases List.mem_append.1 hz with hz | hz
    · exact (key z (h.ok z hz) (h.far z hz)).2
    · rw [List.mem_singleton.1 hz]; exact (key y he hf).2
section
variable {w0 w : World} {L M n : Nat} {g : GT}
theorem LT.com0 (h : LT w0 L M n g w) (seq : Nat) (hs : seq < 18446744073709551616) (e : comO g seq = none) : Calls Try.prog 19 #[.pointer (some ⟨L, 0, none⟩), .int .u64 (seq : Nat)] w fun x w' => ∃ ao n cap, x = .returned (.tuple #[.slice ao n cap, .bool false]) ∧ Below w.heap.size w w' := by
  refine (h.comC seq hs).mono ?_
  rintro x w' ⟨ao, n, cap, rfl, _, h4⟩
  rw [e]
  exact ⟨ao, n, cap, rfl, h4⟩
theorem LT.com1 (h : LT w0 L M n g w) (seq : Nat) (hs : seq < 18446744073709551616) {s : ByteArray} (e : comO g seq = some s) : Calls Try.prog 19 #[.pointer (some ⟨L, 0, none⟩), .int .u64 (seq : Nat)] w fun x w' => ∃ ao n cap, x = .returned (.tuple #[.slice ao n cap, .bool true]) ∧ Sl w' ao n cap (sb s) ∧ Below w.heap.size w w' := by
  refine (h.comC seq hs).mono ?_
  rintro x w' ⟨ao, n, cap, rfl, h3, h4⟩
  rw [e] at h3 ⊢
  exact ⟨ao, n, cap, rfl, h3, h4⟩
end
end Go.Proofs.Ytbbhokodleaheaa
namespace Go.Proofs.Ytbbhokodleaheaa
open Go.RowKit
def cn (p : Nat → Bool) : Nat → Nat
  | 0 => 0
  | n + 1 => cn p n + if p n = true then 1 else 0
theorem cn_both (p q : Nat → Bool) : ∀ n, cn p n + cn q n ≤ cn (fun k => p k && q k) n + n
  | 0 => Nat.le_refl _
  | n + 1 => by
    have := cn_both p q n
    unfold cn
    cases p n <;> cases q n <;> simp <;> omega
theorem cn_le (p q : Nat → Bool) : ∀ n, (∀ k, k < n → p k = true → q k = true) → cn p n ≤ cn q n
  | 0, _ => Nat.le_refl _
  | n + 1, h => by
    have h1 := cn_le p q n fun k hk => h k (by omega)
    have h2 := h n (by omega)
    unfold cn
    cases hp : p n with
    | false => simp; omega
    | true => rw [h2 hp]; simp; omega
theorem cn_ex {p q : Nat → Bool} {n : Nat} (h : cn q n < cn p n) : ∃ k, k < n ∧ p k = true ∧ q k = false := by
  refine Classical.byContradiction fun hn => ?_
  have := cn_le p q n fun k hk hp => by
    cases hq : q k with
    | true => rfl
    | false => exact absurd ⟨k, hk, hp, hq⟩ hn
  omega
theorem cn_one (a : Nat) : ∀ n, cn (fun k => decide (k + 1 = a)) n ≤ (if a ≤ n then 1 else 0)
  | 0 => Nat.zero_le _
  | n + 1 => by
    have := cn_one a n
    unfold cn
    by_cases e : n + 1 = a
    · rw [if_pos (by simpa using e), if_pos (by omega)]
      rw [if_neg (by omega)] at this
      omega
    · rw [if_neg (by simpa using e)]
      by_cases h : a ≤ n
      · rw [if_pos h] at this
        rw [if_pos (by omega)]
        exact this
      · rw [if_neg h] at this
        omega
theorem cn_or (p q r : Nat → Bool) (h : ∀ k, p k = true → q k = true ∨ r k = true) : ∀ n, cn p n ≤ cn q n + cn r n
  | 0 => Nat.le_refl _
  | n + 1 => by
    have h1 := cn_or p q r h n
    have h2 := h n
    unfold cn
    cases hp : p n with
    | false => simp; omega
    | true =>
      rcases h2 hp with e | e <;> rw [e] <;> simp <;> omega
theorem cn_in : ∀ (F : List Nat) (n : Nat), cn (fun k => decide (k + 1 ∈ F)) n ≤ F.length
  | [], n => by
    have := cn_le (fun k => decide (k + 1 ∈ ([] : List Nat))) (fun _ => false) n fun k _ h => by simp at h
    have hz : ∀ n, cn (fun _ => false) n = 0 := fun n => by
      induction n with
      | zero => rfl
      | succ n ih => unfold cn; rw [ih]; rfl
    rw [hz] at this
    exact this
  | a :: F, n => by
    have h1 := cn_in F n
    have h2 := cn_one a n
    have h3 := cn_or (fun k => decide (k + 1 ∈ a :: F)) (fun k => decide (k + 1 = a)) (fun k => decide (k + 1 ∈ F)) (fun k h => by
      simp only [decide_eq_true_eq, List.mem_cons] at h ⊢
      exact h) n
    rw [List.length_cons]
    split at h2 <;> omega
def isFo (l : List VT) (s : ByteArray) (k : Nat) : Bool := match l[k]? with | some v => v.fo s | none => false
theorem cntV_cn (s : ByteArray) (l : List VT) : ∀ n, n ≤ l.length → cntV s (l.take n) = cn (isFo l s) n
  | 0, _ => rfl
  | n + 1, h => by
    have hn : n < l.length := by omega
    have h1 := cntV_cn s l n (by omega)
    have h2 : isFo l s n = l[n].fo s := by unfold isFo; rw [List.getElem?_eq_getElem hn]
    have h3 : cn (isFo l s) (n + 1) = cn (isFo l s) n + (if isFo l s n = true then 1 else 0) := rfl
    rw [List.take_succ_eq_append_getElem hn, cntV_snoc, h1, h3, h2]
theorem cn_cut (p : Nat → Bool) (n : Nat) (h : ∀ k, n ≤ k → p k = false) : ∀ m, cn p (n + m) = cn p n
  | 0 => rfl
  | m + 1 => by
    have h1 := cn_cut p n h m
    show cn p (n + m) + (if p (n + m) = true then 1 else 0) = _
    rw [h1, h (n + m) (by omega)]
    rfl
theorem cntV_at {s : ByteArray} {l : List VT} {N : Nat} (hl : N ≤ l.length) (h : ∀ k vt, l[k]? = some vt → vt.is = true → k < N) : cntV s l = cn (isFo l s) N := by
  have h1 := cntV_cn s l l.length (Nat.le_refl _)
  rw [List.take_length] at h1
  rw [h1]
  obtain ⟨m, e⟩ : ∃ m, l.length = N + m := ⟨l.length - N, by omega⟩
  rw [e]
  refine cn_cut _ N (fun k hk => ?_) m
  unfold isFo
  cases hv : l[k]? with
  | none => rfl
  | some v =>
    cases hi : v.is with
    | true =>
      have := h k v hv hi
      omega
    | false =>
      show v.fo s = false
      unfold VT.fo
      rw [hi]
      rfl
theorem two_meet {f : Nat} {F : List Nat} (hF : F.length ≤ f) {la lb : List VT} {s t : ByteArray} (ha : 3 * f + 1 ≤ la.length) (hb : 3 * f + 1 ≤ lb.length) (ia : ∀ k vt, la[k]? = some vt → vt.is = true → k < 3 * f + 1) (ib : ∀ k vt, lb[k]? = some vt → vt.is = true → k < 3 * f + 1)
    (ca : 2 * f + 1 ≤ cntV s la) (cb : 2 * f + 1 ≤ cntV t lb) : ∃ k va vb, la[k]? = some va ∧ va.fo s = true ∧ lb[k]? = some vb ∧ vb.fo t = true ∧ k + 1 ∉ F := by
  rw [cntV_at ha ia] at ca
  rw [cntV_at hb ib] at cb
  have h1 := cn_both (isFo la s) (isFo lb t) (3 * f + 1)
  have h2 := cn_in F (3 * f + 1)
  obtain ⟨k, _, hp, hq⟩ := cn_ex (p := fun k => isFo la s k && isFo lb t k) (q := fun k => decide (k + 1 ∈ F)) (n := 3 * f + 1) (by omega)
  simp only [Bool.and_eq_true] at hp
  obtain ⟨p1, p2⟩ := hp
  unfold isFo at p1 p2
  cases ea : la[k]? with
  | none => rw [ea] at p1; cases p1
  | some va =>
    cases eb : lb[k]? with
    | none => rw [eb] at p2; cases p2
    | some vb =>
      rw [ea] at p1
      rw [eb] at p2
      exact ⟨k, va, vb, ea, p1, eb, p2, of_decide_eq_false hq⟩
structure SE where
  k : Int
  fr : Nat
  seq : Nat
  xs : List Int
def SE.of (o : OA) : SE := ⟨o.k, o.fr, o.seq, o.b.xs⟩
def SameK (y z : SE) : Prop := y.k = z.k ∧ y.fr = z.fr ∧ y.seq = z.seq
def OneS (S : List SE) : Prop := ∀ y ∈ S, ∀ z ∈ S, SameK y z → y.xs = z.xs
theorem OneS.add {S : List SE} (h : OneS S) {y : SE} (hn : ∀ z ∈ S, ¬ SameK z y) : OneS (S ++ [y]) := fun a ha b hb hk => by
  rcases List.mem_append.1 ha with ha | ha <;> rcases List.mem_append.1 hb with hb | hb
  · exact h a ha b hb hk
  · rw [List.mem_singleton.1 hb] at hk
    exact absurd hk (hn a ha)
  · rw [List.mem_singleton.1 ha] at hk
    exact absurd ⟨hk.1.symm, hk.2.1.symm, hk.2.2.symm⟩ (hn b hb)
  · rw [List.mem_singleton.1 ha, List.mem_singleton.1 hb]
def Told (f : Nat) (F : List Nat) (S : List SE) (seq : Nat) (l : List VT) : Prop := l.length = 13 ∧ ∀ k vt, l[k]? = some vt → vt.is = true → k < 3 * f + 1 ∧ (k + 1 ∈ F ∨ ∃ y ∈ S, y.k = 2 ∧ y.fr = k + 1 ∧ y.seq = seq ∧ strOfNums y.xs = vt.word)
def TG (F : List Nat) (S : List SE) (g : GT) : Prop := ∀ seq x, g.s seq = some x → Told g.f F S seq x.cv
theorem told_new (f : Nat) (F : List Nat) (S : List SE) (seq : Nat) : Told f F S seq noVotes := by
  refine ⟨by unfold noVotes; rw [List.length_replicate], fun k vt h hi => ?_⟩
  unfold noVotes at h
  rw [List.getElem?_replicate] at h
  split at h
  · obtain rfl := Option.some.inj h
    cases hi
  · cases h
theorem TG.at {F : List Nat} {S : List SE} {g : GT} (h : TG F S g) (k : Nat) : Told g.f F S k (g.slot k).cv := by
  unfold GT.slot
  cases hs : g.s k with
  | none => exact told_new _ _ _ _
  | some x => exact h k x hs
theorem TG.put {F : List Nat} {S : List SE} {g : GT} (h : TG F S g) (k : Nat) {y : ST} (hy : Told g.f F S k y.cv) : TG F S (g.put k y) := fun j x hx => by
  by_cases e : j = k
  · subst e
    rw [g.put_same] at hx
    obtain rfl := Option.some.inj hx
    exact hy
  · rw [g.put_other _ _ e] at hx
    exact h j x hx
theorem certS_cv (f v : Nat) (x : ST) : (certS f v x).cv = x.cv := by
  unfold certS
  split <;> rfl
theorem TG.more {F : List Nat} {S S' : List SE} {g : GT} (h : TG F S g) (hs : ∀ y ∈ S, y ∈ S') : TG F S' g := fun seq x hx => by
  obtain ⟨h1, h2⟩ := h seq x hx
  refine ⟨h1, fun k vt hk hi => ?_⟩
  obtain ⟨h3, h4⟩ := h2 k vt hk hi
  exact ⟨h3, h4.imp id fun ⟨y, h5, h6⟩ => ⟨y, hs y h5, h6⟩⟩
theorem TG.pre {F : List Nat} {S : List SE} {g : GT} (h : TG F S g) (sv : SV) (seq : Nat) (sum : ByteArray) : TG F S (preG g sv seq sum).1 := by
  unfold preG
  split
  · exact h
  split
  · exact h
  split
  · exact h.put seq (h.at seq)
  · exact h.put seq (by rw [certS_cv]; exact h.at seq)
theorem TG.par {F : List Nat} {S : List SE} {g : GT} (h : TG F S g) (sv : SV) (seq : Nat) (sum : ByteArray) : TG F S (parG g sv seq sum).1 := by
  unfold parG
  split
  · exact h
  split
  · exact h
  split
  · exact h.put seq (h.at seq)
  · exact h.put seq (by rw [certS_cv]; exact h.at seq)
theorem TG.com {F : List Nat} {S : List SE} {g : GT} (h : TG F S g) (sv : SV) (seq : Nat) (xs : List Int) (hs : sv.fr ∈ F ∨ ∃ y ∈ S, y.k = 2 ∧ y.fr = sv.fr ∧ y.seq = seq ∧ y.xs = xs) : TG F S (comG g sv seq (strOfNums xs)).1 := by
  unfold comG
  split
  · exact h
  · obtain ⟨h1, h2⟩ := h.at seq
    refine h.put seq ?_
    show Told g.f F S seq (addV g.f (g.slot seq).cv sv.fr (vtOf sv (strOfNums xs))).1
    unfold addV
    split
    · exact ⟨h1, h2⟩
    split
    · exact ⟨h1, h2⟩
    · rename_i h0 _
      refine ⟨by show (List.set _ _ _).length = _; rw [List.length_set]; exact h1, fun k vt hk hi => ?_⟩
      have hk : ((g.slot seq).cv.set (sv.fr - 1) (vtOf sv (strOfNums xs)))[k]? = some vt := hk
      rw [List.getElem?_set] at hk
      split at hk
      · split at hk
        · obtain rfl := Option.some.inj hk
          refine ⟨by omega, ?_⟩
          have e : k + 1 = sv.fr := by omega
          rw [e]
          exact hs.imp id fun ⟨y, h5, h6, h7, h8, h9⟩ => ⟨y, h5, h6, h7, h8, by rw [h9]; rfl⟩
        · cases hk
      · exact h2 k vt hk hi
theorem TG.one {F : List Nat} {S : List SE} {g : GT} (h : TG F S g) (o : OA) (hk : 0 ≤ o.k ∧ o.k ≤ 2) (hs : o.fr ∈ F ∨ ∃ y ∈ S, y.k = o.k ∧ y.fr = o.fr ∧ y.seq = o.seq ∧ y.xs = o.b.xs) : TG F S (oneG g o).1 := by
  unfold oneG
  by_cases k0 : o.k = 0
  · rw [if_pos k0]
    exact h.pre _ _ _
  rw [if_neg k0]
  by_cases k1 : o.k = 1
  · rw [if_pos k1]
    exact h.par _ _ _
  rw [if_neg k1]
  have k2 : o.k = 2 := by omega
  rw [if_pos k2]
  refine h.com (svO o) o.seq o.b.xs ?_
  rw [k2] at hs
  exact hs
theorem newG_tg (F : List Nat) (S : List SE) (f : Nat) : TG F S (newG f) := fun _ _ h => (by cases h)
theorem two_same {f : Nat} {F : List Nat} {S : List SE} (hf : f ≤ 4) (hF : F.length ≤ f) (hS : OneS S) {ga gb : GT} (ha : TG F S ga) (hb : TG F S gb) (fa : ga.f = f) (fb : gb.f = f) {seq : Nat} {s t : ByteArray} (ca : comO ga seq = some s) (cb : comO gb seq = some t) : s = t := by
  have key : ∀ {g : GT} {u : ByteArray}, TG F S g → g.f = f → comO g seq = some u → ∃ l, Told f F S seq l ∧ 2 * f + 1 ≤ cntV u l := by
    intro g u hg e hc
    unfold comO at hc
    cases hx : g.s seq with
    | none => rw [hx] at hc; cases hc
    | some x =>
      rw [hx] at hc
      have hc : (if commS g.f x = true then some x.sum else none) = some u := hc
      split at hc
      · rename_i hm
        obtain rfl := Option.some.inj hc
        unfold commS at hm
        simp only [Bool.and_eq_true, decide_eq_true_eq] at hm
        have h1 := hg seq x hx
        rw [e] at h1 hm
        exact ⟨x.cv, h1, hm.2⟩
      · cases hc
  obtain ⟨la, ⟨a1, a2⟩, a3⟩ := key ha fa ca
  obtain ⟨lb, ⟨b1, b2⟩, b3⟩ := key hb fb cb
  obtain ⟨k, va, vb, h1, h2, h3, h4, h5⟩ := two_meet hF (by omega) (by omega) (fun k vt h i => (a2 k vt h i).1) (fun k vt h i => (b2 k vt h i).1) a3 b3
  unfold VT.fo at h2 h4
  simp only [Bool.and_eq_true, decide_eq_true_eq] at h2 h4
  obtain ⟨y, y1, y2, y3, y4, y5⟩ := ((a2 k va h1 h2.1).2).resolve_left h5
  obtain ⟨z, z1, z2, z3, z4, z5⟩ := ((b2 k vb h3 h4.1).2).resolve_left h5
  have := hS y y1 z z1 ⟨y2.trans z2.symm, y3.trans z3.symm, y4.trans z4.symm⟩
  rw [← h2.2, ← h4.2, ← y5, ← z5, this]
end Go.Proofs.Ytbbhokodleaheaa
namespace Go.Proofs.Ytbbhokodleaheaa
open Go.RowKit
section
variable {w0 w w' : World} {L M n : Nat} {g : GT} {ρ : Nat → Nat}
theorem LU.aside (h : LU w0 L M n g ρ w) (hb : Below w.heap.size w w') (P : Nat → Prop) [DecidablePred P] : LU w0 L M n g (fun z => if z < w.heap.size then ρ z else if P z then 3 else 0) w' := by
  obtain ⟨n', F, B, h1, h2, h3⟩ := h
  have hbs : w0.heap.size ≤ w.heap.size := h3.size
  obtain ⟨h4, h5⟩ := h2.below hb
  refine ⟨n', F, B, h1, { h4 with rL := ?_, rM := ?_, ro := fun j y hy => ?_, lo := fun z hz => ?_ }, h3.trans h5.bel⟩
  · exact (if_pos h2.Llt).trans h2.rL
  · exact (if_pos h2.mf.lt).trans h2.rM
  · obtain ⟨a1, a2⟩ := h2.here j y hy
    obtain ⟨r1, r2, r3, r4⟩ := h2.ro j y hy
    exact ⟨(if_pos a2.lt).trans r1, (if_pos a2.P.lt).trans r2, (if_pos a2.Q.lt).trans r3, fun z hz => (if_pos (a2.imm_lt hz)).trans (r4 z hz)⟩
  · exact (if_pos (by omega)).trans (h2.lo z hz)
def rhoNew (L M : Nat) (o : Option Nat) (z : Nat) : Nat := if z = L then 1 else if z = M then 2 else if o = some z then 3 else 0
theorem LU.fresh {f : Nat} (h1 : 1 ≤ f) (h4 : f ≤ 4) (hL : LC w L f 0 0 M) (hM : MF w 30 M 0 (fun _ => none)) (hb : Below w0.heap.size w0 w) (hl : w0.heap.size ≤ L) (hm : w0.heap.size ≤ M) (hne : L ≠ M) (o : Option Nat) (ho : ∀ z, o = some z → w0.heap.size ≤ z) : LU w0 L M 0 (newG f) (rhoNew L M o) w :=
  ⟨0, fun _ => none, fun _ => ⟨0, 0, 0, ⟨0, ⟨none, 0, 0, []⟩, ⟨none, 0, 0, []⟩⟩, none, 0, 0, []⟩, Nat.le_refl _,
    { f1 := h1, f4 := h4, lowz := Nat.zero_le _, viewz := Nat.zero_le _, lc := hL, mf := hM, here := fun _ _ h => by cases h
      win := fun _ _ h => by cases h
      no := fun _ h => absurd rfl h
      rL := if_pos rfl
      rM := by unfold rhoNew; rw [if_neg (fun e => hne e.symm), if_pos rfl]
      ro := fun _ _ h => by cases h
      lo := fun z hz => by
        unfold rhoNew
        rw [if_neg (by omega), if_neg (by omega), if_neg (fun e => by have := ho z e; omega)] }, hb⟩
theorem rhoNew_free {L M : Nat} {o : Option Nat} {z : Nat} (h1 : z ≠ L) (h2 : z ≠ M) : rhoNew L M o z = 0 ∨ rhoNew L M o z = 3 := by
  unfold rhoNew
  rw [if_neg h1, if_neg h2]
  split
  · exact .inr rfl
  · exact .inl rfl
end
theorem tyO : GTy elO.sz 48 (.agg #[.int .i64 0, .int .u64 0, .int .u64 0, .slice none 0 0]) 37 22 := ⟨by kernel_rfl, rfl, Try.underlying22⟩
structure OT (w0 : World) (L M n : Nat) (g : GT) (ρ : Nat → Nat) (v : Value) (ys : List OA) (w : World) : Prop where
  K : LU w0 L M n g ρ w
  G : GI elO 37 w w0.heap.size v ys
  ro : ∀ z, v.ownBlock = some z → ρ z = 3
  rb : ∀ y ∈ ys, ∀ z, y.b.blk z → z < w0.heap.size
section
variable {w0 w w' : World} {L M n : Nat} {g : GT} {ρ : Nat → Nat} {v : Value} {ys : List OA}
theorem OT.nil (K : LU w0 L M n g ρ w) : OT w0 L M n g ρ (.slice none 0 0) [] w :=
  ⟨K, GI.nil _ _ _ _, fun z hz => (by cases hz), fun _ h => absurd h List.not_mem_nil⟩
theorem OT.below (O : OT w0 L M n g ρ v ys w) (hb : Below w.heap.size w w') : OT w0 L M n g (rho w ρ) v ys w' :=
  ⟨O.K.below hb, O.G.below elO_fine hb, fun z hz => (rho_old (O.G.lt elO_fine (.inl hz))).trans (O.ro z hz), O.rb⟩
theorem OT.one (O : OT w0 L M n g ρ v ys w) {g' : GT} {ρ' : Nat → Nat} {n' : Nat} (K : LU w0 L M n' g' ρ' w') (T : Stp w0.heap.size w w' ρ ρ') : OT w0 L M n' g' ρ' v ys w' :=
  ⟨K, O.G.kept elO_fine fun z hz => hz.elim (fun h => T.keep z (O.G.lt elO_fine (.inl h)) (.inr (O.ro z h))) fun ⟨y, hy, h⟩ => T.bel.block z (O.rb y hy z h),
   fun z hz => (T.role z (O.G.lt elO_fine (.inl hz))).trans (O.ro z hz), O.rb⟩
theorem OT.slice (O : OT w0 L M n g ρ v ys w) : ∃ ao cap, v = .slice ao ys.length cap := O.G.slice
theorem OT.atO {ao : Option Addr} {m cap : Nat} (O : OT w0 L M n g ρ (.slice ao m cap) ys w) (hn : 0 < ys.length) : ∃ b off, ao = some ⟨b, off, none⟩ ∧ ∀ i (hi : i < ys.length), OX w b (off + i * 4) ys[i] := by
  obtain ⟨ao', cap', e, GLx, _⟩ := O.G.gl elO_fine
  simp only [Value.slice.injEq] at e
  obtain ⟨rfl, rfl, rfl⟩ := e
  exact GLx.atO hn
theorem OT.app2 (O : OT w0 L M n g ρ v ys w) (ty : TypeId) {a : Addr} {cp : Nat} {y : OA} (hG : ∀ j u, (elO.c y)[j]? = some u → w.cell? (a.add j) = some u) (ok : y.ok w0) (hn : ys.length ≤ 1000) :
    ∃ v' w' ρ', (Builtin.append_ #[22, 22] ty #[v, .slice (some a) 1 cp]).run Try.prog w = .ok v' w' ∧ OT w0 L M n g ρ' v' (ys ++ [y]) w' ∧ (∀ z, z < w.heap.size → ρ' z = ρ z) ∧ w.grownBy w' v.ownBlock ∧ ∀ z, v'.ownBlock = some z → v.ownBlock = some z ∨ w.heap.size ≤ z := by
  have hlt : ∀ z, y.b.blk z → z < w0.heap.size := fun z hz => elO_fine.lt y w0 z ok hz
  obtain ⟨n0, F0, B0, _, k0, _⟩ := O.K
  obtain ⟨v', w', h1, h2, h3, h4⟩ := O.G.app2 elO_fine tyO ty (y := y) hG (elO_fine.kept y w0 w ok fun z hz => O.K.bel.block z (hlt z hz)) (fun x hx e => by
    have e1 := O.ro x e
    have e2 := k0.lo x (hlt x hx)
    omega) (by omega) (by unfold maxLen; omega) O.K.base0
  obtain ⟨ρ', k1, k2, k3⟩ := O.K.app h3 O.ro h4
  refine ⟨v', w', ρ', h1, ⟨k1, h2, k2, fun y' hy z hz => ?_⟩, k3, h3, h4⟩
  rcases List.mem_append.1 hy with hy | hy
  · exact O.rb y' hy z hz
  · rw [List.mem_singleton.1 hy] at hz
    exact hlt z hz
end
end Go.Proofs.Ytbbhokodleaheaa
namespace Go.Proofs.Ytbbhokodleaheaa
open Go.RowKit
structure TA (w0 : World) (f La Ma n : Nat) (g : GT) (ρ : Nat → Nat) (Lb Mb : Nat) (v : Value) (ys : List OA) (w : World) : Prop where
  O : OT w0 La Ma n g ρ v ys w
  lb : ρ Lb = 3
  mb : ρ Mb = 3
  lc : LC w Lb f 0 0 Mb
  mf : MF w 30 Mb 0 (fun _ => none)
structure TB (w0 : World) (La Ma na : Nat) (ga : GT) (ρa : Nat → Nat) (Lb Mb n : Nat) (g : GT) (ρ : Nat → Nat) (v : Value) (ys : List OA) (w : World) : Prop where
  O : OT w0 Lb Mb n g ρ v ys w
  A : LU w0 La Ma na ga ρa w
  sep : ∀ z, z < w.heap.size → ρa z ≠ 3 → ρ z = 0 ∨ ρ z = 3
  own : ∀ z, v.ownBlock = some z → ρa z = 3
def keepR (w : World) (ρ : Nat → Nat) (z : Nat) : Nat := if z < w.heap.size then ρ z else 3
section
variable {w0 w w' : World} {L M n : Nat} {g : GT} {ρ : Nat → Nat}
theorem LU.frozen2 (h : LU w0 L M n g ρ w) (hk : ∀ z, z < w.heap.size → ρ z ≠ 3 → w'.heap[z]? = w.heap[z]?) (hb : Below w0.heap.size w0 w') : LU w0 L M n g (keepR w ρ) w' := by
  have hs := h.base0
  have h9 := h
  obtain ⟨n9, F9, B9, _, k9, _⟩ := h9
  obtain ⟨n', F, B, h1, h2, h3⟩ := h
  refine ⟨n', F, B, h1, { h2 with lc := ?_, mf := ?_, here := fun j y hy => ?_, rL := ?_, rM := ?_, ro := fun j y hy => ?_, lo := fun z hz => ?_ }, hb⟩
  · exact (hk L h2.Llt (by rw [h2.rL]; omega)).trans h2.lc
  · exact h2.mf.same (hk M h2.mf.lt (by rw [h2.rM]; omega))
  · obtain ⟨a1, a2⟩ := h2.here j y hy
    obtain ⟨r1, r2, r3, r4⟩ := h2.ro j y hy
    exact ⟨a1, a2.keep (hk _ a2.lt (by rw [r1]; omega)) (hk _ a2.P.lt (by rw [r2]; omega)) (hk _ a2.Q.lt (by rw [r3]; omega)) fun z hz => hk z (a2.imm_lt hz) (by rw [r4 z hz]; omega)⟩
  · exact (if_pos h2.Llt).trans h2.rL
  · exact (if_pos h2.mf.lt).trans h2.rM
  · obtain ⟨a1, a2⟩ := h2.here j y hy
    obtain ⟨r1, r2, r3, r4⟩ := h2.ro j y hy
    exact ⟨(if_pos a2.lt).trans r1, (if_pos a2.P.lt).trans r2, (if_pos a2.Q.lt).trans r3, fun z hz => (if_pos (a2.imm_lt hz)).trans (r4 z hz)⟩
  · exact (if_pos (by omega)).trans (h2.lo z hz)
end
theorem keepR_ne {w : World} {ρ : Nat → Nat} {z : Nat} (h : keepR w ρ z ≠ 3) : z < w.heap.size ∧ ρ z ≠ 3 := by
  unfold keepR at h
  split at h
  · exact ⟨by assumption, h⟩
  · exact absurd rfl h
theorem keepR_3 {w : World} {ρ : Nat → Nat} {z : Nat} (h : ρ z = 3) : keepR w ρ z = 3 := by
  unfold keepR
  split
  · exact h
  · rfl
theorem keepR_new {w : World} {ρ : Nat → Nat} {z : Nat} (h : w.heap.size ≤ z) : keepR w ρ z = 3 := if_neg (by omega)
section
variable {w0 w w' : World} {f La Ma na Lb Mb n : Nat} {ga g : GT} {ρa ρ : Nat → Nat} {v : Value} {ys : List OA}
theorem TA.below (T : TA w0 f La Ma n g ρ Lb Mb v ys w) (hb : Below w.heap.size w w') : TA w0 f La Ma n g (rho w ρ) Lb Mb v ys w' :=
  ⟨T.O.below hb, (rho_old T.lc.lt).trans T.lb, (rho_old T.mf.lt).trans T.mb, T.lc.below hb, T.mf.same (hb.block Mb T.mf.lt)⟩
theorem TA.one (T : TA w0 f La Ma n g ρ Lb Mb v ys w) {g' : GT} {ρ' : Nat → Nat} {n' : Nat} (K : LU w0 La Ma n' g' ρ' w') (S : Stp w0.heap.size w w' ρ ρ') : TA w0 f La Ma n' g' ρ' Lb Mb v ys w' :=
  ⟨T.O.one K S, (S.role Lb T.lc.lt).trans T.lb, (S.role Mb T.mf.lt).trans T.mb, (S.keep Lb T.lc.lt (.inr T.lb)).trans T.lc, T.mf.same (S.keep Mb T.mf.lt (.inr T.mb))⟩
theorem TA.start (T : TA w0 f La Ma n g ρ Lb Mb v ys w) (h1 : 1 ≤ f) (h4 : f ≤ 4) (hl : w0.heap.size ≤ Lb) (hm : w0.heap.size ≤ Mb) (hne : Lb ≠ Mb) (hv : ∀ z, v.ownBlock = some z → z ≠ Lb ∧ z ≠ Mb) : TB w0 La Ma n g ρ Lb Mb 0 (newG f) (rhoNew Lb Mb v.ownBlock) v ys w := by
  refine ⟨⟨LU.fresh h1 h4 T.lc T.mf T.O.K.bel hl hm hne _ fun z hz => (T.O.G.own.lt z hz).1, T.O.G, fun z hz => ?_, T.O.rb⟩, T.O.K, fun z _ hz => rhoNew_free (fun e => hz (by rw [e]; exact T.lb)) fun e => hz (by rw [e]; exact T.mb), T.O.ro⟩
  obtain ⟨k1, k2⟩ := hv z hz
  unfold rhoNew
  rw [if_neg k1, if_neg k2, if_pos hz]
theorem TB.below (T : TB w0 La Ma na ga ρa Lb Mb n g ρ v ys w) (hb : Below w.heap.size w w') : TB w0 La Ma na ga (keepR w ρa) Lb Mb n g (rho w ρ) v ys w' := by
  have O := T.O.below hb
  refine ⟨O, T.A.frozen2 (fun z hz _ => hb.block z hz) O.K.bel, fun z _ hz => ?_, fun z hz => keepR_3 (T.own z hz)⟩
  obtain ⟨h1, h2⟩ := keepR_ne hz
  rw [rho_old h1]
  exact T.sep z h1 h2
theorem TB.one (T : TB w0 La Ma na ga ρa Lb Mb n g ρ v ys w) {g' : GT} {ρ' : Nat → Nat} {n' : Nat} (K : LU w0 Lb Mb n' g' ρ' w') (S : Stp w0.heap.size w w' ρ ρ') : TB w0 La Ma na ga (keepR w ρa) Lb Mb n' g' ρ' v ys w' := by
  refine ⟨T.O.one K S, T.A.frozen2 (fun z hz h3 => S.keep z hz (T.sep z hz h3)) K.bel, fun z _ hz => ?_, fun z hz => keepR_3 (T.own z hz)⟩
  obtain ⟨h1, h2⟩ := keepR_ne hz
  rw [S.role z h1]
  exact T.sep z h1 h2
theorem TB.app (T : TB w0 La Ma na ga ρa Lb Mb n g ρ v ys w) (ty : TypeId) {a : Addr} {cp : Nat} {y : OA} (hG : ∀ j u, (elO.c y)[j]? = some u → w.cell? (a.add j) = some u) (ok : y.ok w0) (hn : ys.length ≤ 1000) :
    ∃ v' w' ρ', (Builtin.append_ #[22, 22] ty #[v, .slice (some a) 1 cp]).run Try.prog w = .ok v' w' ∧ TB w0 La Ma na ga (keepR w ρa) Lb Mb n g ρ' v' (ys ++ [y]) w' ∧ (∀ z, z < w.heap.size → ρ' z = ρ z) ∧ w.grownBy w' v.ownBlock := by
  obtain ⟨v', w', ρ', h1, h2, h3, h4, h5⟩ := T.O.app2 ty hG ok hn
  refine ⟨v', w', ρ', h1, ⟨h2, T.A.frozen2 (fun z hz hz3 => h4.block z hz fun e => hz3 (T.own z e.symm)) h2.K.bel, fun z _ hz => ?_, fun z hz => ?_⟩, h3, h4⟩
  · obtain ⟨k1, k2⟩ := keepR_ne hz
    rw [h3 z k1]
    exact T.sep z k1 k2
  · rcases h5 z hz with c | c
    · exact keepR_3 (T.own z c)
    · exact keepR_new c
theorem TA.app (T : TA w0 f La Ma n g ρ Lb Mb v ys w) (ty : TypeId) {a : Addr} {cp : Nat} {y : OA} (hG : ∀ j u, (elO.c y)[j]? = some u → w.cell? (a.add j) = some u) (ok : y.ok w0) (hn : ys.length ≤ 1000) (hv : ∀ z, v.ownBlock = some z → z ≠ Lb ∧ z ≠ Mb) :
    ∃ v' w' ρ', (Builtin.append_ #[22, 22] ty #[v, .slice (some a) 1 cp]).run Try.prog w = .ok v' w' ∧ TA w0 f La Ma n g ρ' Lb Mb v' (ys ++ [y]) w' ∧ (∀ z, v'.ownBlock = some z → z ≠ Lb ∧ z ≠ Mb) ∧ (∀ z, z < w.heap.size → ρ' z = ρ z) ∧ w.grownBy w' v.ownBlock := by
  obtain ⟨v', w', ρ', h1, h2, h3, h4, h5⟩ := T.O.app2 ty hG ok hn
  refine ⟨v', w', ρ', h1, ⟨h2, (h3 Lb T.lc.lt).trans T.lb, (h3 Mb T.mf.lt).trans T.mb, (h4.block Lb T.lc.lt fun e => (hv Lb e.symm).1 rfl).trans T.lc, T.mf.same (h4.block Mb T.mf.lt fun e => (hv Mb e.symm).2 rfl)⟩, fun z hz => ?_, h3, h4⟩
  rcases h5 z hz with c | c
  · exact hv z c
  · have e1 := T.lc.lt
    have e2 := T.mf.lt
    exact ⟨by omega, by omega⟩
end
end Go.Proofs.Ytbbhokodleaheaa
namespace Go.Proofs.Ytbbhokodleaheaa
open Go.RowKit
theorem rho_zero' {w : World} {ρ : Nat → Nat} {z : Nat} (h : ρ z = 0) : rho w ρ z = 0 := by
  unfold rho
  rw [h]
  simp
def TWR (w : World) (f La Ma Lb Mb N1 : Nat) (fs : List Nat) (all : List OA) (ao : Option Addr) (cap : Nat) (v i : Value) (wr : World) : Prop :=
  ∃ (k : Nat) (ys : List OA) (ga gb : GT), k ≤ all.length ∧ i = .int .i64 (k : Nat) ∧ ys.length ≤ k ∧ (∀ y ∈ ys, y.ok w ∧ y.b.n ≤ 100) ∧ OneS (ys.map SE.of) ∧ TG fs (ys.map SE.of) ga ∧ TG fs (ys.map SE.of) gb ∧ ga.f = f ∧ gb.f = f ∧ GL elO wr ao all.length cap all ∧
    ((k ≤ N1 ∧ gb = newG f ∧ ∃ ρ, TA w f La Ma k ga ρ Lb Mb v ys wr ∧ (∀ z, v.ownBlock = some z → z ≠ Lb ∧ z ≠ Mb) ∧ ∀ z, sblk ao all.length z → ρ z = 0) ∨
     (N1 ≤ k ∧ ∃ na ρa n ρ, n ≤ k ∧ na ≤ k ∧ TB w La Ma na ga ρa Lb Mb n gb ρ v ys wr ∧ ∀ z, sblk ao all.length z → ρ z = 0))
def TX (w : World) (La Ma Lb Mb : Nat) (all : List OA) (ao : Option Addr) (cap na nb : Nat) (ga gb : GT) (i : Value) (wr : World) : Prop :=
  ∃ j : Nat, j ≤ all.length ∧ i = .int .i64 (j : Nat) ∧ LT w La Ma na ga wr ∧ LT w Lb Mb nb gb wr ∧ GL elO wr ao all.length cap all
theorem TX.mk {w : World} {La Ma Lb Mb : Nat} {all : List OA} {ao : Option Addr} {cap na nb : Nat} {ga gb : GT} {i : Value} {wr : World} (j : Nat) (h1 : j ≤ all.length) (h2 : i = .int .i64 (j : Nat)) (h3 : LT w La Ma na ga wr) (h4 : LT w Lb Mb nb gb wr) (h5 : GL elO wr ao all.length cap all) : TX w La Ma Lb Mb all ao cap na nb ga gb i wr := ⟨j, h1, h2, h3, h4, h5⟩
theorem TWR.exit {w : World} {f La Ma Lb Mb N1 : Nat} {fs : List Nat} {all : List OA} {ao : Option Addr} {cap : Nat} {v i : Value} {wr : World} (h : TWR w f La Ma Lb Mb N1 fs all ao cap v i wr) (h1 : 1 ≤ f) (h4 : f ≤ 4) (hl : w.heap.size ≤ Lb) (hm : w.heap.size ≤ Mb) (hne : Lb ≠ Mb) (hF : fs.length ≤ f) :
    ∃ na nb ga gb, LT w La Ma na ga wr ∧ LT w Lb Mb nb gb wr ∧ (∀ seq s t, comO ga seq = some s → comO gb seq = some t → s = t) ∧ GL elO wr ao all.length cap all := by
  obtain ⟨k, ys, ga, gb, _, _, _, _, hS, ta, tb, fa, fb, GA, h⟩ := h
  have same : ∀ seq s t, comO ga seq = some s → comO gb seq = some t → s = t := fun seq s t c1 c2 => two_same h4 hF hS ta tb fa fb c1 c2
  rcases h with ⟨_, rfl, ρ, T, hv, _⟩ | ⟨_, na, ρa, n, ρ, _, _, T, _⟩
  · have T2 := T.start h1 h4 hl hm hne hv
    exact ⟨_, _, ga, _, T2.A.lt, T2.O.K.lt, same, GA⟩
  · exact ⟨_, _, ga, gb, T.A.lt, T.O.K.lt, same, GA⟩
def TD (w : World) (f La Ma Lb Mb N1 k : Nat) (ga gb : GT) (v : Value) (ys : List OA) (ao : Option Addr) (cap : Nat) (all : List OA) (wr : World) : Prop :=
  GL elO wr ao all.length cap all ∧ (∀ y ∈ all, y.ok w) ∧
  ((k < N1 ∧ gb = newG f ∧ ∃ ρ, TA w f La Ma k ga ρ Lb Mb v ys wr ∧ (∀ z, v.ownBlock = some z → z ≠ Lb ∧ z ≠ Mb) ∧ ∀ z, sblk ao all.length z → ρ z = 0) ∨
   (N1 ≤ k ∧ ∃ na ρa n ρ, n ≤ k ∧ na ≤ k ∧ TB w La Ma na ga ρa Lb Mb n gb ρ v ys wr ∧ ∀ z, sblk ao all.length z → ρ z = 0))
section
variable {w wr w' : World} {f La Ma Lb Mb N1 k : Nat} {ga gb : GT} {v : Value} {ys : List OA} {ao : Option Addr} {cap : Nat} {all : List OA}
theorem TD.below (h : TD w f La Ma Lb Mb N1 k ga gb v ys ao cap all wr) (hb : Below wr.heap.size wr w') : TD w f La Ma Lb Mb N1 k ga gb v ys ao cap all w' := by
  obtain ⟨GA, hok, h⟩ := h
  refine ⟨GA.below elO_fine hb, hok, h.imp ?_ ?_⟩
  · rintro ⟨h1, h2, ρ, T, h3, h4⟩
    exact ⟨h1, h2, _, T.below hb, h3, fun z hz => rho_zero' (h4 z hz)⟩
  · rintro ⟨h1, na, ρa, n, ρ, h2, h3, T, h4⟩
    exact ⟨h1, na, _, n, _, h2, h3, T.below hb, fun z hz => rho_zero' (h4 z hz)⟩
theorem TD.slice (h : TD w f La Ma Lb Mb N1 k ga gb v ys ao cap all wr) : ∃ mo mc, v = .slice mo ys.length mc := by
  obtain ⟨_, _, ⟨_, _, ρ, T, _⟩ | ⟨_, na, ρa, n, ρ, _, _, T, _⟩⟩ := h
  · exact T.O.slice
  · exact T.O.slice
theorem TD.atO {mo : Option Addr} {m mc : Nat} (h : TD w f La Ma Lb Mb N1 k ga gb (.slice mo m mc) ys ao cap all wr) (hn : 0 < ys.length) : ∃ b off, mo = some ⟨b, off, none⟩ ∧ ∀ i (hi : i < ys.length), OX wr b (off + i * 4) ys[i] := by
  obtain ⟨_, _, ⟨_, _, ρ, T, _⟩ | ⟨_, na, ρa, n, ρ, _, _, T, _⟩⟩ := h
  · exact T.O.atO hn
  · exact T.O.atO hn
theorem TD.app (h : TD w f La Ma Lb Mb N1 k ga gb v ys ao cap all wr) (ty : TypeId) {a : Addr} {cp : Nat} {y : OA} (hG : ∀ j u, (elO.c y)[j]? = some u → wr.cell? (a.add j) = some u) (ok : y.ok w) (hn : ys.length ≤ 1000) :
    ∃ v' w', (Builtin.append_ #[22, 22] ty #[v, .slice (some a) 1 cp]).run Try.prog wr = .ok v' w' ∧ TD w f La Ma Lb Mb N1 k ga gb v' (ys ++ [y]) ao cap all w' ∧ wr.grownBy w' v.ownBlock := by
  obtain ⟨GA, hok, h⟩ := h
  have keep : ∀ {ρ : Nat → Nat} {w' : World}, (∀ z, v.ownBlock = some z → ρ z = 3) → (∀ z, z < w.heap.size → ρ z = 0) → (∀ z, sblk ao all.length z → ρ z = 0) → wr.grownBy w' v.ownBlock → GL elO w' ao all.length cap all := fun {ρ w'} h3 h0 hs hg => GA.kept elO_fine fun z hz => hg.block z (GA.lt elO_fine hz) fun e => by
    have e3 := h3 z e.symm
    rcases hz with hz | ⟨x, hx, hz⟩
    · have := hs z hz
      omega
    · have := h0 z (elO_fine.lt x w z (hok x hx) hz)
      omega
  have lo : ∀ {L M n : Nat} {g : GT} {ρ : Nat → Nat}, LU w L M n g ρ wr → ∀ z, z < w.heap.size → ρ z = 0 := fun K => by
    obtain ⟨_, _, _, _, k2, _⟩ := K
    exact k2.lo
  rcases h with ⟨h1, h2, ρ, T, h3, h4⟩ | ⟨h1, na, ρa, n, ρ, h2, h3, T, h4⟩
  · obtain ⟨v', w', ρ', e1, e2, e3, e4, e5⟩ := T.app ty hG ok hn h3
    exact ⟨v', w', e1, ⟨keep T.O.ro (lo T.O.K) h4 e5, hok, .inl ⟨h1, h2, ρ', e2, e3, fun z hz => (e4 z (GA.lt elO_fine (.inl hz))).trans (h4 z hz)⟩⟩, e5⟩
  · obtain ⟨v', w', ρ', e1, e2, e4, e5⟩ := T.app ty hG ok hn
    exact ⟨v', w', e1, ⟨keep T.O.ro (lo T.O.K) h4 e5, hok, .inr ⟨h1, na, _, n, ρ', h2, h3, e2, fun z hz => (e4 z (GA.lt elO_fine (.inl hz))).trans (h4 z hz)⟩⟩, e5⟩
theorem TD.own (h : TD w f La Ma Lb Mb N1 k ga gb v ys ao cap all wr) (z : Nat) (hz : v.ownBlock = some z) : z < wr.heap.size := by
  obtain ⟨_, _, ⟨_, _, ρ, T, _⟩ | ⟨_, na, ρa, n, ρ, _, _, T, _⟩⟩ := h
  · exact T.O.G.lt elO_fine (.inl hz)
  · exact T.O.G.lt elO_fine (.inl hz)
theorem TD.bel (h : TD w f La Ma Lb Mb N1 k ga gb v ys ao cap all wr) : Below w.heap.size w wr := by
  obtain ⟨_, _, ⟨_, _, ρ, T, _⟩ | ⟨_, na, ρa, n, ρ, _, _, T, _⟩⟩ := h
  · exact T.O.K.bel
  · exact T.O.K.bel
theorem TD.gl (h : TD w f La Ma Lb Mb N1 k ga gb v ys ao cap all wr) : GL elO wr ao all.length cap all := h.1
end
end Go.Proofs.Ytbbhokodleaheaa
namespace Go.Proofs.Ytbbhokodleaheaa
open Go.RowKit
structure TF (w : World) (f k : Nat) (fs : List Nat) (ys : List OA) (ga gb : GT) : Prop where
  len : ys.length ≤ k
  ok : ∀ y ∈ ys, y.ok w ∧ y.b.n ≤ 100
  one : OneS (ys.map SE.of)
  ta : TG fs (ys.map SE.of) ga
  tb : TG fs (ys.map SE.of) gb
  fa : ga.f = f
  fb : gb.f = f
theorem one_f' (g : GT) (o : OA) : (oneG g o).1.f = g.f := by
  unfold oneG preG parG comG entG advG
  repeat' split
  all_goals rfl
theorem LU.more {w0 w : World} {L M n m : Nat} {g : GT} {ρ : Nat → Nat} (h : LU w0 L M n g ρ w) (hm : n ≤ m) : LU w0 L M m g ρ w := by
  obtain ⟨n', F, B, h1, h2, h3⟩ := h
  exact ⟨n', F, B, by omega, h2, h3⟩
section
variable {w wr : World} {f La Ma Lb Mb N1 k : Nat} {fs : List Nat} {ga gb : GT} {v : Value} {ys : List OA} {ao : Option Addr} {cap : Nat} {all : List OA}
theorem TWR.begin (h : TWR w f La Ma Lb Mb N1 fs all ao cap v (.int .i64 (k : Nat)) wr) (h1 : 1 ≤ f) (h4 : f ≤ 4) (hl : w.heap.size ≤ Lb) (hm : w.heap.size ≤ Mb) (hne : Lb ≠ Mb) (hok : ∀ y ∈ all, y.ok w) :
    ∃ ys ga gb, TF w f k fs ys ga gb ∧ TD w f La Ma Lb Mb N1 k ga gb v ys ao cap all wr := by
  obtain ⟨k', ys, ga, gb, hk, e, a1, a2, a3, a4, a5, a6, a7, GA, h⟩ := h
  simp only [Value.int.injEq, true_and] at e
  obtain rfl : k = k' := by omega
  refine ⟨ys, ga, gb, ⟨a1, a2, a3, a4, a5, a6, a7⟩, GA, hok, ?_⟩
  rcases h with ⟨b1, b2, ρ, T, b3, b4⟩ | ⟨b1, na, ρa, n, ρ, b2, b3, T, b4⟩
  · by_cases hlt : k < N1
    · exact .inl ⟨hlt, b2, ρ, T, b3, b4⟩
    · refine .inr ⟨by omega, k, ρ, 0, rhoNew Lb Mb v.ownBlock, Nat.zero_le _, Nat.le_refl _, ?_, fun z hz => ?_⟩
      · rw [b2]
        exact T.start h1 h4 hl hm hne b3
      · have e0 := b4 z hz
        unfold rhoNew
        rw [if_neg (fun e => by rw [e, T.lb] at e0; cases e0), if_neg (fun e => by rw [e, T.mb] at e0; cases e0), if_neg (fun e => by rw [T.O.ro z e] at e0; cases e0)]
  · exact .inr ⟨b1, na, ρa, n, ρ, b2, b3, T, b4⟩
theorem TD.skip (h : TD w f La Ma Lb Mb N1 k ga gb v ys ao cap all wr) (F : TF w f k fs ys ga gb) (hk : k < all.length) : TWR w f La Ma Lb Mb N1 fs all ao cap v (.int .i64 ((k + 1 : Nat) : Int)) wr := by
  obtain ⟨GA, _, h⟩ := h
  refine ⟨k + 1, ys, ga, gb, by omega, rfl, by have := F.len; omega, F.ok, F.one, F.ta, F.tb, F.fa, F.fb, GA, h.imp ?_ ?_⟩
  · rintro ⟨b1, b2, ρ, T, b3, b4⟩
    exact ⟨by omega, b2, ρ, ⟨⟨T.O.K.more (by omega), T.O.G, T.O.ro, T.O.rb⟩, T.lb, T.mb, T.lc, T.mf⟩, b3, b4⟩
  · rintro ⟨b1, na, ρa, n, ρ, b2, b3, T, b4⟩
    exact ⟨by omega, na, ρa, n, ρ, by omega, by omega, T, b4⟩
theorem gl_stp {ρ ρ' : Nat → Nat} {w' : World} (GA : GL elO wr ao all.length cap all) (hok : ∀ y ∈ all, y.ok w) (h4 : ∀ z, sblk ao all.length z → ρ z = 0) (T : Stp w.heap.size wr w' ρ ρ') : GL elO w' ao all.length cap all := GA.kept elO_fine fun z hz => by
  rcases hz with hz | ⟨x, hx, hz⟩
  · exact T.keep z (GA.lt elO_fine (.inl hz)) (.inl (h4 z hz))
  · exact T.bel.block z (elO_fine.lt x w z (hok x hx) hz)
theorem TD.oneA (h : TD w f La Ma Lb Mb N1 k ga gb v ys ao cap all wr) (F : TF w f (k + 1) fs ys ga gb) (hk : k < N1) (hN : N1 ≤ all.length) (h60 : all.length ≤ 1000) (o : OA) (ok : o.ok w) (hz : o.b.n ≤ 1000000) (hkk : 0 ≤ o.k ∧ o.k ≤ 2) (hs : o.fr ∈ fs ∨ ∃ y ∈ ys.map SE.of, y.k = o.k ∧ y.fr = o.fr ∧ y.seq = o.seq ∧ y.xs = o.b.xs) :
    Calls Try.prog 12 #[.pointer (some ⟨La, 0, none⟩), .agg #[.int .i64 o.k, .int .u64 (o.fr : Nat), .int .u64 (o.seq : Nat), .slice o.b.ao o.b.n o.b.cap]] wr fun e w' => (∃ r, e = .returned (.int .i64 r)) ∧ TWR w f La Ma Lb Mb N1 fs all ao cap v (.int .i64 ((k + 1 : Nat) : Int)) w' := by
  obtain ⟨GA, hok, h⟩ := h
  rcases h with ⟨b1, b2, ρ, T, b3, b4⟩ | ⟨b1, _⟩
  · refine (T.O.K.oneC (by unfold maxLen; omega) o ok hz).mono ?_
    rintro e w' ⟨rfl, ρ', K, S⟩
    refine ⟨⟨_, rfl⟩, k + 1, ys, (oneG ga o).1, gb, by omega, rfl, F.len, F.ok, F.one, F.ta.one o hkk hs, F.tb, (one_f' ga o).trans F.fa, F.fb, gl_stp GA hok b4 S, .inl ⟨by omega, b2, ρ', T.one K S, b3, fun z hz => (S.role z (GA.lt elO_fine (.inl hz))).trans (b4 z hz)⟩⟩
  · omega
theorem TD.oneB (h : TD w f La Ma Lb Mb N1 k ga gb v ys ao cap all wr) (F : TF w f (k + 1) fs ys ga gb) (hk : N1 ≤ k) (hN : k < all.length) (h60 : all.length ≤ 1000) (o : OA) (ok : o.ok w) (hz : o.b.n ≤ 1000000) (hkk : 0 ≤ o.k ∧ o.k ≤ 2) (hs : o.fr ∈ fs ∨ ∃ y ∈ ys.map SE.of, y.k = o.k ∧ y.fr = o.fr ∧ y.seq = o.seq ∧ y.xs = o.b.xs) :
    Calls Try.prog 12 #[.pointer (some ⟨Lb, 0, none⟩), .agg #[.int .i64 o.k, .int .u64 (o.fr : Nat), .int .u64 (o.seq : Nat), .slice o.b.ao o.b.n o.b.cap]] wr fun e w' => (∃ r, e = .returned (.int .i64 r)) ∧ TWR w f La Ma Lb Mb N1 fs all ao cap v (.int .i64 ((k + 1 : Nat) : Int)) w' := by
  obtain ⟨GA, hok, h⟩ := h
  rcases h with ⟨b1, _⟩ | ⟨b1, na, ρa, n, ρ, b2, b3, T, b4⟩
  · omega
  · refine (T.O.K.oneC (by unfold maxLen; omega) o ok hz).mono ?_
    rintro e w' ⟨rfl, ρ', K, S⟩
    refine ⟨⟨_, rfl⟩, k + 1, ys, ga, (oneG gb o).1, by omega, rfl, F.len, F.ok, F.one, F.ta, F.tb.one o hkk hs, F.fa, (one_f' gb o).trans F.fb, gl_stp GA hok b4 S, .inr ⟨by omega, na, _, n + 1, ρ', by omega, by omega, T.one K S, fun z hz => (S.role z (GA.lt elO_fine (.inl hz))).trans (b4 z hz)⟩⟩
theorem TF.add (F : TF w f k fs ys ga gb) (o : OA) (ok : o.ok w) (hz : o.b.n ≤ 100) (hn : ∀ z ∈ ys.map SE.of, ¬ SameK z (SE.of o)) : TF w f (k + 1) fs (ys ++ [o]) ga gb := by
  have e : (ys ++ [o]).map SE.of = ys.map SE.of ++ [SE.of o] := by rw [List.map_append]; rfl
  refine ⟨by rw [List.length_append]; have := F.len; show ys.length + 1 ≤ k + 1; omega, fun y hy => ?_, by rw [e]; exact F.one.add hn, ?_, ?_, F.fa, F.fb⟩
  · rcases List.mem_append.1 hy with hy | hy
    · exact F.ok y hy
    · rw [List.mem_singleton.1 hy]
      exact ⟨ok, hz⟩
  · rw [e]
    exact F.ta.more fun y hy => List.mem_append_left _ hy
  · rw [e]
    exact F.tb.more fun y hy => List.mem_append_left _ hy
theorem TF.next (F : TF w f k fs ys ga gb) : TF w f (k + 1) fs ys ga gb := ⟨Nat.le_trans F.len (Nat.le_succ k), F.ok, F.one, F.ta, F.tb, F.fa, F.fb⟩
end
end Go.Proofs.Ytbbhokodleaheaa
namespace Go.Proofs.Ytbbhokodleaheaa
open Go.RowKit
structure NL (w : World) (ao : Option Addr) (n cap : Nat) (ns : List Nat) : Prop where
  len : ns.length = n
  le : n ≤ cap
  mx : cap ≤ maxLen
  nil : ao = none → n = 0
  cell : ∀ a, ao = some a → ∀ i, i < n → w.cell? (a.add i) = some (.int .u64 (ns.getD i 0))
  rng : ∀ x ∈ ns, x < 18446744073709551616
theorem NL.nothing (w : World) : NL w none 0 0 [] := ⟨rfl, Nat.le_refl _, Nat.zero_le _, fun _ => rfl, fun _ h => by simp at h, fun _ h => by simp at h⟩
theorem NL.row {w : World} {a : Addr} {n cap : Nat} {zs : List Int} (hl : n ≤ cap) (hm : cap ≤ maxLen) (hz : zs.length = cap) (hc : ∀ i, i < zs.length → w.cell? (a.add i) = some (.int .u64 (zs.getD i 0))) (hw : ∀ z ∈ zs, (Lit.int .u64 z).wf = true) :
    NL w (some a) n cap ((zs.take n).map Int.toNat) := by
  have hb : ∀ z ∈ zs, 0 ≤ z ∧ z < 18446744073709551616 := fun z h => by
    have := hw z h
    simp [Lit.wf, IntKind.min, IntKind.max, IntKind.signed, IntKind.bits] at this
    omega
  refine ⟨by simp; omega, hl, hm, fun h => by simp at h, fun b hb' i hi => ?_, fun x hx => ?_⟩
  · obtain rfl := Option.some.inj hb'
    rw [hc i (by omega)]
    have h1 : i < zs.length := by omega
    have := hb zs[i] (List.getElem_mem h1)
    simp [List.getD, hi, h1]
    omega
  · obtain ⟨z, h1, rfl⟩ := List.mem_map.1 hx
    have := hb z (List.mem_of_mem_take h1)
    omega
theorem NL.below {w w' : World} {ao : Option Addr} {n cap : Nat} {ns : List Nat} (h : NL w ao n cap ns) (hb : Below w.heap.size w w') : NL w' ao n cap ns :=
  ⟨h.len, h.le, h.mx, h.nil, fun a ha i hi => by have hc := h.cell a ha i hi; rw [← hc]; exact hb.cell (World.block_lt_of_cell? w _ hc), h.rng⟩
theorem NL.at {w : World} {ao : Option Addr} {n cap : Nat} {ns : List Nat} (h : NL w ao n cap ns) (hn : 0 < n) : ∃ b off, ao = some ⟨b, off, none⟩ ∧ ∀ i, i < n → w.cell? ⟨b, off + i, none⟩ = some (.int .u64 (ns.getD i 0)) := by
  cases ao with
  | none => have := h.nil rfl; omega
  | some a =>
    obtain ⟨b, off, spot⟩ := a
    have hc := h.cell _ rfl 0 hn
    have hs : spot = none := by simpa [Addr.add] using World.cell?_spot hc
    subst hs
    exact ⟨b, off, rfl, fun i hi => by have := h.cell _ rfl i hi; rw [Addr.add_lit] at this; exact this⟩
end Go.Proofs.Ytbbhokodleaheaa
namespace Go.Proofs.Ytbbhokodleaheaa
open Go.RowKit
structure OW (wr : World) (o : OA) (wq : World) : Prop where
  bel : Below wr.heap.size wr wq
  arr : Arr wq wr.heap.size 37 o.cells
section
variable {wr wq wz : World} {o : OA}
theorem OW.c0 (h : OW wr o wq) : wq.cell? ⟨wr.heap.size, 0, none⟩ = some (.int .i64 o.k) := by rw [h.arr.cell]; rfl
theorem OW.c1 (h : OW wr o wq) : wq.cell? ⟨wr.heap.size, 1, none⟩ = some (.int .u64 (o.fr : Nat)) := by rw [h.arr.cell]; rfl
theorem OW.c2 (h : OW wr o wq) : wq.cell? ⟨wr.heap.size, 2, none⟩ = some (.int .u64 (o.seq : Nat)) := by rw [h.arr.cell]; rfl
theorem OW.c3 (h : OW wr o wq) : wq.cell? ⟨wr.heap.size, 3, none⟩ = some (.slice o.b.ao o.b.n o.b.cap) := by rw [h.arr.cell]; rfl
theorem OW.new (wr : World) (o : OA) : OW wr o (wr.alloc (.cells #[.int .i64 o.k, .int .u64 (o.fr : Nat), .int .u64 (o.seq : Nat), .slice o.b.ao o.b.n o.b.cap] 37)) :=
  ⟨(Below.refl _ _).alloc (Nat.le_refl _) _, heap_alloc_new wr _⟩
theorem OW.drew (h : OW wr o wq) (m : Nat) : OW wr o (wq.drewN m) := by
  have hb : Below wq.heap.size wq (wq.drewN m) := ⟨rfl, rfl, rfl, Nat.le_refl _, fun _ _ => rfl⟩
  exact ⟨h.bel.trans (hb.mono h.bel.size), (hb.block _ h.arr.lt).trans h.arr⟩
theorem OW.set (h : OW wr o wq) (b : Bs) : OW wr ⟨o.k, o.fr, o.seq, b⟩ (wq.setCell ⟨wr.heap.size, 3, none⟩ (.slice b.ao b.n b.cap)) :=
  ⟨h.bel.setCell (Nat.le_refl _) _, h.arr.set 3 _⟩
end
def BR (wr : World) (o : OA) (fs : List Nat) (bad i : Value) (wq : World) : Prop := ∃ x : Nat, x ≤ fs.length ∧ i = .int .i64 (x : Nat) ∧ bad = .bool (decide (o.fr ∈ fs.take x)) ∧ OW wr o wq
theorem BR.mk {wr wq : World} {o : OA} {fs : List Nat} {bad i : Value} (x : Nat) (h1 : x ≤ fs.length) (h2 : i = .int .i64 (x : Nat)) (h3 : bad = .bool (decide (o.fr ∈ fs.take x))) (h4 : OW wr o wq) : BR wr o fs bad i wq := ⟨x, h1, h2, h3, h4⟩
theorem take_mem {fs : List Nat} {x : Nat} (hx : x < fs.length) (a : Nat) : a ∈ fs.take (x + 1) ↔ a ∈ fs.take x ∨ a = fs[x] := by
  rw [List.take_succ_eq_append_getElem hx, List.mem_append, List.mem_singleton]
theorem BR.hit {wr wq : World} {o : OA} {fs : List Nat} {i : Value} (x : Nat) (h1 : x < fs.length) (h2 : i = .int .i64 ((x + 1 : Nat) : Int)) (h3 : o.fr ∈ fs.take x ∨ o.fr = fs[x]) (h4 : OW wr o wq) : BR wr o fs (.bool true) i wq :=
  ⟨x + 1, h1, h2, by rw [decide_eq_true ((take_mem h1 _).2 h3)], h4⟩
theorem BR.miss {wr wq : World} {o : OA} {fs : List Nat} {i : Value} (x : Nat) (h1 : x < fs.length) (h2 : i = .int .i64 ((x + 1 : Nat) : Int)) (h3 : o.fr ∉ fs.take x) (h5 : o.fr ≠ fs[x]) (h4 : OW wr o wq) : BR wr o fs (.bool false) i wq :=
  ⟨x + 1, h1, h2, by rw [decide_eq_false fun h => ((take_mem h1 _).1 h).elim h3 h5], h4⟩
def ZR (wr : World) (o : OA) (is i : Value) (wq : World) : Prop := is = .bool true ∧ i = .int .i64 0 ∧ OW wr o wq
theorem ZR.mk {wr wq : World} {o : OA} {is i : Value} (h1 : is = .bool true) (h2 : i = .int .i64 0) (h3 : OW wr o wq) : ZR wr o is i wq := ⟨h1, h2, h3⟩
def IR (wr : World) (o : OA) (ys : List OA) (is i : Value) (wq : World) : Prop := ∃ (x : Nat) (b : Bool) (s : Bs), x ≤ ys.length ∧ i = .int .i64 (x : Nat) ∧ is = .bool b ∧ OW wr ⟨o.k, o.fr, o.seq, s⟩ wq ∧ ((b = false ∧ s = o.b ∧ ∀ y ∈ ys.take x, ¬ SameK (SE.of y) (SE.of o)) ∨ (b = true ∧ ∃ y ∈ ys, SameK (SE.of y) (SE.of o) ∧ s = y.b))
theorem IR.nil {wr wq : World} {o : OA} {ys : List OA} (h : OW wr o wq) : IR wr o ys (.bool false) (.int .i64 0) wq := ⟨0, false, o.b, Nat.zero_le _, rfl, rfl, h, .inl ⟨rfl, rfl, fun y hy => absurd hy (by simp)⟩⟩
theorem IR.hit {wr wq : World} {o : OA} {ys : List OA} {i : Value} (x : Nat) (h1 : x < ys.length) (h2 : i = .int .i64 ((x + 1 : Nat) : Int)) (h3 : SameK (SE.of ys[x]) (SE.of o)) (h4 : OW wr ⟨o.k, o.fr, o.seq, ys[x].b⟩ wq) : IR wr o ys (.bool true) i wq :=
  ⟨x + 1, true, _, h1, h2, rfl, h4, .inr ⟨rfl, _, List.getElem_mem h1, h3, rfl⟩⟩
theorem IR.miss {wr wq : World} {o : OA} {ys : List OA} {i : Value} (x : Nat) (b : Bool) (s : Bs) (h1 : x < ys.length) (h2 : i = .int .i64 ((x + 1 : Nat) : Int)) (h3 : ¬ SameK (SE.of ys[x]) (SE.of o)) (h4 : OW wr ⟨o.k, o.fr, o.seq, s⟩ wq)
    (h5 : (b = false ∧ s = o.b ∧ ∀ y ∈ ys.take x, ¬ SameK (SE.of y) (SE.of o)) ∨ (b = true ∧ ∃ y ∈ ys, SameK (SE.of y) (SE.of o) ∧ s = y.b)) : IR wr o ys (.bool b) i wq := by
  refine ⟨x + 1, b, s, h1, h2, rfl, h4, h5.imp ?_ id⟩
  rintro ⟨e1, e2, e3⟩
  refine ⟨e1, e2, fun y hy => ?_⟩
  rw [List.take_succ_eq_append_getElem h1, List.mem_append, List.mem_singleton] at hy
  rcases hy with hy | rfl
  · exact e3 y hy
  · exact h3
structure OO (w : World) (fs : List Nat) (ys : List OA) (o : OA) : Prop where
  ok : o.ok w
  sz : o.b.n ≤ 1000000
  kk : 0 ≤ o.k ∧ o.k ≤ 2
  told : o.fr ∈ fs ∨ ∃ y ∈ ys.map SE.of, y.k = o.k ∧ y.fr = o.fr ∧ y.seq = o.seq ∧ y.xs = o.b.xs
section
variable {w : World} {f k : Nat} {fs : List Nat} {ga gb : GT} {ys : List OA} {o : OA}
theorem OO.bad (ok : o.ok w) (hz : o.b.n ≤ 100) (kk : 0 ≤ o.k ∧ o.k ≤ 2) (h : o.fr ∈ fs) : OO w fs ys o := ⟨ok, by omega, kk, .inl h⟩
theorem OO.same (F : TF w f k fs ys ga gb) (ok : o.ok w) (kk : 0 ≤ o.k ∧ o.k ≤ 2) {s : Bs} (h : ∃ y ∈ ys, SameK (SE.of y) (SE.of o) ∧ s = y.b) : OO w fs ys ⟨o.k, o.fr, o.seq, s⟩ := by
  obtain ⟨y, hy, ⟨h1, h2, h3⟩, rfl⟩ := h
  obtain ⟨yk, yz⟩ := F.ok y hy
  exact ⟨⟨ok.k, ok.fr, ok.seq, yk.b⟩, by show y.b.n ≤ _; omega, kk, .inr ⟨_, List.mem_map.2 ⟨y, hy, rfl⟩, h1, h2, h3, rfl⟩⟩
theorem OO.anew (ok : o.ok w) (hz : o.b.n ≤ 100) (kk : 0 ≤ o.k ∧ o.k ≤ 2) : OO w fs (ys ++ [o]) o := ⟨ok, by omega, kk, .inr ⟨SE.of o, List.mem_map.2 ⟨o, List.mem_append_right _ (List.mem_singleton.2 rfl), rfl⟩, rfl, rfl, rfl, rfl⟩⟩
end
end Go.Proofs.Ytbbhokodleaheaa
namespace Go.Proofs.Ytbbhokodleaheaa
open Go.RowKit
theorem below_drewN (w : World) (q B : Nat) : Below B w (w.drewN q) := ⟨rfl, rfl, rfl, Nat.le_refl _, fun _ _ => rfl⟩
theorem lists_of (n : Nat) (xs ys : List Int) (h1 : xs.length = n) (h2 : ys.length = n) (h : ∀ j, j < n → xs.getD j 0 = ys.getD j 0) : xs = ys := by
  apply List.ext_getElem (by omega)
  intro j hj hj2
  have := h j (by omega)
  simpa [List.getD, hj, hj2] using this
theorem Sl.at {w : World} {ao : Option Addr} {n cap : Nat} {xs : List Int} (h : Sl w ao n cap xs) (hn : 0 < n) :
    ∃ b off, ao = some ⟨b, off, none⟩ ∧ ∀ i, i < n → w.cell? ⟨b, off + i, none⟩ = some (.int .u8 (xs.getD i 0)) := by
  cases ao with
  | none => have := (h.nil rfl).1; omega
  | some a =>
    obtain ⟨b, off, spot⟩ := a
    have hc := h.cell _ rfl 0 hn
    have hs : spot = none := by simpa [Addr.add] using World.cell?_spot hc
    subst hs
    exact ⟨b, off, rfl, fun i hi => by have := h.cell _ rfl i hi; rw [Addr.add_lit] at this; exact this⟩
set_option maxHeartbeats 800000 in
theorem same_any (w : World) (ao bo : Option Addr) (n cap m cap2 : Nat) (xs ys : List Int) (h : Sl w ao n cap xs) (h2 : Sl w bo m cap2 ys) :
    Calls Try.prog 23 #[.slice ao n cap, .slice bo m cap2] w fun e w' =>
      e = .returned (.bool (decide (xs = ys))) ∧ ∃ q, w' = w.drewN q := by
  have hl := h.len
  have hl2 := h2.len
  have hle := h.le
  have hmx := h.mx
  unfold maxLen at hmx
  by_cases hnm : n = m
  · subst hnm
    have hne : ((n : Int) != (n : Int)) = false := by simp
    go_enter Try.func23, Try.ntmps23
    go_wp2
    go_loopw [5] (fun i wr => ∃ k q : Nat, k ≤ n ∧ i = .int .i64 k ∧ wr = w.drewN q ∧ ∀ j, j < k → xs.getD j 0 = ys.getD j 0) (fun i _ => n - (intOf i).toNat)
    case atStart => exact ⟨0, 0, Nat.zero_le _, rfl, rfl, fun j hj => by omega⟩
    case round =>
      obtain ⟨k, q, hk, rfl, rfl, heq⟩ := hrel
      by_cases hlt : k < n
      · obtain ⟨b, off, rfl, hc⟩ := h.at (by omega)
        obtain ⟨b2, off2, rfl, hc2⟩ := h2.at (by omega)
        have c1 := hc k hlt
        have c2 := hc2 k hlt
        have hlt1 : (k : Int) < (n : Int) := by omega
        clear hc hc2
        have k1 : k < xs.length := by omega
        have k2 : k < ys.length := by omega
        by_cases he : xs[k] = ys[k]
        · have hb : (xs[k] != ys[k]) = false := by simp [he]
          have hE : Hid (xs[k] = ys[k]) := he
          clear he
          go_wp2
          go_quiet (fail)
          go_wp2
          go_roundw
          case rel =>
            refine ⟨k + 1, _, by omega, by go_num, rfl, fun j hj => ?_⟩
            by_cases hjk : j < k
            · exact heq j hjk
            · obtain rfl : j = k := by omega
              simpa [List.getD, k1, k2] using hE.out
          case measure => simp [intOf]; omega
        · have hb : (xs[k] != ys[k]) = true := by simp [he]
          have hE : Hid (¬ xs[k] = ys[k]) := he
          clear he
          go_wp2
          go_quiet (fail)
          go_wp2
          go_ret
          have hd : decide (xs = ys) = false := decide_eq_false (fun hx => by subst hx; exact hE.out rfl)
          rw [hd, World.drewN_drewN]
          exact ⟨rfl, _, rfl⟩
      · obtain rfl : k = n := by omega
        go_wp2
        go_ret
        have hd : decide (xs = ys) = true := decide_eq_true (lists_of k xs ys hl hl2 heq)
        rw [hd]
        exact ⟨rfl, _, rfl⟩
  · have hne : ((n : Int) != (m : Int)) = true := by simp; omega
    go_enter Try.func23, Try.ntmps23
    go_wp2
    go_ret
    have hd : decide (xs = ys) = false := decide_eq_false (fun hx => by subst hx; omega)
    rw [hd]
    exact ⟨rfl, 0, rfl⟩
end Go.Proofs.Ytbbhokodleaheaa
