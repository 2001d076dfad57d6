/-
  The law's Signs: signed texts as the document's.
-/
import Derived.Test.YtghemebgkhopnaaGNew
import Derived.Test.YtghemebgkhopnaaSgMem
import Derived.Test.YtghemebgkhopnaaHRegG
namespace Go.Proofs.Ytghemebgkhopnaa
open Go.RowKit

theorem bsigns_ty : GTy elS.sz 56 (.agg #[.int .u64 0, .slice none 0 0, .slice none 0 0]) 34 42 := ⟨by kernel_rfl, rfl, Try.underlying42⟩
set_option maxHeartbeats 8000000 in
set_option maxRecDepth 100000 in
theorem bsigns_any (w : World) (ao : Option Addr) (n cap : Nat) (l : List SA) (L : GL elS w ao n cap l) (hn : n ≤ 1000) :
    Calls Try.prog 26 #[.slice ao n cap] w fun e w' => ∃ ro rc, e = .returned (.slice ro n rc) ∧ GL elS w' ro n rc l ∧ (∀ z, sblk ro n z → w.heap.size ≤ z) ∧ Below w.heap.size w w' := by
  have hl1 := Nat.le_of_eq L.len
  have hl2 := Nat.le_of_eq L.len.symm
  have HOK : Hid (∀ x ∈ l, elS.ok x w) := L.ok
  go_enter Try.func26, Try.ntmps26
  go_wp2
  go_loopw [3, 4] (fun v' i wr => ∃ (k : Nat) (v : Value), k ≤ n ∧ i = .int .i64 k ∧ v = v' ∧ GNew elS 34 w wr w.heap.size v (l.take k) ∧ Below w.heap.size w wr) (fun _ i _ => n - (intOf i).toNat)
  case atStart => exact ⟨0, _, Nat.zero_le _, rfl, rfl, GNew.nil _ _ _ _ _, Below.refl _ _⟩
  case round =>
    obtain ⟨k, v, hk, rfl, rfl, GR, B⟩ := hrel
    have hsz := B.size
    by_cases hlt : k < n
    · have hki : (k : Int) < (n : Int) := by omega
      have hkl : k < l.length := by omega
      obtain ⟨b, off, ea, hc⟩ := L.atS (by omega)
      have X := hc k hkl
      subst ea
      have HTK : Hid (l.take (k + 1) = l.take k ++ [l[k]]) := List.take_succ_eq_append_getElem hkl
      have uok := HOK.out _ (List.getElem_mem hkl)
      obtain ⟨u, hu⟩ : ∃ u, u = l[k] := ⟨_, rfl⟩
      rw [← hu] at X HTK uok
      clear hu hc
      have HS2 : Hid (∀ V, Below w.heap.size w V → V.cell? ⟨b, off + k * 3, none⟩ = some (.int .u64 (u.fr : Nat)) ∧ V.cell? ⟨b, off + k * 3 + 1, none⟩ = some (.slice u.b.ao u.b.n u.b.cap) ∧ V.cell? ⟨b, off + k * 3 + 2, none⟩ = some (.slice u.tag.ao u.tag.n u.tag.cap)) := fun V hV => ⟨(X.below hV).c0, (X.below hV).c1, (X.below hV).c2⟩
      obtain ⟨x0, x1, x2⟩ := HS2.out wr B
      clear X
      go_wp2_with fail
      have tHS : Hid (∀ V, Below wr.heap.size wr V → V.cell? ⟨b, off + k * 3, none⟩ = some (.int .u64 (u.fr : Nat)) ∧ V.cell? ⟨b, off + k * 3 + 1, none⟩ = some (.slice u.b.ao u.b.n u.b.cap) ∧ V.cell? ⟨b, off + k * 3 + 2, none⟩ = some (.slice u.tag.ao u.tag.n u.tag.cap)) := fun V hV => ⟨(hV.cell (World.block_lt_of_cell? _ _ x0)).trans x0, (hV.cell (World.block_lt_of_cell? _ _ x1)).trans x1, (hV.cell (World.block_lt_of_cell? _ _ x2)).trans x2⟩
      have tE0 : Below wr.heap.size wr wr.drew := (Below.refl _ _).drew
      refine wp_region_noPanic ?_
      refine wp_region_held_drew (S := fun V => V.cell? ⟨b, off + k * 3, none⟩ = some (.int .u64 (u.fr : Nat)) ∧ V.cell? ⟨b, off + k * 3 + 1, none⟩ = some (.slice u.b.ao u.b.n u.b.cap) ∧ V.cell? ⟨b, off + k * 3 + 2, none⟩ = some (.slice u.tag.ao u.tag.n u.tag.cap)) (by kernel_rfl) (tHS.out _ tE0) (fun tH0 => ?_)
      obtain ⟨tv0, hv0⟩ : ∃ v, v = wr.drew := ⟨_, rfl⟩
      rw [← hv0] at tH0 tE0 ⊢
      clear hv0
      refine hr_take_w 0 (some 11) (v) rfl rfl (by kernel_rfl) (by kernel_rfl) (by kernel_rfl) rfl (fun W hW => by obtain ⟨h0, h1, h2⟩ := hW; go_simp) tH0 ?_
      simp only [Act.put, List.setIfInBounds_toArray, List.set_cons_zero, List.set_cons_succ]
      refine hr_take_w 1 (some 12) (.slice (some ⟨b, off, none⟩) n cap) rfl rfl (by kernel_rfl) (by kernel_rfl) (by kernel_rfl) rfl (fun W hW => by obtain ⟨h0, h1, h2⟩ := hW; go_simp) tH0 ?_
      simp only [Act.put, List.setIfInBounds_toArray, List.set_cons_zero, List.set_cons_succ]
      refine hr_take_w 2 (some 13) (.int .i64 (k : Nat)) rfl rfl (by kernel_rfl) (by kernel_rfl) (by kernel_rfl) rfl (fun W hW => by obtain ⟨h0, h1, h2⟩ := hW; go_simp) tH0 ?_
      simp only [Act.put, List.setIfInBounds_toArray, List.set_cons_zero, List.set_cons_succ]
      refine hr_take_w 3 (some 14) (.pointer (some ⟨b, off + k * 3, none⟩)) rfl rfl (by kernel_rfl) (by kernel_rfl) (by kernel_rfl) rfl (fun W hW => by obtain ⟨h0, h1, h2⟩ := hW; go_simp) tH0 ?_
      simp only [Act.put, List.setIfInBounds_toArray, List.set_cons_zero, List.set_cons_succ]
      refine hr_take_w 4 (some 15) (.pointer (some ⟨b, off + k * 3, none⟩)) rfl rfl (by kernel_rfl) (by kernel_rfl) (by kernel_rfl) rfl (fun W hW => by obtain ⟨h0, h1, h2⟩ := hW; go_simp) tH0 ?_
      simp only [Act.put, List.setIfInBounds_toArray, List.set_cons_zero, List.set_cons_succ]
      refine hr_take_w 5 (some 16) (.int .u64 (u.fr : Nat)) rfl rfl (by kernel_rfl) (by kernel_rfl) (by kernel_rfl) rfl (fun W hW => by obtain ⟨h0, h1, h2⟩ := hW; go_simp) tH0 ?_
      simp only [Act.put, List.setIfInBounds_toArray, List.set_cons_zero, List.set_cons_succ]
      refine hr_take_w 6 (some 17) (.slice (some ⟨b, off, none⟩) n cap) rfl rfl (by kernel_rfl) (by kernel_rfl) (by kernel_rfl) rfl (fun W hW => by obtain ⟨h0, h1, h2⟩ := hW; go_simp) tH0 ?_
      simp only [Act.put, List.setIfInBounds_toArray, List.set_cons_zero, List.set_cons_succ]
      refine hr_take_w 7 (some 18) (.int .i64 (k : Nat)) rfl rfl (by kernel_rfl) (by kernel_rfl) (by kernel_rfl) rfl (fun W hW => by obtain ⟨h0, h1, h2⟩ := hW; go_simp) tH0 ?_
      simp only [Act.put, List.setIfInBounds_toArray, List.set_cons_zero, List.set_cons_succ]
      refine hr_take_w 8 (some 19) (.pointer (some ⟨b, off + k * 3, none⟩)) rfl rfl (by kernel_rfl) (by kernel_rfl) (by kernel_rfl) rfl (fun W hW => by obtain ⟨h0, h1, h2⟩ := hW; go_simp) tH0 ?_
      simp only [Act.put, List.setIfInBounds_toArray, List.set_cons_zero, List.set_cons_succ]
      refine hr_take_w 9 (some 20) (.pointer (some ⟨b, off + k * 3 + 1, none⟩)) rfl rfl (by kernel_rfl) (by kernel_rfl) (by kernel_rfl) rfl (fun W hW => by obtain ⟨h0, h1, h2⟩ := hW; go_simp) tH0 ?_
      simp only [Act.put, List.setIfInBounds_toArray, List.set_cons_zero, List.set_cons_succ]
      refine hr_take_w 10 (some 21) (.slice u.b.ao u.b.n u.b.cap) rfl rfl (by kernel_rfl) (by kernel_rfl) (by kernel_rfl) rfl (fun W hW => by obtain ⟨h0, h1, h2⟩ := hW; go_simp) tH0 ?_
      simp only [Act.put, List.setIfInBounds_toArray, List.set_cons_zero, List.set_cons_succ]
      refine hr_take_w 11 (some 22) (.slice (some ⟨b, off, none⟩) n cap) rfl rfl (by kernel_rfl) (by kernel_rfl) (by kernel_rfl) rfl (fun W hW => by obtain ⟨h0, h1, h2⟩ := hW; go_simp) tH0 ?_
      simp only [Act.put, List.setIfInBounds_toArray, List.set_cons_zero, List.set_cons_succ]
      refine hr_take_w 12 (some 23) (.int .i64 (k : Nat)) rfl rfl (by kernel_rfl) (by kernel_rfl) (by kernel_rfl) rfl (fun W hW => by obtain ⟨h0, h1, h2⟩ := hW; go_simp) tH0 ?_
      simp only [Act.put, List.setIfInBounds_toArray, List.set_cons_zero, List.set_cons_succ]
      refine hr_take_w 13 (some 24) (.pointer (some ⟨b, off + k * 3, none⟩)) rfl rfl (by kernel_rfl) (by kernel_rfl) (by kernel_rfl) rfl (fun W hW => by obtain ⟨h0, h1, h2⟩ := hW; go_simp) tH0 ?_
      simp only [Act.put, List.setIfInBounds_toArray, List.set_cons_zero, List.set_cons_succ]
      refine hr_take_w 14 (some 25) (.pointer (some ⟨b, off + k * 3 + 2, none⟩)) rfl rfl (by kernel_rfl) (by kernel_rfl) (by kernel_rfl) rfl (fun W hW => by obtain ⟨h0, h1, h2⟩ := hW; go_simp) tH0 ?_
      simp only [Act.put, List.setIfInBounds_toArray, List.set_cons_zero, List.set_cons_succ]
      refine hr_take_w 15 (some 26) (.slice u.tag.ao u.tag.n u.tag.cap) rfl rfl (by kernel_rfl) (by kernel_rfl) (by kernel_rfl) rfl (fun W hW => by obtain ⟨h0, h1, h2⟩ := hW; go_simp) tH0 ?_
      simp only [Act.put, List.setIfInBounds_toArray, List.set_cons_zero, List.set_cons_succ]
      refine hr_take_w 16 (some 27) (.agg #[.int .u64 (u.fr : Nat), .slice u.b.ao u.b.n u.b.cap, .slice u.tag.ao u.tag.n u.tag.cap]) rfl rfl (by kernel_rfl) (by kernel_rfl) (by kernel_rfl) rfl (fun W hW => by obtain ⟨h0, h1, h2⟩ := hW; go_simp) tH0 ?_
      simp only [Act.put, List.setIfInBounds_toArray, List.set_cons_zero, List.set_cons_succ]
      refine hr_ex 17 (some 28) rfl rfl (by kernel_rfl) rfl (R := fun v w' => ∃ g, v = .slice (some ⟨g, 0, none⟩) 1 1 ∧ Arr w' g 34 [.int .u64 (u.fr : Nat), .slice u.b.ao u.b.n u.b.cap, .slice u.tag.ao u.tag.n u.tag.cap] ∧ Below tv0.heap.size tv0 w') (⟨_, _, by go_simp, _, rfl, heap_alloc_new tv0 _, (Below.refl _ _).alloc (Nat.le_refl _) _⟩) ?_
      rintro v tv1 ⟨gc, rfl, A8, tC0⟩
      have tE1 := tE0.trans (tC0.mono tE0.size)
      have tH1 := tHS.out tv1 tE1
      have N1 := (GR.below tE0).below tC0
      refine ⟨tH1, ?_⟩
      simp only [Act.put, List.setIfInBounds_toArray, List.set_cons_zero, List.set_cons_succ]
      refine hr_ex 18 (some 29) rfl rfl (by kernel_rfl) rfl (R := fun v w' => ∃ r1 n1 c1, v = .slice r1 n1 c1 ∧ GNew elS 34 w w' w.heap.size (.slice r1 n1 c1) (l.take k ++ [u]) ∧ Below w.heap.size tv1 w') (by obtain ⟨v', w', hr, h3, h4⟩ := run_appG1 elS_fine bsigns_ty 42 N1 (Nat.le_trans hsz tE1.size) (ad := ⟨gc, 0, none⟩) (cp := 1) (y := u) (fun j q hq => by rw [Addr.add_lit, Nat.zero_add, Arr.cell A8]; exact hq) uok (by rw [List.length_take]; omega) (by rw [List.length_take]; unfold maxLen; omega); obtain ⟨r1, n1, c1, rfl⟩ := h3.slice; exact ⟨_, w', by simp [execOp, Act.eval, resolve, invoke, builtin, hr], _, _, _, rfl, h3, h4⟩) ?_
      rintro v tv2 ⟨r1, n1, c1, rfl, N5, tC1⟩
      have tF2 := (B.trans (tE1.mono B.size)).trans tC1
      have tH2 := HS2.out tv2 tF2
      refine ⟨tH2, ?_⟩
      simp only [Act.put, List.setIfInBounds_toArray, List.set_cons_zero, List.set_cons_succ]
      refine hr_take_w 19 (some 3) (.slice r1 n1 c1) rfl rfl (by kernel_rfl) (by kernel_rfl) (by kernel_rfl) rfl (fun W hW => by obtain ⟨h0, h1, h2⟩ := hW; go_simp) tH2 ?_
      simp only [Act.put, List.setIfInBounds_toArray, List.set_cons_zero, List.set_cons_succ]
      refine wpAnyH_done (by kernel_rfl) ?_ _
      refine NoPanic.normal ?_
      go_wp2
      go_roundw
      case rel => exact ⟨k + 1, _, by omega, by go_num, rfl, by rw [HTK.out]; exact N5, tF2⟩
      case measure => simp [intOf]; omega
    · have hge : ¬ (k : Int) < (n : Int) := by omega
      have HT : Hid (l.take k = l) := List.take_of_length_le (by omega)
      rw [HT.out] at GR
      obtain ⟨ro, rc, rfl, G2, far⟩ := GR.gl elS_fine B
      have hln : l.length = n := by omega
      rw [hln] at G2 far ⊢
      clear GR
      go_wp2
      go_ret
      exact ⟨ro, rc, rfl, G2, far, B⟩
end Go.Proofs.Ytghemebgkhopnaa
