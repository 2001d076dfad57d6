/-
  Tag.
-/
import Derived.Test.YtkncfjokkojfpaaDoorSOps
namespace Go.Proofs.YtkncfjokkojfpaaDoor
open Go.RowKit

theorem MF.isMap {w : World} {K : TypeId} {b n : Nat} {F : Value → Option Value} (h : MF w K b n F) : ∃ es c, w.heap[b]? = some (.map es c) := by
  obtain ⟨D, ⟨es, clock, hb, _⟩, _⟩ := h
  exact ⟨es, clock, hb⟩

theorem tag_unknown (w : World) (p mk ms : Nat) (real : Bool) (nk ns : Nat) (KF SF : Value → Option Value) (node : Nat) (v : Value) (h : BK w p mk ms real nk ns KF SF) (hn : node < 18446744073709551616) (hk : (KF (.int .u64 node)).isSome = false) :
    Calls Tryd.prog 16 #[.pointer (some ⟨p, 0, none⟩), .int .u64 node, v] w fun e w' => e = .returned (.tuple #[.slice none 0 0, .int .i64 15]) ∧ w' = w := by
  go_enter Tryd.func16, Tryd.ntmps16
  go_wp2_with (go_at_call 31; refine (knows_any w p mk ms real nk ns KF SF node h hn).mono ?_; rintro e w' ⟨rfl, rfl⟩; rw [hk])
  go_ret2
  exact ⟨rfl, rfl⟩

/-- What Tag leaves: the tag in new memory, and that it was said. -/
structure TagPost (w w' : World) (p mk ms : Nat) (real : Bool) (nk ns : Nat) (KF SF : Value → Option Value) (node : Nat) (ds tg : List Int) (g ns' : Nat) (SF' : Value → Option Value) : Prop where
  bk : BK w' p mk ms real nk ns' KF SF'
  sl : Sl w' (some ⟨g, 0, none⟩) 32 32 tg
  new : w.heap.size ≤ g
  grown : w.grownBy w' (some ms)
  at_ : SF' (sv node ds) = some (.agg #[])
  other : ∀ x, x ≠ sv node ds → SF' x = SF x
  more : SF (sv node ds) = none → ns' = ns + 1
  same : SF (sv node ds) ≠ none → ns' = ns
  free : w'.frozen? ⟨g, 0, none⟩ = false

set_option maxRecDepth 100000 in
set_option maxHeartbeats 4000000 in
theorem tag_known (w : World) (p mk ms : Nat) (real : Bool) (nk ns : Nat) (KF SF : Value → Option Value) (mst : List Int) (kn : Nat → Bool) (node : Nat) (bo : Option Addr) (bn bc : Nat) (body : List Int) (h : BK w p mk ms real nk ns KF SF) (hK : KN w real mst kn KF) (hT : Tabs w) (hn : node < 18446744073709551616) (hk : kn node = true) (hB : Sl w bo bn bc body) (hb : bn ≤ 1000000) (hns : ns < 1000000) (hms : 2 ≤ ms) :
    Calls Tryd.prog 16 #[.pointer (some ⟨p, 0, none⟩), .int .u64 node, .slice bo bn bc] w fun e w' => ∃ g ns' SF', e = .returned (.tuple #[.slice (some ⟨g, 0, none⟩) 32 32, .int .i64 0]) ∧ TagPost w w' p mk ms real nk ns KF SF node (dgL real node body) (tgL real mst node body) g ns' SF' := by
  have hks := (hK.isSome hn).trans hk
  have hp := h.lt
  have hm1 := h.keys.lt
  have hm2 := h.said.lt
  obtain ⟨ds, hds⟩ : ∃ ds, ds = dgL real node body := ⟨_, rfl⟩
  have HD : Hid (ds = dgL real node body) := hds
  have hdl : ds.length = 32 := by rw [hds]; exact dgL_len _ _ _
  have hdb : Byt ds := by rw [hds]; exact dgL_byte _ _ _
  obtain ⟨kl, hkl⟩ := key62 node ds hn hdl hdb
  obtain ⟨cs, hcs⟩ : ∃ cs, cs = (Value.int .u64 node :: bv ds) := ⟨_, rfl⟩
  have hsv : sv node ds = .agg cs.toArray := by rw [hcs]; rfl
  have hcl : cs.length = 33 := by rw [hcs, svl_len _ _ hdl]
  have hc1 : ∀ u ∈ cs, u.oneCell' = true := by rw [hcs]; exact svl_one _ _
  have i62 : (Tryd.prog.info? 62).map (·.size) = some cs.length := by rw [hcl]; exact a62
  have u62 := Tryd.underlying62
  clear hcs hds
  go_enter Tryd.func16, Tryd.ntmps16
  go_wp2_with (first
    | (go_at_call 31; refine (knows_any w p mk ms real nk ns KF SF node h hn).mono ?_; rintro e w' ⟨rfl, hw⟩; obtain rfl := hw.symm; clear hw; rw [hks])
    | (go_at_call 32; refine (sayingOf_any _ p mk ms real nk ns KF SF node bo bn bc body h hT hn hB hb).mono ?_; rintro e w1 ⟨rfl, B1⟩; rw [← HD.out, hsv]; have s1 := B1.size)
    | (refine wpList_alloc_named rfl 8 rfl 62 rfl w1.heap.size rfl _ 33 z62v ?_; intro w2 a2 s2 g2; have B2 := B1.grown g2 s1 (by simp); clear g2)
    | (refine wpList_store_named rfl 62 (.tmp 8) (.tmp 19) rfl w1.heap.size cs rfl rfl _ _ a2 _ s2 i62 (by rw [hcl]; rfl) hc1 ?_; intro w3 a3 s3 g3; have B3 := B2.grown g3 (by omega) (by intro k hk; cases hk; exact s1); clear g3))
  have hw1 : w1.heap.size < w3.heap.size := by omega
  have hp3 : p < w3.heap.size := by omega
  have H3 := h.below B3
  have HS : Hid (∀ W : World, w3.grownBy W (some ms) → W.cell? ⟨p, 2, none⟩ = some (.map (some ms)) ∧ W.rangeAt w1.heap.size 0 cs) := by
    intro W hW
    refine ⟨hW.cell H3.c2 (by intro e; exact h.pms (Option.some.inj e)), fun j v hv => ?_⟩
    refine hW.cell ?_ (by intro e; have := Option.some.inj e; simp only at this; omega)
    rw [Nat.zero_add, cell_of_row w3 _ j _ _ _ a3]
    simpa using hv
  have G0 : w3.grownBy w3.drew (some ms) := ⟨rfl, rfl, rfl, Nat.le_refl _, fun _ _ _ => rfl⟩
  have UP := (H3.said.ofHeap (w' := w3.drew) rfl).update k62 Tryd.underlying54 (by unfold maxLen; omega) (key := sv node ds) (val := .agg #[]) hkl
  go_wp2_with fail
  refine wp_region_noPanic ?_
  refine wp_region_held_drew (S := fun W => W.cell? ⟨p, 2, none⟩ = some (.map (some ms)) ∧ W.rangeAt w1.heap.size 0 cs) (by kernel_rfl) (HS.out _ G0) (fun hH => ?_)
  refine hr_take 0 (some 20) (.pointer (some ⟨p, 0, none⟩)) rfl rfl (by kernel_rfl) (by kernel_rfl) (by kernel_rfl) rfl (fun W hW => by obtain ⟨h1, h2⟩ := hW; go_simp) hH ?_
  simp only [Act.put, List.setIfInBounds_toArray, List.set_cons_zero, List.set_cons_succ]
  refine hr_take 1 (some 21) (.pointer (some ⟨p, 0, none⟩)) rfl rfl (by kernel_rfl) (by kernel_rfl) (by kernel_rfl) rfl (fun W hW => by obtain ⟨h1, h2⟩ := hW; go_simp) hH ?_
  simp only [Act.put, List.setIfInBounds_toArray, List.set_cons_zero, List.set_cons_succ]
  refine hr_take 2 (some 22) (.pointer (some ⟨p, 2, none⟩)) rfl rfl (by kernel_rfl) (by kernel_rfl) (by kernel_rfl) rfl (fun W hW => by obtain ⟨h1, h2⟩ := hW; go_simp) hH ?_
  simp only [Act.put, List.setIfInBounds_toArray, List.set_cons_zero, List.set_cons_succ]
  refine hr_take 3 (some 23) (.map (some ms)) rfl rfl (by kernel_rfl) (by kernel_rfl) (by kernel_rfl) rfl (fun W hW => by obtain ⟨h1, h2⟩ := hW; go_simp) hH ?_
  simp only [Act.put, List.setIfInBounds_toArray, List.set_cons_zero, List.set_cons_succ]
  refine hr_take 4 (some 24) (.agg cs.toArray) rfl rfl (by kernel_rfl) (by kernel_rfl) (by kernel_rfl) rfl (fun W hW => by exact exec_load_mid rfl rfl hW.2 u62 rfl i62) hH ?_
  simp only [Act.put, List.setIfInBounds_toArray, List.set_cons_zero, List.set_cons_succ]
  refine hr_take 5 (some 25) (.agg #[]) rfl rfl (by kernel_rfl) (by kernel_rfl) (by kernel_rfl) rfl (fun W hW => by obtain ⟨h1, h2⟩ := hW; go_simp) hH ?_
  simp only [Act.put, List.setIfInBounds_toArray, List.set_cons_zero, List.set_cons_succ]
  rw [hsv] at UP
  refine hr_skip_ex 6 none rfl rfl (by kernel_rfl) rfl (exec_mapUpdate (R := fun w4 => ∃ SF' ns', MF w4 62 ms ns' SF' ∧ w3.grownBy w4 (some ms) ∧ SF' (sv node ds) = some (.agg #[]) ∧ (∀ x, x ≠ sv node ds → SF' x = SF x) ∧ (SF (sv node ds) = none → ns' = ns + 1) ∧ (SF (sv node ds) ≠ none → ns' = ns)) rfl rfl rfl rfl (by
    obtain ⟨w4, F', n', r1, r2, r3, r4, r5, r6, r7⟩ := UP
    exact ⟨w4, r1, F', n', r2, gro_trans G0 r3, by rw [hsv]; exact r4, by rw [hsv]; exact r5, by rw [hsv]; exact r6, by rw [hsv]; exact r7⟩)) ?_
  rintro w4 ⟨SF', ns', M4, G4, q1, q2, q3, q4⟩
  refine ⟨HS.out _ G4, ?_⟩
  refine wpAnyH_done (by kernel_rfl) ?_ _
  refine NoPanic.normal ?_
  clear UP hH
  have BK4 : BK w4 p mk ms real nk ns' KF SF' := ⟨(G4.block p hp3 (by intro e; exact h.pms (Option.some.inj e))).trans H3.heap, H3.keys.kept G4 (by intro e; exact h.ne (Option.some.inj e)), M4, h.ne⟩
  have KN4 := (hK.below B3).grown G4 H3.said.isMap
  have T4 : Tabs w4 := (hT.below B3 hT.two).grown G4 hms
  have c4 := (HS.out _ G4).2
  have s4 := G4.size
  clear HS G0
  go_frame
  go_wp2_with (refine wpList_load_cells rfl 62 (.tmp 8) rfl ⟨w1.heap.size, 0, none⟩ rfl cs (fun j v hv => by rw [add_at]; exact c4 j v hv) g62 i62 ?_)
  rw [← hsv, HD.out]
  refine (tagOf_any w4 p mk ms real nk ns' KF SF' mst kn node body BK4 KN4 T4 hn hk).mono ?_
  rintro e w5 ⟨rfl, B5⟩
  have hgl := tgL_len real mst node body
  have hgb := tgL_byte real mst node body
  obtain ⟨tg, htg⟩ : ∃ tg, tg = tgL real mst node body := ⟨_, rfl⟩
  rw [← htg] at hgl hgb ⊢
  have HG : Hid (tg = tgL real mst node body) := htg
  clear htg
  have hbg : (bv tg).length = 32 := by rw [bv_length, hgl]
  have s5 := B5.size
  go_wp2_with (first
    | (refine wpList_alloc_named rfl 9 rfl 60 rfl w5.heap.size rfl _ 32 z60v ?_; intro w6 a6 s6 g6; have B6 : Below w4.heap.size w4 w6 := B5.grown g6 s5 (by simp); clear g6)
    | (refine wpList_store_named rfl 60 (.tmp 9) (.tmp 28) rfl w5.heap.size (bv tg) rfl rfl _ _ a6 _ s6 (a60.trans (by rw [hbg])) (by rw [hbg]; rfl) (bv_one _) ?_; intro w7 a7 s7 g7; have B7 : Below w4.heap.size w4 w7 := B6.grown g7 (by omega) (by intro k hk; cases hk; exact s5); clear g7))
  go_ret2
  have S7 : Sl w7 (some ⟨w5.heap.size, 0, none⟩) 32 32 tg := by
    refine ⟨hgl, Nat.le_refl _, by decide, fun h => by simp at h, fun a ha i hi => ?_, hgb⟩
    obtain rfl := Option.some.inj ha
    rw [add_at, Nat.zero_add, Arr.cell a7]
    exact bv_get tg i (by omega)
  rw [← HD.out, ← HG.out]
  exact ⟨w5.heap.size, ns', SF', rfl, BK4.below B7, S7, by omega, gro_trans (gro_trans (bel_grown B3 _) G4) (bel_grown B7 _), q1, q2, q3, q4, Arr.free a7 0⟩

end Go.Proofs.YtkncfjokkojfpaaDoor
