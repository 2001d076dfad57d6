/-
  Texts in one: PWithM, PWithN, PWith, PJoin, PWithout, ScopeDec, PFind.
-/
import Derived.Test.YtnicnfjickknjaaGreatDoorTabletItemsZ4
import Derived.Test.YtnicnfjickknjaaGreatDoorTabletItemsZ0
import Derived.Test.YtnicnfjickknjaaGreatDoorTabletItemsZ1
namespace Go.Proofs.YtnicnfjickknjaaGreatDoor
open Go.RowKit

set_option maxHeartbeats 4000000 in
set_option maxRecDepth 100000 in
theorem withM_any (w : World) (x : It) (xo yo : Option Addr) (xn xc yn yc : Nat) (hx : Sl w xo xn xc x.k) (hy : Sl w yo yn yc x.v) (l : List It) (d : Nd) (segs : List (List It)) (xs : List It) (h : Nod w l d segs xs) (hs : Srt l) (hn : l.length ≤ 100000) (hL : Hid (d.L = lev x.k)) (hh : ¬ has x.k l) :
    Calls Tryz.prog 124 #[d.ptr, .agg #[.int .i64 (lev x.k), .slice xo xn xc, .slice yo yn yc]] w (RetT w (ins l x)) := by
  have hl1 : lev x.k ≤ d.L := by have := hL.out; omega
  have hl2 : d.L ≤ lev x.k := by have := hL.out; omega
  have hm := h.many
  have hnk1 := Nat.le_of_eq h.nk
  have hnk2 := Nat.le_of_eq h.nk.symm
  have hnv1 := Nat.le_of_eq h.nv
  have hnv2 := Nat.le_of_eq h.nv.symm
  have hnc1 := Nat.le_of_eq h.nc
  have hnc2 := Nat.le_of_eq h.nc.symm
  have hpos := h.shp.pos
  have CP : ∀ V, Below w.heap.size w V → Calls Tryz.prog 79 #[d.ptr, .slice xo xn xc] V (Found V d.ks x.k) := fun V hV => place_any V d (h.ok.below hV) xo xn xc x.k (hx.below hV) (h.rise hs) (by omega)
  unfold Nd.ptr at CP ⊢
  go_enter Tryz.func124, Tryz.ntmps124
  go_wp2_with fail
  obtain ⟨w0, hw0⟩ : ∃ V, V = (w.alloc (.cells #[.int .i64 (lev x.k), .slice xo xn xc, .slice yo yn yc] 160)) := ⟨_, rfl⟩
  have L0 : Lf w0 w.heap.size (lev x.k) (.slice xo xn xc) (.slice yo yn yc) := by rw [hw0]; exact Lf.new ..
  have B0 : Below w.heap.size w w0 := by rw [hw0]; exact (Below.refl _ w).alloc (Nat.le_refl _) _
  rw [← hw0]
  obtain ⟨g, hg⟩ : ∃ g, g = w.heap.size := ⟨_, rfl⟩
  rw [← hg] at L0 ⊢
  clear hw0 hg
  have N0 := h.below B0
  have aHS : Hid (∀ V, Below w0.heap.size w0 V → V.cell? ⟨d.b, 0, none⟩ = some (.int .i64 d.L) ∧ V.cell? ⟨d.b, 1, none⟩ = some (.slice d.ko d.ks.length d.kc) ∧ V.cell? ⟨d.b, 2, none⟩ = some (.slice d.vo d.vs.length d.vc) ∧ V.cell? ⟨d.b, 3, none⟩ = some (.slice d.co d.cs.length d.cc) ∧ V.cell? ⟨g, 0, none⟩ = some (.int .i64 (lev x.k)) ∧ V.cell? ⟨g, 1, none⟩ = some (.slice xo xn xc) ∧ V.cell? ⟨g, 2, none⟩ = some (.slice yo yn yc)) := fun V hV => ⟨(N0.ok.below hV).c0, (N0.ok.below hV).c1, (N0.ok.below hV).c2, (N0.ok.below hV).c3, (L0.below hV).c0, (L0.below hV).c1, (L0.below hV).c2⟩
  have aE0 : Below w0.heap.size w0 w0.drew := (Below.refl _ _).drew
  refine wp_region_noPanic ?_
  refine wp_region_held_drew (S := fun V => V.cell? ⟨d.b, 0, none⟩ = some (.int .i64 d.L) ∧ V.cell? ⟨d.b, 1, none⟩ = some (.slice d.ko d.ks.length d.kc) ∧ V.cell? ⟨d.b, 2, none⟩ = some (.slice d.vo d.vs.length d.vc) ∧ V.cell? ⟨d.b, 3, none⟩ = some (.slice d.co d.cs.length d.cc) ∧ V.cell? ⟨g, 0, none⟩ = some (.int .i64 (lev x.k)) ∧ V.cell? ⟨g, 1, none⟩ = some (.slice xo xn xc) ∧ V.cell? ⟨g, 2, none⟩ = some (.slice yo yn yc)) (by kernel_rfl) (aHS.out _ aE0) (fun aH0 => ?_)
  obtain ⟨av0, hv0⟩ : ∃ v, v = w0.drew := ⟨_, rfl⟩
  rw [← hv0] at aH0 aE0 ⊢
  clear hv0
  refine hr_take_w 0 (some 11) (.pointer (some ⟨d.b, 0, none⟩)) rfl rfl (by kernel_rfl) (by kernel_rfl) (by kernel_rfl) rfl (fun W hW => by obtain ⟨h0, h1, h2, h3, h4, h5, h6⟩ := hW; go_simp) aH0 ?_
  simp only [Act.put, List.setIfInBounds_toArray, List.set_cons_zero, List.set_cons_succ]
  refine hr_take_w 1 (some 12) (.bool false) rfl rfl (by kernel_rfl) (by kernel_rfl) (by kernel_rfl) rfl (fun W hW => by obtain ⟨h0, h1, h2, h3, h4, h5, h6⟩ := hW; go_simp) aH0 ?_
  simp only [Act.put, List.setIfInBounds_toArray, List.set_cons_zero, List.set_cons_succ]
  refine hr_take_w 2 (some 13) (.bool false) rfl rfl (by kernel_rfl) (by kernel_rfl) (by kernel_rfl) rfl (fun W hW => by obtain ⟨h0, h1, h2, h3, h4, h5, h6⟩ := hW; go_simp) aH0 ?_
  simp only [Act.put, List.setIfInBounds_toArray, List.set_cons_zero, List.set_cons_succ]
  refine hr_take_w 3 (some 14) (.pointer (some ⟨d.b, 0, none⟩)) rfl rfl (by kernel_rfl) (by kernel_rfl) (by kernel_rfl) rfl (fun W hW => by obtain ⟨h0, h1, h2, h3, h4, h5, h6⟩ := hW; go_simp) aH0 ?_
  simp only [Act.put, List.setIfInBounds_toArray, List.set_cons_zero, List.set_cons_succ]
  refine hr_take_w 4 (some 15) (.pointer (some ⟨d.b, 0, none⟩)) rfl rfl (by kernel_rfl) (by kernel_rfl) (by kernel_rfl) rfl (fun W hW => by obtain ⟨h0, h1, h2, h3, h4, h5, h6⟩ := hW; go_simp) aH0 ?_
  simp only [Act.put, List.setIfInBounds_toArray, List.set_cons_zero, List.set_cons_succ]
  refine hr_take_w 5 (some 16) (.pointer (some ⟨d.b, 0, none⟩)) rfl rfl (by kernel_rfl) (by kernel_rfl) (by kernel_rfl) rfl (fun W hW => by obtain ⟨h0, h1, h2, h3, h4, h5, h6⟩ := hW; go_simp) aH0 ?_
  simp only [Act.put, List.setIfInBounds_toArray, List.set_cons_zero, List.set_cons_succ]
  refine hr_take_w 6 (some 17) (.int .i64 d.L) rfl rfl (by kernel_rfl) (by kernel_rfl) (by kernel_rfl) rfl (fun W hW => by obtain ⟨h0, h1, h2, h3, h4, h5, h6⟩ := hW; go_simp) aH0 ?_
  simp only [Act.put, List.setIfInBounds_toArray, List.set_cons_zero, List.set_cons_succ]
  refine hr_take_w 7 (some 18) (.pointer (some ⟨g, 0, none⟩)) rfl rfl (by kernel_rfl) (by kernel_rfl) (by kernel_rfl) rfl (fun W hW => by obtain ⟨h0, h1, h2, h3, h4, h5, h6⟩ := hW; go_simp) aH0 ?_
  simp only [Act.put, List.setIfInBounds_toArray, List.set_cons_zero, List.set_cons_succ]
  refine hr_take_w 8 (some 19) (.int .i64 (lev x.k)) rfl rfl (by kernel_rfl) (by kernel_rfl) (by kernel_rfl) rfl (fun W hW => by obtain ⟨h0, h1, h2, h3, h4, h5, h6⟩ := hW; go_simp) aH0 ?_
  simp only [Act.put, List.setIfInBounds_toArray, List.set_cons_zero, List.set_cons_succ]
  refine hr_take_w 9 (some 20) (.bool false) rfl rfl (by kernel_rfl) (by kernel_rfl) (by kernel_rfl) rfl (fun W hW => by obtain ⟨h0, h1, h2, h3, h4, h5, h6⟩ := hW; go_simp) aH0 ?_
  simp only [Act.put, List.setIfInBounds_toArray, List.set_cons_zero, List.set_cons_succ]
  refine hr_take_w 10 (some 21) (.bool false) rfl rfl (by kernel_rfl) (by kernel_rfl) (by kernel_rfl) rfl (fun W hW => by obtain ⟨h0, h1, h2, h3, h4, h5, h6⟩ := hW; go_simp) aH0 ?_
  simp only [Act.put, List.setIfInBounds_toArray, List.set_cons_zero, List.set_cons_succ]
  refine wpAnyH_done (by kernel_rfl) ?_ _
  refine NoPanic.normal ?_
  have Ba : Below w.heap.size w av0 := B0.trans (aE0.mono B0.size)
  have La := L0.below aE0
  have lc1 := La.c1
  have CPa := CP av0 Ba
  clear CP
  go_wp2_with fail
  refine CPa.mono ?_
  rintro e w1 ⟨i, b, rfl, hat, B1'⟩
  have B1 : Below w.heap.size w w1 := Ba.trans (B1'.mono Ba.size)
  have N1 := h.below B1
  have L1 := La.below B1'
  clear CPa lc1
  obtain ⟨s, A, B, c, hA, hB, hB2, hf⟩ := h.found hs hat
  have hle := c.le
  have hw : IntKind.i64.wrap ((i : Int) + 1) = (i : Int) + 1 := by have := wrap_nat (k := i + 1) (by omega); simpa using this
  cases b with
  | true =>
    exfalso
    obtain ⟨hi, he⟩ := hf rfl
    exact hh ⟨xs[i], h.shp.key _ (List.getElem_mem hi), he⟩
  | false =>
  have hB3 := hB2 rfl
  have HI : Hid (ins l x = A ++ (ins s x ++ B)) := by show _ = _; rw [c.el]; exact ins_mid hA hB3
  have hii : (i : Int) < (d.cs.length : Int) := by omega
  clear hf hB2
  go_wp2_with fail
  have bHS : Hid (∀ V, Below w1.heap.size w1 V → V.cell? ⟨d.b, 0, none⟩ = some (.int .i64 d.L) ∧ V.cell? ⟨d.b, 1, none⟩ = some (.slice d.ko d.ks.length d.kc) ∧ V.cell? ⟨d.b, 2, none⟩ = some (.slice d.vo d.vs.length d.vc) ∧ V.cell? ⟨d.b, 3, none⟩ = some (.slice d.co d.cs.length d.cc) ∧ V.cell? ⟨g, 0, none⟩ = some (.int .i64 (lev x.k)) ∧ V.cell? ⟨g, 1, none⟩ = some (.slice xo xn xc) ∧ V.cell? ⟨g, 2, none⟩ = some (.slice yo yn yc)) := fun V hV => ⟨(N1.ok.below hV).c0, (N1.ok.below hV).c1, (N1.ok.below hV).c2, (N1.ok.below hV).c3, (L1.below hV).c0, (L1.below hV).c1, (L1.below hV).c2⟩
  have bE0 : Below w1.heap.size w1 w1.drew := (Below.refl _ _).drew
  refine wp_region_noPanic ?_
  refine wp_region_held_drew (S := fun V => V.cell? ⟨d.b, 0, none⟩ = some (.int .i64 d.L) ∧ V.cell? ⟨d.b, 1, none⟩ = some (.slice d.ko d.ks.length d.kc) ∧ V.cell? ⟨d.b, 2, none⟩ = some (.slice d.vo d.vs.length d.vc) ∧ V.cell? ⟨d.b, 3, none⟩ = some (.slice d.co d.cs.length d.cc) ∧ V.cell? ⟨g, 0, none⟩ = some (.int .i64 (lev x.k)) ∧ V.cell? ⟨g, 1, none⟩ = some (.slice xo xn xc) ∧ V.cell? ⟨g, 2, none⟩ = some (.slice yo yn yc)) (by kernel_rfl) (bHS.out _ bE0) (fun bH0 => ?_)
  obtain ⟨bv0, hv0⟩ : ∃ v, v = w1.drew := ⟨_, rfl⟩
  rw [← hv0] at bH0 bE0 ⊢
  clear hv0
  refine hr_take_w 0 (some 49) (.pointer (some ⟨d.b, 0, none⟩)) rfl rfl (by kernel_rfl) (by kernel_rfl) (by kernel_rfl) rfl (fun W hW => by obtain ⟨h0, h1, h2, h3, h4, h5, h6⟩ := hW; go_simp) bH0 ?_
  simp only [Act.put, List.setIfInBounds_toArray, List.set_cons_zero, List.set_cons_succ]
  refine hr_take_w 1 (some 50) (.pointer (some ⟨d.b, 0, none⟩)) rfl rfl (by kernel_rfl) (by kernel_rfl) (by kernel_rfl) rfl (fun W hW => by obtain ⟨h0, h1, h2, h3, h4, h5, h6⟩ := hW; go_simp) bH0 ?_
  simp only [Act.put, List.setIfInBounds_toArray, List.set_cons_zero, List.set_cons_succ]
  refine hr_take_w 2 (some 51) (.pointer (some ⟨d.b, 0, none⟩)) rfl rfl (by kernel_rfl) (by kernel_rfl) (by kernel_rfl) rfl (fun W hW => by obtain ⟨h0, h1, h2, h3, h4, h5, h6⟩ := hW; go_simp) bH0 ?_
  simp only [Act.put, List.setIfInBounds_toArray, List.set_cons_zero, List.set_cons_succ]
  refine hr_take_w 3 (some 52) (.int .i64 d.L) rfl rfl (by kernel_rfl) (by kernel_rfl) (by kernel_rfl) rfl (fun W hW => by obtain ⟨h0, h1, h2, h3, h4, h5, h6⟩ := hW; go_simp) bH0 ?_
  simp only [Act.put, List.setIfInBounds_toArray, List.set_cons_zero, List.set_cons_succ]
  refine hr_take_w 4 (some 53) (.pointer (some ⟨g, 0, none⟩)) rfl rfl (by kernel_rfl) (by kernel_rfl) (by kernel_rfl) rfl (fun W hW => by obtain ⟨h0, h1, h2, h3, h4, h5, h6⟩ := hW; go_simp) bH0 ?_
  simp only [Act.put, List.setIfInBounds_toArray, List.set_cons_zero, List.set_cons_succ]
  refine hr_take_w 5 (some 54) (.int .i64 (lev x.k)) rfl rfl (by kernel_rfl) (by kernel_rfl) (by kernel_rfl) rfl (fun W hW => by obtain ⟨h0, h1, h2, h3, h4, h5, h6⟩ := hW; go_simp) bH0 ?_
  simp only [Act.put, List.setIfInBounds_toArray, List.set_cons_zero, List.set_cons_succ]
  refine hr_take_w 6 (some 55) (.bool false) rfl rfl (by kernel_rfl) (by kernel_rfl) (by kernel_rfl) rfl (fun W hW => by obtain ⟨h0, h1, h2, h3, h4, h5, h6⟩ := hW; go_simp) bH0 ?_
  simp only [Act.put, List.setIfInBounds_toArray, List.set_cons_zero, List.set_cons_succ]
  refine wpAnyH_done (by kernel_rfl) ?_ _
  refine NoPanic.normal ?_
  have Bb : Below w.heap.size w bv0 := B1.trans (bE0.mono B1.size)
  have Nb := h.below Bb
  have Lb := L1.below bE0
  obtain ⟨kb, ko, s', u, eco, hs1, hs2, hcell, hTk, hlen⟩ := Nb.kidAt i hle
  obtain rfl : s = s' := Option.some.inj (c.seg.symm.trans hs1)
  have hss : Srt s := by rw [c.el] at hs; exact hs.app.2.1.app.1
  obtain ⟨q, rfl⟩ := hTk.ptr
  have CI : ∀ V, Below bv0.heap.size bv0 V → Calls Tryz.prog 132 #[.pointer q, .slice xo xn xc] V fun e w' => ∃ p1 p2, e = .returned (.tuple #[.pointer p1, .pointer p2]) ∧ (T w' (.pointer p1) (lo x.k s) ∧ T w' (.pointer p2) (hi x.k s)) ∧ Below V.heap.size V w' := by
    intro V hV
    refine (cut_fuel s.length V (.pointer q) s xo xn xc x.k (Nat.le_refl _) (hTk.below hV) hss (fun ⟨y, hy, he⟩ => hh ⟨y, h.shp.seg _ (List.mem_of_getElem? c.seg) y hy, he⟩) (hx.below (Bb.trans (hV.mono Bb.size))) (by omega)).mono ?_
    rintro e w' ⟨y1, y2, rfl, T1, T2, hb⟩
    obtain ⟨p1, rfl⟩ := T1.ptr
    obtain ⟨p2, rfl⟩ := T2.ptr
    exact ⟨p1, p2, rfl, ⟨T1, T2⟩, hb⟩
  clear hs1 hs2 hTk
  go_wp2_with fail
  have cHS : Hid (∀ V, Below bv0.heap.size bv0 V → V.cell? ⟨d.b, 3, none⟩ = some (.slice (some ⟨kb, ko, none⟩) d.cs.length d.cc) ∧ V.cell? ⟨kb, ko + i, none⟩ = some (.pointer q) ∧ V.cell? ⟨g, 0, none⟩ = some (.int .i64 (lev x.k)) ∧ V.cell? ⟨g, 1, none⟩ = some (.slice xo xn xc) ∧ V.cell? ⟨g, 2, none⟩ = some (.slice yo yn yc)) := fun V hV => ⟨by rw [← eco]; exact (Nb.ok.below hV).c3, (hV.cell (World.block_lt_of_cell? _ _ hcell)).trans hcell, (Lb.below hV).c0, (Lb.below hV).c1, (Lb.below hV).c2⟩
  have cE0 : Below bv0.heap.size bv0 bv0.drew := (Below.refl _ _).drew
  refine wp_region_noPanic ?_
  refine wp_region_held_drew (S := fun V => V.cell? ⟨d.b, 3, none⟩ = some (.slice (some ⟨kb, ko, none⟩) d.cs.length d.cc) ∧ V.cell? ⟨kb, ko + i, none⟩ = some (.pointer q) ∧ V.cell? ⟨g, 0, none⟩ = some (.int .i64 (lev x.k)) ∧ V.cell? ⟨g, 1, none⟩ = some (.slice xo xn xc) ∧ V.cell? ⟨g, 2, none⟩ = some (.slice yo yn yc)) (by kernel_rfl) (cHS.out _ cE0) (fun cH0 => ?_)
  obtain ⟨cv0, hv0⟩ : ∃ v, v = bv0.drew := ⟨_, rfl⟩
  rw [← hv0] at cH0 cE0 ⊢
  clear hv0
  refine hr_take_w 0 (some 95) (.pointer (some ⟨d.b, 0, none⟩)) rfl rfl (by kernel_rfl) (by kernel_rfl) (by kernel_rfl) rfl (fun W hW => by obtain ⟨h0, h1, h2, h3, h4⟩ := hW; go_simp) cH0 ?_
  simp only [Act.put, List.setIfInBounds_toArray, List.set_cons_zero, List.set_cons_succ]
  refine hr_take_w 1 (some 96) (.pointer (some ⟨d.b, 0, none⟩)) rfl rfl (by kernel_rfl) (by kernel_rfl) (by kernel_rfl) rfl (fun W hW => by obtain ⟨h0, h1, h2, h3, h4⟩ := hW; go_simp) cH0 ?_
  simp only [Act.put, List.setIfInBounds_toArray, List.set_cons_zero, List.set_cons_succ]
  refine hr_take_w 2 (some 97) (.pointer (some ⟨d.b, 3, none⟩)) rfl rfl (by kernel_rfl) (by kernel_rfl) (by kernel_rfl) rfl (fun W hW => by obtain ⟨h0, h1, h2, h3, h4⟩ := hW; go_simp) cH0 ?_
  simp only [Act.put, List.setIfInBounds_toArray, List.set_cons_zero, List.set_cons_succ]
  refine hr_take_w 3 (some 98) (.slice (some ⟨kb, ko, none⟩) d.cs.length d.cc) rfl rfl (by kernel_rfl) (by kernel_rfl) (by kernel_rfl) rfl (fun W hW => by obtain ⟨h0, h1, h2, h3, h4⟩ := hW; go_simp) cH0 ?_
  simp only [Act.put, List.setIfInBounds_toArray, List.set_cons_zero, List.set_cons_succ]
  refine hr_take_w 4 (some 99) (.int .i64 i) rfl rfl (by kernel_rfl) (by kernel_rfl) (by kernel_rfl) rfl (fun W hW => by obtain ⟨h0, h1, h2, h3, h4⟩ := hW; go_simp) cH0 ?_
  simp only [Act.put, List.setIfInBounds_toArray, List.set_cons_zero, List.set_cons_succ]
  refine hr_take_w 5 (some 100) (.pointer (some ⟨kb, ko + i, none⟩)) rfl rfl (by kernel_rfl) (by kernel_rfl) (by kernel_rfl) rfl (fun W hW => by obtain ⟨h0, h1, h2, h3, h4⟩ := hW; go_simp) cH0 ?_
  simp only [Act.put, List.setIfInBounds_toArray, List.set_cons_zero, List.set_cons_succ]
  refine hr_take_w 6 (some 101) (.pointer q) rfl rfl (by kernel_rfl) (by kernel_rfl) (by kernel_rfl) rfl (fun W hW => by obtain ⟨h0, h1, h2, h3, h4⟩ := hW; go_simp) cH0 ?_
  simp only [Act.put, List.setIfInBounds_toArray, List.set_cons_zero, List.set_cons_succ]
  refine hr_take_w 7 (some 102) (.pointer (some ⟨g, 1, none⟩)) rfl rfl (by kernel_rfl) (by kernel_rfl) (by kernel_rfl) rfl (fun W hW => by obtain ⟨h0, h1, h2, h3, h4⟩ := hW; go_simp) cH0 ?_
  simp only [Act.put, List.setIfInBounds_toArray, List.set_cons_zero, List.set_cons_succ]
  refine hr_take_w 8 (some 103) (.slice xo xn xc) rfl rfl (by kernel_rfl) (by kernel_rfl) (by kernel_rfl) rfl (fun W hW => by obtain ⟨h0, h1, h2, h3, h4⟩ := hW; go_simp) cH0 ?_
  simp only [Act.put, List.setIfInBounds_toArray, List.set_cons_zero, List.set_cons_succ]
  refine hr_call_w 9 (some 104) 132 #[.pointer q, .slice xo xn xc] rfl rfl (by kernel_rfl) rfl (by go_simp) (fun v w' => ∃ p1 p2, v = .tuple #[.pointer p1, .pointer p2] ∧ (T w' (.pointer p1) (lo x.k s) ∧ T w' (.pointer p2) (hi x.k s)) ∧ Below cv0.heap.size cv0 w') ((CI _ cE0).mono (by
    rintro e w' ⟨p1, p2, rfl, F, C⟩
    exact ⟨_, rfl, p1, p2, rfl, F, C⟩)) ?_
  rintro v cv1 ⟨p1, p2, rfl, cF0, cC0⟩
  have cE1 := cE0.trans (cC0.mono cE0.size)
  have cH1 := cHS.out cv1 cE1
  refine ⟨cH1, ?_⟩
  simp only [Act.put, List.setIfInBounds_toArray, List.set_cons_zero, List.set_cons_succ]
  refine hr_take_w 10 (some 94) (.tuple #[.pointer p1, .pointer p2]) rfl rfl (by kernel_rfl) (by kernel_rfl) (by kernel_rfl) rfl (fun W hW => by obtain ⟨h0, h1, h2, h3, h4⟩ := hW; go_simp) cH1 ?_
  simp only [Act.put, List.setIfInBounds_toArray, List.set_cons_zero, List.set_cons_succ]
  refine hr_take_w 11 (some 105) (.pointer p1) rfl rfl (by kernel_rfl) (by kernel_rfl) (by kernel_rfl) rfl (fun W hW => by obtain ⟨h0, h1, h2, h3, h4⟩ := hW; go_simp) cH1 ?_
  simp only [Act.put, List.setIfInBounds_toArray, List.set_cons_zero, List.set_cons_succ]
  refine hr_take_w 12 (some 106) (.pointer p2) rfl rfl (by kernel_rfl) (by kernel_rfl) (by kernel_rfl) rfl (fun W hW => by obtain ⟨h0, h1, h2, h3, h4⟩ := hW; go_simp) cH1 ?_
  simp only [Act.put, List.setIfInBounds_toArray, List.set_cons_zero, List.set_cons_succ]
  refine hr_take_w 13 (some 9) (.pointer p1) rfl rfl (by kernel_rfl) (by kernel_rfl) (by kernel_rfl) rfl (fun W hW => by obtain ⟨h0, h1, h2, h3, h4⟩ := hW; go_simp) cH1 ?_
  simp only [Act.put, List.setIfInBounds_toArray, List.set_cons_zero, List.set_cons_succ]
  refine hr_take_w 14 (some 10) (.pointer p2) rfl rfl (by kernel_rfl) (by kernel_rfl) (by kernel_rfl) rfl (fun W hW => by obtain ⟨h0, h1, h2, h3, h4⟩ := hW; go_simp) cH1 ?_
  simp only [Act.put, List.setIfInBounds_toArray, List.set_cons_zero, List.set_cons_succ]
  refine wpAnyH_done (by kernel_rfl) ?_ _
  refine NoPanic.normal ?_
  have Bc : Below w.heap.size w cv1 := Bb.trans (cE1.mono Bb.size)
  have Nc := h.below Bc
  have Lc := Lb.below cE1
  have T1 := cF0.1
  have T2 := cF0.2
  have TF : ∀ (V : World), Below cv1.heap.size cv1 V → ∀ (gn : Nat) (k1 : Option Addr) (k2 : Nat) (v1 : Option Addr) (v2 : Nat) (n1 : Option Addr) (n2 : Nat), V.heap[gn]? = some (.cells #[.int .i64 d.L, .slice k1 (i + 1 + (d.ks.length - i)) k2, .slice v1 (i + 1 + (d.vs.length - i)) v2, .slice n1 (i + 2 + (d.cs.length - (i + 1))) n2] 119) →
      VL V k1 (i + 1 + (d.ks.length - i)) k2 ((d.ks.map Part.val).take i ++ [.slice xo xn xc] ++ (d.ks.map Part.val).drop i) → VL V v1 (i + 1 + (d.vs.length - i)) v2 ((d.vs.map Part.val).take i ++ [.slice yo yn yc] ++ (d.vs.map Part.val).drop i) → VL V n1 (i + 2 + (d.cs.length - (i + 1))) n2 (d.cs.take i ++ [.pointer p1, .pointer p2] ++ d.cs.drop (i + 1)) →
      T V (.pointer (some ⟨gn, 0, none⟩)) (ins l x) := by
    intro V hV gn k1 k2 v1 v2 n1 n2 hgn h1 h2 h3
    have Bv := Bc.trans (hV.mono Bc.size)
    have Nv := h.below Bv
    have e : ins l x = A ++ (lo x.k s ++ x :: (hi x.k s ++ B)) := by rw [HI.out]; simp [ins]
    have kd := (Nv.kids.take i).app (Kids.cons (T1.below hV) (Kids.cons (T2.below hV) (Nv.kids.drop (i + 1))))
    rw [e]
    refine T.make hgn (KL.of (ps := d.ks.take i ++ (⟨xo, xn, xc, x.k⟩ : Part) :: d.ks.drop i) h1 (by simp [Part.val, List.map_take, List.map_drop]) ?_) (KL.of (ps := d.vs.take i ++ (⟨yo, yn, yc, x.v⟩ : Part) :: d.vs.drop i) h2 (by simp [Part.val, List.map_take, List.map_drop]) ?_) h3 (c.more (x := x) (by rw [← hL.out]) (fun y hy => c.ls y (mem_lo.1 hy).1) (fun y hy => c.ls y (mem_hi.1 hy).1)) ?_ ?_ ?_
    · intro q hq
      rcases List.mem_append.1 hq with hq | hq
      · exact Nv.ok.kl.sl q (List.mem_of_mem_take hq)
      · rcases List.mem_cons.1 hq with rfl | hq
        · exact hx.below Bv
        · exact Nv.ok.kl.sl q (List.mem_of_mem_drop hq)
    · intro q hq
      rcases List.mem_append.1 hq with hq | hq
      · exact Nv.ok.vl.sl q (List.mem_of_mem_take hq)
      · rcases List.mem_cons.1 hq with rfl | hq
        · exact hy.below Bv
        · exact Nv.ok.vl.sl q (List.mem_of_mem_drop hq)
    · simp [List.map_take, List.map_drop, Nv.ek]
    · simp [List.map_take, List.map_drop, Nv.ev]
    · simpa using kd
  clear T1 T2 cF0 HI
  go_wp2_with fail
  have eHS : Hid (∀ V, Below cv1.heap.size cv1 V → V.cell? ⟨d.b, 0, none⟩ = some (.int .i64 d.L) ∧ V.cell? ⟨d.b, 1, none⟩ = some (.slice d.ko d.ks.length d.kc) ∧ V.cell? ⟨d.b, 2, none⟩ = some (.slice d.vo d.vs.length d.vc) ∧ V.cell? ⟨d.b, 3, none⟩ = some (.slice d.co d.cs.length d.cc) ∧ V.cell? ⟨g, 0, none⟩ = some (.int .i64 (lev x.k)) ∧ V.cell? ⟨g, 1, none⟩ = some (.slice xo xn xc) ∧ V.cell? ⟨g, 2, none⟩ = some (.slice yo yn yc)) := fun V hV => ⟨(Nc.ok.below hV).c0, (Nc.ok.below hV).c1, (Nc.ok.below hV).c2, (Nc.ok.below hV).c3, (Lc.below hV).c0, (Lc.below hV).c1, (Lc.below hV).c2⟩
  have eE0 : Below cv1.heap.size cv1 cv1.drew := (Below.refl _ _).drew
  refine wp_region_noPanic ?_
  refine wp_region_held_drew (S := fun V => V.cell? ⟨d.b, 0, none⟩ = some (.int .i64 d.L) ∧ V.cell? ⟨d.b, 1, none⟩ = some (.slice d.ko d.ks.length d.kc) ∧ V.cell? ⟨d.b, 2, none⟩ = some (.slice d.vo d.vs.length d.vc) ∧ V.cell? ⟨d.b, 3, none⟩ = some (.slice d.co d.cs.length d.cc) ∧ V.cell? ⟨g, 0, none⟩ = some (.int .i64 (lev x.k)) ∧ V.cell? ⟨g, 1, none⟩ = some (.slice xo xn xc) ∧ V.cell? ⟨g, 2, none⟩ = some (.slice yo yn yc)) (by kernel_rfl) (eHS.out _ eE0) (fun eH0 => ?_)
  obtain ⟨ev0, hv0⟩ : ∃ v, v = cv1.drew := ⟨_, rfl⟩
  rw [← hv0] at eH0 eE0 ⊢
  clear hv0
  refine hr_take_w 0 (some 107) (.pointer (some ⟨d.b, 0, none⟩)) rfl rfl (by kernel_rfl) (by kernel_rfl) (by kernel_rfl) rfl (fun W hW => by obtain ⟨h0, h1, h2, h3, h4, h5, h6⟩ := hW; go_simp) eH0 ?_
  simp only [Act.put, List.setIfInBounds_toArray, List.set_cons_zero, List.set_cons_succ]
  refine hr_take_w 1 (some 108) (.pointer (some ⟨d.b, 0, none⟩)) rfl rfl (by kernel_rfl) (by kernel_rfl) (by kernel_rfl) rfl (fun W hW => by obtain ⟨h0, h1, h2, h3, h4, h5, h6⟩ := hW; go_simp) eH0 ?_
  simp only [Act.put, List.setIfInBounds_toArray, List.set_cons_zero, List.set_cons_succ]
  refine hr_take_w 2 (some 109) (.pointer (some ⟨d.b, 0, none⟩)) rfl rfl (by kernel_rfl) (by kernel_rfl) (by kernel_rfl) rfl (fun W hW => by obtain ⟨h0, h1, h2, h3, h4, h5, h6⟩ := hW; go_simp) eH0 ?_
  simp only [Act.put, List.setIfInBounds_toArray, List.set_cons_zero, List.set_cons_succ]
  refine hr_take_w 3 (some 110) (.int .i64 d.L) rfl rfl (by kernel_rfl) (by kernel_rfl) (by kernel_rfl) rfl (fun W hW => by obtain ⟨h0, h1, h2, h3, h4, h5, h6⟩ := hW; go_simp) eH0 ?_
  simp only [Act.put, List.setIfInBounds_toArray, List.set_cons_zero, List.set_cons_succ]
  refine hr_take_w 4 (some 111) (.pointer (some ⟨d.b, 0, none⟩)) rfl rfl (by kernel_rfl) (by kernel_rfl) (by kernel_rfl) rfl (fun W hW => by obtain ⟨h0, h1, h2, h3, h4, h5, h6⟩ := hW; go_simp) eH0 ?_
  simp only [Act.put, List.setIfInBounds_toArray, List.set_cons_zero, List.set_cons_succ]
  refine hr_take_w 5 (some 112) (.pointer (some ⟨d.b, 0, none⟩)) rfl rfl (by kernel_rfl) (by kernel_rfl) (by kernel_rfl) rfl (fun W hW => by obtain ⟨h0, h1, h2, h3, h4, h5, h6⟩ := hW; go_simp) eH0 ?_
  simp only [Act.put, List.setIfInBounds_toArray, List.set_cons_zero, List.set_cons_succ]
  refine hr_take_w 6 (some 113) (.pointer (some ⟨d.b, 1, none⟩)) rfl rfl (by kernel_rfl) (by kernel_rfl) (by kernel_rfl) rfl (fun W hW => by obtain ⟨h0, h1, h2, h3, h4, h5, h6⟩ := hW; go_simp) eH0 ?_
  simp only [Act.put, List.setIfInBounds_toArray, List.set_cons_zero, List.set_cons_succ]
  refine hr_take_w 7 (some 114) (.slice d.ko d.ks.length d.kc) rfl rfl (by kernel_rfl) (by kernel_rfl) (by kernel_rfl) rfl (fun W hW => by obtain ⟨h0, h1, h2, h3, h4, h5, h6⟩ := hW; go_simp) eH0 ?_
  simp only [Act.put, List.setIfInBounds_toArray, List.set_cons_zero, List.set_cons_succ]
  refine hr_take_w 8 (some 115) (.int .i64 i) rfl rfl (by kernel_rfl) (by kernel_rfl) (by kernel_rfl) rfl (fun W hW => by obtain ⟨h0, h1, h2, h3, h4, h5, h6⟩ := hW; go_simp) eH0 ?_
  simp only [Act.put, List.setIfInBounds_toArray, List.set_cons_zero, List.set_cons_succ]
  refine hr_take_w 9 (some 116) (.int .i64 i) rfl rfl (by kernel_rfl) (by kernel_rfl) (by kernel_rfl) rfl (fun W hW => by obtain ⟨h0, h1, h2, h3, h4, h5, h6⟩ := hW; go_simp) eH0 ?_
  simp only [Act.put, List.setIfInBounds_toArray, List.set_cons_zero, List.set_cons_succ]
  refine hr_take_w 10 (some 117) (.pointer (some ⟨g, 1, none⟩)) rfl rfl (by kernel_rfl) (by kernel_rfl) (by kernel_rfl) rfl (fun W hW => by obtain ⟨h0, h1, h2, h3, h4, h5, h6⟩ := hW; go_simp) eH0 ?_
  simp only [Act.put, List.setIfInBounds_toArray, List.set_cons_zero, List.set_cons_succ]
  refine hr_take_w 11 (some 118) (.slice xo xn xc) rfl rfl (by kernel_rfl) (by kernel_rfl) (by kernel_rfl) rfl (fun W hW => by obtain ⟨h0, h1, h2, h3, h4, h5, h6⟩ := hW; go_simp) eH0 ?_
  simp only [Act.put, List.setIfInBounds_toArray, List.set_cons_zero, List.set_cons_succ]
  refine hr_take_w 14 (some 121) (.pointer (some ⟨d.b, 0, none⟩)) rfl rfl (by kernel_rfl) (by kernel_rfl) (by kernel_rfl) rfl (fun W hW => by obtain ⟨h0, h1, h2, h3, h4, h5, h6⟩ := hW; go_simp) eH0 ?_
  simp only [Act.put, List.setIfInBounds_toArray, List.set_cons_zero, List.set_cons_succ]
  refine hr_take_w 15 (some 122) (.pointer (some ⟨d.b, 0, none⟩)) rfl rfl (by kernel_rfl) (by kernel_rfl) (by kernel_rfl) rfl (fun W hW => by obtain ⟨h0, h1, h2, h3, h4, h5, h6⟩ := hW; go_simp) eH0 ?_
  simp only [Act.put, List.setIfInBounds_toArray, List.set_cons_zero, List.set_cons_succ]
  refine hr_take_w 16 (some 123) (.pointer (some ⟨d.b, 2, none⟩)) rfl rfl (by kernel_rfl) (by kernel_rfl) (by kernel_rfl) rfl (fun W hW => by obtain ⟨h0, h1, h2, h3, h4, h5, h6⟩ := hW; go_simp) eH0 ?_
  simp only [Act.put, List.setIfInBounds_toArray, List.set_cons_zero, List.set_cons_succ]
  refine hr_take_w 17 (some 124) (.slice d.vo d.vs.length d.vc) rfl rfl (by kernel_rfl) (by kernel_rfl) (by kernel_rfl) rfl (fun W hW => by obtain ⟨h0, h1, h2, h3, h4, h5, h6⟩ := hW; go_simp) eH0 ?_
  simp only [Act.put, List.setIfInBounds_toArray, List.set_cons_zero, List.set_cons_succ]
  refine hr_take_w 18 (some 125) (.int .i64 i) rfl rfl (by kernel_rfl) (by kernel_rfl) (by kernel_rfl) rfl (fun W hW => by obtain ⟨h0, h1, h2, h3, h4, h5, h6⟩ := hW; go_simp) eH0 ?_
  simp only [Act.put, List.setIfInBounds_toArray, List.set_cons_zero, List.set_cons_succ]
  refine hr_take_w 19 (some 126) (.int .i64 i) rfl rfl (by kernel_rfl) (by kernel_rfl) (by kernel_rfl) rfl (fun W hW => by obtain ⟨h0, h1, h2, h3, h4, h5, h6⟩ := hW; go_simp) eH0 ?_
  simp only [Act.put, List.setIfInBounds_toArray, List.set_cons_zero, List.set_cons_succ]
  refine hr_take_w 20 (some 127) (.pointer (some ⟨g, 2, none⟩)) rfl rfl (by kernel_rfl) (by kernel_rfl) (by kernel_rfl) rfl (fun W hW => by obtain ⟨h0, h1, h2, h3, h4, h5, h6⟩ := hW; go_simp) eH0 ?_
  simp only [Act.put, List.setIfInBounds_toArray, List.set_cons_zero, List.set_cons_succ]
  refine hr_take_w 21 (some 128) (.slice yo yn yc) rfl rfl (by kernel_rfl) (by kernel_rfl) (by kernel_rfl) rfl (fun W hW => by obtain ⟨h0, h1, h2, h3, h4, h5, h6⟩ := hW; go_simp) eH0 ?_
  simp only [Act.put, List.setIfInBounds_toArray, List.set_cons_zero, List.set_cons_succ]
  refine hr_take_w 24 (some 131) (.pointer (some ⟨d.b, 0, none⟩)) rfl rfl (by kernel_rfl) (by kernel_rfl) (by kernel_rfl) rfl (fun W hW => by obtain ⟨h0, h1, h2, h3, h4, h5, h6⟩ := hW; go_simp) eH0 ?_
  simp only [Act.put, List.setIfInBounds_toArray, List.set_cons_zero, List.set_cons_succ]
  refine hr_take_w 25 (some 132) (.pointer (some ⟨d.b, 0, none⟩)) rfl rfl (by kernel_rfl) (by kernel_rfl) (by kernel_rfl) rfl (fun W hW => by obtain ⟨h0, h1, h2, h3, h4, h5, h6⟩ := hW; go_simp) eH0 ?_
  simp only [Act.put, List.setIfInBounds_toArray, List.set_cons_zero, List.set_cons_succ]
  refine hr_take_w 26 (some 133) (.pointer (some ⟨d.b, 3, none⟩)) rfl rfl (by kernel_rfl) (by kernel_rfl) (by kernel_rfl) rfl (fun W hW => by obtain ⟨h0, h1, h2, h3, h4, h5, h6⟩ := hW; go_simp) eH0 ?_
  simp only [Act.put, List.setIfInBounds_toArray, List.set_cons_zero, List.set_cons_succ]
  refine hr_take_w 27 (some 134) (.slice d.co d.cs.length d.cc) rfl rfl (by kernel_rfl) (by kernel_rfl) (by kernel_rfl) rfl (fun W hW => by obtain ⟨h0, h1, h2, h3, h4, h5, h6⟩ := hW; go_simp) eH0 ?_
  simp only [Act.put, List.setIfInBounds_toArray, List.set_cons_zero, List.set_cons_succ]
  refine hr_take_w 28 (some 135) (.int .i64 i) rfl rfl (by kernel_rfl) (by kernel_rfl) (by kernel_rfl) rfl (fun W hW => by obtain ⟨h0, h1, h2, h3, h4, h5, h6⟩ := hW; go_simp) eH0 ?_
  simp only [Act.put, List.setIfInBounds_toArray, List.set_cons_zero, List.set_cons_succ]
  refine hr_take_w 29 (some 136) (.int .i64 i) rfl rfl (by kernel_rfl) (by kernel_rfl) (by kernel_rfl) rfl (fun W hW => by obtain ⟨h0, h1, h2, h3, h4, h5, h6⟩ := hW; go_simp) eH0 ?_
  simp only [Act.put, List.setIfInBounds_toArray, List.set_cons_zero, List.set_cons_succ]
  refine hr_take_w 30 (some 137) (.int .i64 ((i + 1 : Nat) : Int)) rfl rfl (by kernel_rfl) (by kernel_rfl) (by kernel_rfl) rfl (fun W hW => by obtain ⟨h0, h1, h2, h3, h4, h5, h6⟩ := hW; go_simp) eH0 ?_
  simp only [Act.put, List.setIfInBounds_toArray, List.set_cons_zero, List.set_cons_succ]
  refine hr_take_w 31 (some 138) (.pointer p1) rfl rfl (by kernel_rfl) (by kernel_rfl) (by kernel_rfl) rfl (fun W hW => by obtain ⟨h0, h1, h2, h3, h4, h5, h6⟩ := hW; go_simp) eH0 ?_
  simp only [Act.put, List.setIfInBounds_toArray, List.set_cons_zero, List.set_cons_succ]
  refine hr_take_w 32 (some 139) (.pointer p2) rfl rfl (by kernel_rfl) (by kernel_rfl) (by kernel_rfl) rfl (fun W hW => by obtain ⟨h0, h1, h2, h3, h4, h5, h6⟩ := hW; go_simp) eH0 ?_
  simp only [Act.put, List.setIfInBounds_toArray, List.set_cons_zero, List.set_cons_succ]
  refine wpAnyH_effs (fun zi zv zw => (zi = 12 → ∃ g, zv = .slice (some ⟨g, 0, none⟩) 1 1 ∧ VL zw (some ⟨g, 0, none⟩) 1 1 [.slice xo xn xc]) ∧ (zi = 13 → ∃ ro rc, zv = .slice ro (i + 1 + (d.ks.length - i)) rc ∧ VL zw ro (i + 1 + (d.ks.length - i)) rc ((d.ks.map Part.val).take i ++ [.slice xo xn xc] ++ (d.ks.map Part.val).drop i)) ∧ (zi = 22 → ∃ g, zv = .slice (some ⟨g, 0, none⟩) 1 1 ∧ VL zw (some ⟨g, 0, none⟩) 1 1 [.slice yo yn yc]) ∧ (zi = 23 → ∃ ro rc, zv = .slice ro (i + 1 + (d.vs.length - i)) rc ∧ VL zw ro (i + 1 + (d.vs.length - i)) rc ((d.vs.map Part.val).take i ++ [.slice yo yn yc] ++ (d.vs.map Part.val).drop i)) ∧ (zi = 33 → ∃ g, zv = .slice (some ⟨g, 0, none⟩) 2 2 ∧ VL zw (some ⟨g, 0, none⟩) 2 2 [.pointer p1, .pointer p2]) ∧ (zi = 34 → ∃ ro rc, zv = .slice ro (i + 2 + (d.cs.length - (i + 1))) rc ∧ VL zw ro (i + 2 + (d.cs.length - (i + 1))) rc (d.cs.take i ++ [.pointer p1, .pointer p2] ++ d.cs.drop (i + 1))) ∧ (zi = 35 → ∃ k1 k2 v1 v2 n1 n2, zv = .agg #[.int .i64 d.L, .slice k1 (i + 1 + (d.ks.length - i)) k2, .slice v1 (i + 1 + (d.vs.length - i)) v2, .slice n1 (i + 2 + (d.cs.length - (i + 1))) n2] ∧ VL zw k1 (i + 1 + (d.ks.length - i)) k2 ((d.ks.map Part.val).take i ++ [.slice xo xn xc] ++ (d.ks.map Part.val).drop i) ∧ VL zw v1 (i + 1 + (d.vs.length - i)) v2 ((d.vs.map Part.val).take i ++ [.slice yo yn yc] ++ (d.vs.map Part.val).drop i) ∧ VL zw n1 (i + 2 + (d.cs.length - (i + 1))) n2 (d.cs.take i ++ [.pointer p1, .pointer p2] ++ d.cs.drop (i + 1))) ∧ (zi = 36 → T zw zv (ins l x)) ∧ (zi = 37 → T zw zv (ins l x))) [12, 13, 22, 23, 33, 34, 35, 36, 37] 144 (by kernel_rfl) (by kernel_rfl) (Nat.le_of_eq (by kernel_rfl)) rfl rfl ?_ (fun W hW => eHS.out W (eE0.trans (hW.mono eE0.size))) ?_ ?_
  · intro zi v w w' h hb
    refine ⟨fun e => ?_, fun e => ?_, fun e => ?_, fun e => ?_, fun e => ?_, fun e => ?_, fun e => ?_, fun e => ?_, fun e => ?_⟩
    · have h := h.1 e
      obtain ⟨g, h1, h2⟩ := h
      exact ⟨g, h1, h2.below hb⟩
    · have h := h.2.1 e
      obtain ⟨ro, rc, h1, h2⟩ := h
      exact ⟨ro, rc, h1, h2.below hb⟩
    · have h := h.2.2.1 e
      obtain ⟨g, h1, h2⟩ := h
      exact ⟨g, h1, h2.below hb⟩
    · have h := h.2.2.2.1 e
      obtain ⟨ro, rc, h1, h2⟩ := h
      exact ⟨ro, rc, h1, h2.below hb⟩
    · have h := h.2.2.2.2.1 e
      obtain ⟨g, h1, h2⟩ := h
      exact ⟨g, h1, h2.below hb⟩
    · have h := h.2.2.2.2.2.1 e
      obtain ⟨ro, rc, h1, h2⟩ := h
      exact ⟨ro, rc, h1, h2.below hb⟩
    · have h := h.2.2.2.2.2.2.1 e
      obtain ⟨k1, k2, v1, v2, n1, n2, h1, h2, h3, h4⟩ := h
      exact ⟨k1, k2, v1, v2, n1, n2, h1, h2.below hb, h3.below hb, h4.below hb⟩
    · have h := h.2.2.2.2.2.2.2.1 e
      exact h.below hb
    · have h := h.2.2.2.2.2.2.2.2 e
      exact h.below hb
  · intro zi zhi o a w ho hs hb hdep
    simp only [List.mem_cons, List.not_mem_nil, or_false] at zhi
    rcases zhi with rfl | rfl | rfl | rfl | rfl | rfl | rfl | rfl | rfl
    · obtain rfl : _ = o := Option.some.inj (show some _ = some o from ho)
      have t118 : a.tmps[118]? = some (.slice xo xn xc) := hs.get 118 (by kernel_rfl) rfl
      exact .inl ⟨_, _, by go_simp, ⟨fun _ => ⟨_, rfl, VL.new w [.slice xo xn xc] 25 (by simp [maxLen])⟩, fun e => absurd e (by decide), fun e => absurd e (by decide), fun e => absurd e (by decide), fun e => absurd e (by decide), fun e => absurd e (by decide), fun e => absurd e (by decide), fun e => absurd e (by decide), fun e => absurd e (by decide)⟩, (Below.refl _ _).alloc (Nat.le_refl _) _⟩
    · obtain rfl : _ = o := Option.some.inj (show some _ = some o from ho)
      have t114 : a.tmps[114]? = some (.slice d.ko d.ks.length d.kc) := hs.get 114 (by kernel_rfl) rfl
      have t115 : a.tmps[115]? = some (.int .i64 i) := hs.get 115 (by kernel_rfl) rfl
      have t116 : a.tmps[116]? = some (.int .i64 i) := hs.get 116 (by kernel_rfl) rfl
      obtain ⟨x119, t119, f119⟩ := (hdep 12 (by kernel_rfl) (by kernel_rfl)).at 119 (by kernel_rfl)
      replace f119 := f119.1 rfl
      obtain ⟨g1, rfl, G1⟩ := f119
      have E1 := eE0.trans (hb.mono eE0.size)
      refine .inr ⟨134, #[.slice d.ko d.ks.length d.kc, .int .i64 i, .int .i64 i, .slice (some ⟨g1, 0, none⟩) 1 1], by go_simp, (chgK_any w d.ko (some ⟨g1, 0, none⟩) d.ks.length d.kc 1 1 i i (d.ks.map Part.val) [.slice xo xn xc] (Nc.ok.kl.vl.below E1) G1 (part_one _) (by intro y hy; rw [List.mem_singleton.1 hy]; rfl) (Nat.le_refl _) (by omega) (by omega)).mono ?_⟩
      rintro e w' ⟨ro, rc, rfl, h1, h2⟩
      exact ⟨_, rfl, ⟨fun e => absurd e (by decide), fun _ => ⟨ro, rc, rfl, h1⟩, fun e => absurd e (by decide), fun e => absurd e (by decide), fun e => absurd e (by decide), fun e => absurd e (by decide), fun e => absurd e (by decide), fun e => absurd e (by decide), fun e => absurd e (by decide)⟩, h2⟩
    · obtain rfl : _ = o := Option.some.inj (show some _ = some o from ho)
      have t128 : a.tmps[128]? = some (.slice yo yn yc) := hs.get 128 (by kernel_rfl) rfl
      exact .inl ⟨_, _, by go_simp, ⟨fun e => absurd e (by decide), fun e => absurd e (by decide), fun _ => ⟨_, rfl, VL.new w [.slice yo yn yc] 25 (by simp [maxLen])⟩, fun e => absurd e (by decide), fun e => absurd e (by decide), fun e => absurd e (by decide), fun e => absurd e (by decide), fun e => absurd e (by decide), fun e => absurd e (by decide)⟩, (Below.refl _ _).alloc (Nat.le_refl _) _⟩
    · obtain rfl : _ = o := Option.some.inj (show some _ = some o from ho)
      have t124 : a.tmps[124]? = some (.slice d.vo d.vs.length d.vc) := hs.get 124 (by kernel_rfl) rfl
      have t125 : a.tmps[125]? = some (.int .i64 i) := hs.get 125 (by kernel_rfl) rfl
      have t126 : a.tmps[126]? = some (.int .i64 i) := hs.get 126 (by kernel_rfl) rfl
      obtain ⟨x129, t129, f129⟩ := (hdep 22 (by kernel_rfl) (by kernel_rfl)).at 129 (by kernel_rfl)
      replace f129 := f129.2.2.1 rfl
      obtain ⟨g1, rfl, G1⟩ := f129
      have E1 := eE0.trans (hb.mono eE0.size)
      refine .inr ⟨134, #[.slice d.vo d.vs.length d.vc, .int .i64 i, .int .i64 i, .slice (some ⟨g1, 0, none⟩) 1 1], by go_simp, (chgK_any w d.vo (some ⟨g1, 0, none⟩) d.vs.length d.vc 1 1 i i (d.vs.map Part.val) [.slice yo yn yc] (Nc.ok.vl.vl.below E1) G1 (part_one _) (by intro y hy; rw [List.mem_singleton.1 hy]; rfl) (Nat.le_refl _) (by omega) (by omega)).mono ?_⟩
      rintro e w' ⟨ro, rc, rfl, h1, h2⟩
      exact ⟨_, rfl, ⟨fun e => absurd e (by decide), fun e => absurd e (by decide), fun e => absurd e (by decide), fun _ => ⟨ro, rc, rfl, h1⟩, fun e => absurd e (by decide), fun e => absurd e (by decide), fun e => absurd e (by decide), fun e => absurd e (by decide), fun e => absurd e (by decide)⟩, h2⟩
    · obtain rfl : _ = o := Option.some.inj (show some _ = some o from ho)
      have t138 : a.tmps[138]? = some (.pointer p1) := hs.get 138 (by kernel_rfl) rfl
      have t139 : a.tmps[139]? = some (.pointer p2) := hs.get 139 (by kernel_rfl) rfl
      exact .inl ⟨_, _, by go_simp, ⟨fun e => absurd e (by decide), fun e => absurd e (by decide), fun e => absurd e (by decide), fun e => absurd e (by decide), fun _ => ⟨_, rfl, VL.new w [.pointer p1, .pointer p2] 85 (by simp [maxLen])⟩, fun e => absurd e (by decide), fun e => absurd e (by decide), fun e => absurd e (by decide), fun e => absurd e (by decide)⟩, (Below.refl _ _).alloc (Nat.le_refl _) _⟩
    · obtain rfl : _ = o := Option.some.inj (show some _ = some o from ho)
      have t134 : a.tmps[134]? = some (.slice d.co d.cs.length d.cc) := hs.get 134 (by kernel_rfl) rfl
      have t135 : a.tmps[135]? = some (.int .i64 i) := hs.get 135 (by kernel_rfl) rfl
      have t137 : a.tmps[137]? = some (.int .i64 ((i + 1 : Nat) : Int)) := hs.get 137 (by kernel_rfl) rfl
      obtain ⟨x140, t140, f140⟩ := (hdep 33 (by kernel_rfl) (by kernel_rfl)).at 140 (by kernel_rfl)
      replace f140 := f140.2.2.2.2.1 rfl
      obtain ⟨g1, rfl, G1⟩ := f140
      have E1 := eE0.trans (hb.mono eE0.size)
      refine .inr ⟨135, #[.slice d.co d.cs.length d.cc, .int .i64 i, .int .i64 ((i + 1 : Nat) : Int), .slice (some ⟨g1, 0, none⟩) 2 2], by go_simp, (chgN_any w d.co (some ⟨g1, 0, none⟩) d.cs.length d.cc 2 2 i (i + 1) d.cs [.pointer p1, .pointer p2] (Nc.ok.cl.below E1) G1 Nc.one (by intro y hy; rcases List.mem_cons.1 hy with rfl | hy; rfl; rw [List.mem_singleton.1 hy]; rfl) (by omega) (by omega) (by omega)).mono ?_⟩
      rintro e w' ⟨ro, rc, rfl, h1, h2⟩
      exact ⟨_, rfl, ⟨fun e => absurd e (by decide), fun e => absurd e (by decide), fun e => absurd e (by decide), fun e => absurd e (by decide), fun e => absurd e (by decide), fun _ => ⟨ro, rc, rfl, h1⟩, fun e => absurd e (by decide), fun e => absurd e (by decide), fun e => absurd e (by decide)⟩, h2⟩
    · obtain rfl : _ = o := Option.some.inj (show some _ = some o from ho)
      have t110 : a.tmps[110]? = some (.int .i64 d.L) := hs.get 110 (by kernel_rfl) rfl
      obtain ⟨x120, t120, f120⟩ := (hdep 13 (by kernel_rfl) (by kernel_rfl)).at 120 (by kernel_rfl)
      replace f120 := f120.2.1 rfl
      obtain ⟨x130, t130, f130⟩ := (hdep 23 (by kernel_rfl) (by kernel_rfl)).at 130 (by kernel_rfl)
      replace f130 := f130.2.2.2.1 rfl
      obtain ⟨x141, t141, f141⟩ := (hdep 34 (by kernel_rfl) (by kernel_rfl)).at 141 (by kernel_rfl)
      replace f141 := f141.2.2.2.2.2.1 rfl
      obtain ⟨k1, k2, rfl, h1⟩ := f120
      obtain ⟨v1, v2, rfl, h2⟩ := f130
      obtain ⟨n1, n2, rfl, h3⟩ := f141
      exact .inl ⟨.agg #[.int .i64 d.L, .slice k1 (i + 1 + (d.ks.length - i)) k2, .slice v1 (i + 1 + (d.vs.length - i)) v2, .slice n1 (i + 2 + (d.cs.length - (i + 1))) n2], w, by go_simp, ⟨fun e => absurd e (by decide), fun e => absurd e (by decide), fun e => absurd e (by decide), fun e => absurd e (by decide), fun e => absurd e (by decide), fun e => absurd e (by decide), fun _ => ⟨k1, k2, v1, v2, n1, n2, rfl, h1, h2, h3⟩, fun e => absurd e (by decide), fun e => absurd e (by decide)⟩, Below.refl _ _⟩
    · obtain rfl : _ = o := Option.some.inj (show some _ = some o from ho)
      obtain ⟨x142, t142, f142⟩ := (hdep 35 (by kernel_rfl) (by kernel_rfl)).at 142 (by kernel_rfl)
      replace f142 := f142.2.2.2.2.2.2.1 rfl
      obtain ⟨k1, k2, v1, v2, n1, n2, rfl, h1, h2, h3⟩ := f142
      have E1 := eE0.trans (hb.mono eE0.size)
      have hA2 : Below w.heap.size w (w.alloc (.cells #[.int .i64 d.L, .slice k1 (i + 1 + (d.ks.length - i)) k2, .slice v1 (i + 1 + (d.vs.length - i)) v2, .slice n1 (i + 2 + (d.cs.length - (i + 1))) n2] 119)) := (Below.refl _ _).alloc (Nat.le_refl _) _
      refine .inl ⟨_, _, by go_simp, ⟨fun e => absurd e (by decide), fun e => absurd e (by decide), fun e => absurd e (by decide), fun e => absurd e (by decide), fun e => absurd e (by decide), fun e => absurd e (by decide), fun e => absurd e (by decide), fun _ => TF _ (E1.trans (hA2.mono E1.size)) _ _ _ _ _ _ _ (heap_alloc_new w _) (h1.below hA2) (h2.below hA2) (h3.below hA2), fun e => absurd e (by decide)⟩, hA2⟩
    · obtain rfl : _ = o := Option.some.inj (show some _ = some o from ho)
      obtain ⟨x143, t143, f143⟩ := (hdep 36 (by kernel_rfl) (by kernel_rfl)).at 143 (by kernel_rfl)
      replace f143 := f143.2.2.2.2.2.2.2.1 rfl
      exact .inl ⟨x143, w, by go_simp, ⟨fun e => absurd e (by decide), fun e => absurd e (by decide), fun e => absurd e (by decide), fun e => absurd e (by decide), fun e => absurd e (by decide), fun e => absurd e (by decide), fun e => absurd e (by decide), fun e => absurd e (by decide), fun _ => f143⟩, Below.refl _ _⟩
  · intro za zw hs hb hh
    obtain ⟨x4, t4, f4⟩ := (hh 37 (by simp)).at 4 (by kernel_rfl); replace f4 := f4.2.2.2.2.2.2.2.2 rfl
    have E1 := Bc.trans ((eE0.trans (hb.mono eE0.size)).mono Bc.size)
    have hde : za.defers = [] := hs.defers
    go_wp2
    refine bodyPost_ret (v := x4) (by rw [results_tmp rfl]; simp [t4]) hde ?_
    exact ⟨_, rfl, f4, E1⟩
end Go.Proofs.YtnicnfjickknjaaGreatDoor

namespace Go.Proofs.YtnicnfjickknjaaGreatDoor
open Go.RowKit

theorem leafNB (xo yo : Option Addr) (xn xc yn yc : Nat) (w : World) (p1 p2 : Option Addr) (n : Nat) : Below w.heap.size w ((((w.alloc (.cells #[.slice xo xn xc] 25)).alloc (.cells #[.slice yo yn yc] 25)).alloc (.cells #[.pointer p1, .pointer p2] 85)).alloc (.cells #[.int .i64 (n), .slice (some ⟨w.heap.size, 0, none⟩) 1 1, .slice (some ⟨w.heap.size + 1, 0, none⟩) 1 1, .slice (some ⟨w.heap.size + 2, 0, none⟩) 2 2] 119)) :=
  (((((Below.refl _ w).alloc (Nat.le_refl _) _).alloc (by simp) _).alloc (by simp; omega) _).alloc (by simp; omega) _)
theorem leafN (x : It) (xo yo : Option Addr) (xn xc yn yc : Nat) (l : List It) (w : World) (p1 p2 : Option Addr) (hx : Sl w xo xn xc x.k) (hy : Sl w yo yn yc x.v) (h1 : T w (.pointer p1) (lo x.k l)) (h2 : T w (.pointer p2) (hi x.k l)) (hlow : ∀ y ∈ l, lev y.k < lev x.k) :
    T ((((w.alloc (.cells #[.slice xo xn xc] 25)).alloc (.cells #[.slice yo yn yc] 25)).alloc (.cells #[.pointer p1, .pointer p2] 85)).alloc (.cells #[.int .i64 (lev x.k), .slice (some ⟨w.heap.size, 0, none⟩) 1 1, .slice (some ⟨w.heap.size + 1, 0, none⟩) 1 1, .slice (some ⟨w.heap.size + 2, 0, none⟩) 2 2] 119)) (.pointer (some ⟨w.heap.size + 3, 0, none⟩)) (ins l x) := by
  have BB := leafNB xo yo xn xc yn yc w p1 p2 (lev x.k)
  have b1 : Below w.heap.size w (w.alloc (.cells #[.slice xo xn xc] 25)) := (Below.refl _ w).alloc (Nat.le_refl _) _
  have v1 := VL.new w [.slice xo xn xc] 25 (by simp [maxLen])
  have b2 : Below (w.alloc (.cells #[.slice xo xn xc] 25)).heap.size (w.alloc (.cells #[.slice xo xn xc] 25)) ((w.alloc (.cells #[.slice xo xn xc] 25)).alloc (.cells #[.slice yo yn yc] 25)) := (Below.refl _ _).alloc (Nat.le_refl _) _
  have v2 := VL.new (w.alloc (.cells #[.slice xo xn xc] 25)) [.slice yo yn yc] 25 (by simp [maxLen])
  have b3 : Below ((w.alloc (.cells #[.slice xo xn xc] 25)).alloc (.cells #[.slice yo yn yc] 25)).heap.size ((w.alloc (.cells #[.slice xo xn xc] 25)).alloc (.cells #[.slice yo yn yc] 25)) (((w.alloc (.cells #[.slice xo xn xc] 25)).alloc (.cells #[.slice yo yn yc] 25)).alloc (.cells #[.pointer p1, .pointer p2] 85)) := (Below.refl _ _).alloc (Nat.le_refl _) _
  have v3 := VL.new ((w.alloc (.cells #[.slice xo xn xc] 25)).alloc (.cells #[.slice yo yn yc] 25)) [.pointer p1, .pointer p2] 85 (by simp [maxLen])
  have b4 : Below (((w.alloc (.cells #[.slice xo xn xc] 25)).alloc (.cells #[.slice yo yn yc] 25)).alloc (.cells #[.pointer p1, .pointer p2] 85)).heap.size (((w.alloc (.cells #[.slice xo xn xc] 25)).alloc (.cells #[.slice yo yn yc] 25)).alloc (.cells #[.pointer p1, .pointer p2] 85)) ((((w.alloc (.cells #[.slice xo xn xc] 25)).alloc (.cells #[.slice yo yn yc] 25)).alloc (.cells #[.pointer p1, .pointer p2] 85)).alloc (.cells #[.int .i64 (lev x.k), .slice (some ⟨w.heap.size, 0, none⟩) 1 1, .slice (some ⟨w.heap.size + 1, 0, none⟩) 1 1, .slice (some ⟨w.heap.size + 2, 0, none⟩) 2 2] 119)) := (Below.refl _ _).alloc (Nat.le_refl _) _
  have hg : ((((w.alloc (.cells #[.slice xo xn xc] 25)).alloc (.cells #[.slice yo yn yc] 25)).alloc (.cells #[.pointer p1, .pointer p2] 85)).alloc (.cells #[.int .i64 (lev x.k), .slice (some ⟨w.heap.size, 0, none⟩) 1 1, .slice (some ⟨w.heap.size + 1, 0, none⟩) 1 1, .slice (some ⟨w.heap.size + 2, 0, none⟩) 2 2] 119)).heap[w.heap.size + 3]? = some (.cells #[.int .i64 (lev x.k), .slice (some ⟨w.heap.size, 0, none⟩) 1 1, .slice (some ⟨w.heap.size + 1, 0, none⟩) 1 1, .slice (some ⟨w.heap.size + 2, 0, none⟩) 2 2] 119) := by
    have := heap_alloc_new (((w.alloc (.cells #[.slice xo xn xc] 25)).alloc (.cells #[.slice yo yn yc] 25)).alloc (.cells #[.pointer p1, .pointer p2] 85)) (.cells #[.int .i64 (lev x.k), .slice (some ⟨w.heap.size, 0, none⟩) 1 1, .slice (some ⟨w.heap.size + 1, 0, none⟩) 1 1, .slice (some ⟨w.heap.size + 2, 0, none⟩) 2 2] 119)
    simpa using this
  have s1 := (v1.below b2).below b3
  have s2 := v2.below b3
  simp only [World.size_alloc, List.length_cons, List.length_nil, Nat.zero_add] at s1 s2 v3
  refine T.make hg (KL.of (ps := [(⟨xo, xn, xc, x.k⟩ : Part)]) (s1.below b4) rfl ?_) (KL.of (ps := [(⟨yo, yn, yc, x.v⟩ : Part)]) (s2.below b4) rfl ?_) (v3.below b4) (Shp.single (x := x) rfl (fun y hy => hlow y (mem_lo.1 hy).1) (fun y hy => hlow y (mem_hi.1 hy).1)) rfl rfl (Kids.cons (h1.below BB) (Kids.one (h2.below BB)))
  · intro q hq
    rw [List.mem_singleton.1 hq]
    exact hx.below BB
  · intro q hq
    rw [List.mem_singleton.1 hq]
    exact hy.below BB

set_option maxHeartbeats 4000000 in
set_option maxRecDepth 100000 in
theorem withO_any (w : World) (x : It) (xo yo : Option Addr) (xn xc yn yc : Nat) (hx : Sl w xo xn xc x.k) (hy : Sl w yo yn yc x.v) :
    Calls Tryz.prog 124 #[.pointer none, .agg #[.int .i64 (lev x.k), .slice xo xn xc, .slice yo yn yc]] w (RetT w (ins [] x)) := by
  obtain ⟨l, hl⟩ : ∃ l : List It, l = [] := ⟨_, rfl⟩
  have hT : T w (.pointer none) l := by rw [hl]; exact T.nil w
  have hs : Srt l := by rw [hl]; exact List.Pairwise.nil
  have hlow : ∀ y ∈ l, lev y.k < lev x.k := by rw [hl]; simp
  have hk : ¬ has x.k l := by rw [hl]; rintro ⟨y, hy, -⟩; simp at hy
  have hn : l.length ≤ 100000 := by rw [hl]; simp
  rw [← hl]
  clear hl
  go_enter Tryz.func124, Tryz.ntmps124
  go_wp2_with fail
  obtain ⟨w0, hw0⟩ : ∃ V, V = (w.alloc (.cells #[.int .i64 (lev x.k), .slice xo xn xc, .slice yo yn yc] 160)) := ⟨_, rfl⟩
  have L0 : Lf w0 w.heap.size (lev x.k) (.slice xo xn xc) (.slice yo yn yc) := by rw [hw0]; exact Lf.new ..
  have B0 : Below w.heap.size w w0 := by rw [hw0]; exact (Below.refl _ w).alloc (Nat.le_refl _) _
  rw [← hw0]
  obtain ⟨g, hg⟩ : ∃ g, g = w.heap.size := ⟨_, rfl⟩
  rw [← hg] at L0 ⊢
  clear hw0 hg
  have aHS : Hid (∀ V, Below w0.heap.size w0 V → V.cell? ⟨g, 0, none⟩ = some (.int .i64 (lev x.k)) ∧ V.cell? ⟨g, 1, none⟩ = some (.slice xo xn xc) ∧ V.cell? ⟨g, 2, none⟩ = some (.slice yo yn yc)) := fun V hV => ⟨(L0.below hV).c0, (L0.below hV).c1, (L0.below hV).c2⟩
  have aE0 : Below w0.heap.size w0 w0.drew := (Below.refl _ _).drew
  refine wp_region_noPanic ?_
  refine wp_region_held_drew (S := fun V => V.cell? ⟨g, 0, none⟩ = some (.int .i64 (lev x.k)) ∧ V.cell? ⟨g, 1, none⟩ = some (.slice xo xn xc) ∧ V.cell? ⟨g, 2, none⟩ = some (.slice yo yn yc)) (by kernel_rfl) (aHS.out _ aE0) (fun aH0 => ?_)
  obtain ⟨av0, hv0⟩ : ∃ v, v = w0.drew := ⟨_, rfl⟩
  rw [← hv0] at aH0 aE0 ⊢
  clear hv0
  refine hr_take_w 0 (some 11) (.pointer none) rfl rfl (by kernel_rfl) (by kernel_rfl) (by kernel_rfl) rfl (fun W hW => by obtain ⟨h0, h1, h2⟩ := hW; go_simp) aH0 ?_
  simp only [Act.put, List.setIfInBounds_toArray, List.set_cons_zero, List.set_cons_succ]
  refine hr_take_w 1 (some 12) (.bool true) rfl rfl (by kernel_rfl) (by kernel_rfl) (by kernel_rfl) rfl (fun W hW => by obtain ⟨h0, h1, h2⟩ := hW; go_simp) aH0 ?_
  simp only [Act.put, List.setIfInBounds_toArray, List.set_cons_zero, List.set_cons_succ]
  refine hr_take_w 2 (some 13) (.bool true) rfl rfl (by kernel_rfl) (by kernel_rfl) (by kernel_rfl) rfl (fun W hW => by obtain ⟨h0, h1, h2⟩ := hW; go_simp) aH0 ?_
  simp only [Act.put, List.setIfInBounds_toArray, List.set_cons_zero, List.set_cons_succ]
  refine hr_none 3 (some 14) rfl rfl (by kernel_rfl) (by kernel_rfl) (by kernel_rfl) rfl aH0 ?_
  simp only [Act.put, List.setIfInBounds_toArray, List.set_cons_zero, List.set_cons_succ]
  refine hr_none 4 (some 15) rfl rfl (by kernel_rfl) (by kernel_rfl) (by kernel_rfl) rfl aH0 ?_
  simp only [Act.put, List.setIfInBounds_toArray, List.set_cons_zero, List.set_cons_succ]
  refine hr_none 5 (some 16) rfl rfl (by kernel_rfl) (by kernel_rfl) (by kernel_rfl) rfl aH0 ?_
  simp only [Act.put, List.setIfInBounds_toArray, List.set_cons_zero, List.set_cons_succ]
  refine hr_none 6 (some 17) rfl rfl (by kernel_rfl) (by kernel_rfl) (by kernel_rfl) rfl aH0 ?_
  simp only [Act.put, List.setIfInBounds_toArray, List.set_cons_zero, List.set_cons_succ]
  refine hr_none 7 (some 18) rfl rfl (by kernel_rfl) (by kernel_rfl) (by kernel_rfl) rfl aH0 ?_
  simp only [Act.put, List.setIfInBounds_toArray, List.set_cons_zero, List.set_cons_succ]
  refine hr_none 8 (some 19) rfl rfl (by kernel_rfl) (by kernel_rfl) (by kernel_rfl) rfl aH0 ?_
  simp only [Act.put, List.setIfInBounds_toArray, List.set_cons_zero, List.set_cons_succ]
  refine hr_none 9 (some 20) rfl rfl (by kernel_rfl) (by kernel_rfl) (by kernel_rfl) rfl aH0 ?_
  simp only [Act.put, List.setIfInBounds_toArray, List.set_cons_zero, List.set_cons_succ]
  refine hr_take_w 10 (some 21) (.bool true) rfl rfl (by kernel_rfl) (by kernel_rfl) (by kernel_rfl) rfl (fun W hW => by obtain ⟨h0, h1, h2⟩ := hW; go_simp) aH0 ?_
  simp only [Act.put, List.setIfInBounds_toArray, List.set_cons_zero, List.set_cons_succ]
  refine wpAnyH_done (by kernel_rfl) ?_ _
  refine NoPanic.normal ?_
  have Ba : Below w.heap.size w av0 := B0.trans (aE0.mono B0.size)
  have La := L0.below aE0
  have lc0 := La.c0
  have lc1 := La.c1
  have lc2 := La.c2
  have CC := cut_fuel l.length av0 (.pointer none) l xo xn xc x.k (Nat.le_refl _) (hT.below Ba) hs hk (hx.below Ba) hn
  go_wp2_with fail
  refine CC.mono ?_
  rintro e w1 ⟨u1, u2, rfl, T1, T2, B1'⟩
  have B1 : Below w.heap.size w w1 := Ba.trans (B1'.mono Ba.size)
  have L1 := La.below B1'
  have lc0 := L1.c0
  have lc1 := L1.c1
  have lc2 := (L1.below ((Below.refl _ w1).alloc (Nat.le_refl _) (.cells #[.slice xo xn xc] 25))).c2
  obtain ⟨p1, rfl⟩ := T1.ptr
  obtain ⟨p2, rfl⟩ := T2.ptr
  have TT := leafN x xo yo xn xc yn yc l w1 p1 p2 (hx.below B1) (hy.below B1) T1 T2 hlow
  have BB := leafNB xo yo xn xc yn yc w1 p1 p2 (lev x.k)
  clear CC T1 T2 B1' hT
  go_wp2
  go_ret
  exact ⟨_, rfl, TT, B1.trans (BB.mono B1.size)⟩

set_option maxHeartbeats 4000000 in
set_option maxRecDepth 100000 in
theorem withN_any (w : World) (x : It) (xo yo : Option Addr) (xn xc yn yc : Nat) (hx : Sl w xo xn xc x.k) (hy : Sl w yo yn yc x.v) (l : List It) (d : Nd) (segs : List (List It)) (xs : List It) (h : Nod w l d segs xs) (hs : Srt l) (hn : l.length ≤ 100000) (hL : d.L < lev x.k) :
    Calls Tryz.prog 124 #[d.ptr, .agg #[.int .i64 (lev x.k), .slice xo xn xc, .slice yo yn yc]] w (RetT w (ins l x)) := by
  have hT := T.of h
  have hlow : ∀ y ∈ l, lev y.k < lev x.k := fun y hy => by
    have := h.shp.le y hy
    omega
  have hk : ¬ has x.k l := fun ⟨y, hy, e⟩ => by
    have := hlow y hy
    rw [e] at this
    omega
  unfold Nd.ptr at hT ⊢
  go_enter Tryz.func124, Tryz.ntmps124
  go_wp2_with fail
  obtain ⟨w0, hw0⟩ : ∃ V, V = (w.alloc (.cells #[.int .i64 (lev x.k), .slice xo xn xc, .slice yo yn yc] 160)) := ⟨_, rfl⟩
  have L0 : Lf w0 w.heap.size (lev x.k) (.slice xo xn xc) (.slice yo yn yc) := by rw [hw0]; exact Lf.new ..
  have B0 : Below w.heap.size w w0 := by rw [hw0]; exact (Below.refl _ w).alloc (Nat.le_refl _) _
  rw [← hw0]
  obtain ⟨g, hg⟩ : ∃ g, g = w.heap.size := ⟨_, rfl⟩
  rw [← hg] at L0 ⊢
  clear hw0 hg
  have N0 := h.below B0
  have aHS : Hid (∀ V, Below w0.heap.size w0 V → V.cell? ⟨d.b, 0, none⟩ = some (.int .i64 d.L) ∧ V.cell? ⟨d.b, 1, none⟩ = some (.slice d.ko d.ks.length d.kc) ∧ V.cell? ⟨d.b, 2, none⟩ = some (.slice d.vo d.vs.length d.vc) ∧ V.cell? ⟨d.b, 3, none⟩ = some (.slice d.co d.cs.length d.cc) ∧ V.cell? ⟨g, 0, none⟩ = some (.int .i64 (lev x.k)) ∧ V.cell? ⟨g, 1, none⟩ = some (.slice xo xn xc) ∧ V.cell? ⟨g, 2, none⟩ = some (.slice yo yn yc)) := fun V hV => ⟨(N0.ok.below hV).c0, (N0.ok.below hV).c1, (N0.ok.below hV).c2, (N0.ok.below hV).c3, (L0.below hV).c0, (L0.below hV).c1, (L0.below hV).c2⟩
  have aE0 : Below w0.heap.size w0 w0.drew := (Below.refl _ _).drew
  refine wp_region_noPanic ?_
  refine wp_region_held_drew (S := fun V => V.cell? ⟨d.b, 0, none⟩ = some (.int .i64 d.L) ∧ V.cell? ⟨d.b, 1, none⟩ = some (.slice d.ko d.ks.length d.kc) ∧ V.cell? ⟨d.b, 2, none⟩ = some (.slice d.vo d.vs.length d.vc) ∧ V.cell? ⟨d.b, 3, none⟩ = some (.slice d.co d.cs.length d.cc) ∧ V.cell? ⟨g, 0, none⟩ = some (.int .i64 (lev x.k)) ∧ V.cell? ⟨g, 1, none⟩ = some (.slice xo xn xc) ∧ V.cell? ⟨g, 2, none⟩ = some (.slice yo yn yc)) (by kernel_rfl) (aHS.out _ aE0) (fun aH0 => ?_)
  obtain ⟨av0, hv0⟩ : ∃ v, v = w0.drew := ⟨_, rfl⟩
  rw [← hv0] at aH0 aE0 ⊢
  clear hv0
  refine hr_take_w 0 (some 11) (.pointer (some ⟨d.b, 0, none⟩)) rfl rfl (by kernel_rfl) (by kernel_rfl) (by kernel_rfl) rfl (fun W hW => by obtain ⟨h0, h1, h2, h3, h4, h5, h6⟩ := hW; go_simp) aH0 ?_
  simp only [Act.put, List.setIfInBounds_toArray, List.set_cons_zero, List.set_cons_succ]
  refine hr_take_w 1 (some 12) (.bool false) rfl rfl (by kernel_rfl) (by kernel_rfl) (by kernel_rfl) rfl (fun W hW => by obtain ⟨h0, h1, h2, h3, h4, h5, h6⟩ := hW; go_simp) aH0 ?_
  simp only [Act.put, List.setIfInBounds_toArray, List.set_cons_zero, List.set_cons_succ]
  refine hr_take_w 2 (some 13) (.bool false) rfl rfl (by kernel_rfl) (by kernel_rfl) (by kernel_rfl) rfl (fun W hW => by obtain ⟨h0, h1, h2, h3, h4, h5, h6⟩ := hW; go_simp) aH0 ?_
  simp only [Act.put, List.setIfInBounds_toArray, List.set_cons_zero, List.set_cons_succ]
  refine hr_take_w 3 (some 14) (.pointer (some ⟨d.b, 0, none⟩)) rfl rfl (by kernel_rfl) (by kernel_rfl) (by kernel_rfl) rfl (fun W hW => by obtain ⟨h0, h1, h2, h3, h4, h5, h6⟩ := hW; go_simp) aH0 ?_
  simp only [Act.put, List.setIfInBounds_toArray, List.set_cons_zero, List.set_cons_succ]
  refine hr_take_w 4 (some 15) (.pointer (some ⟨d.b, 0, none⟩)) rfl rfl (by kernel_rfl) (by kernel_rfl) (by kernel_rfl) rfl (fun W hW => by obtain ⟨h0, h1, h2, h3, h4, h5, h6⟩ := hW; go_simp) aH0 ?_
  simp only [Act.put, List.setIfInBounds_toArray, List.set_cons_zero, List.set_cons_succ]
  refine hr_take_w 5 (some 16) (.pointer (some ⟨d.b, 0, none⟩)) rfl rfl (by kernel_rfl) (by kernel_rfl) (by kernel_rfl) rfl (fun W hW => by obtain ⟨h0, h1, h2, h3, h4, h5, h6⟩ := hW; go_simp) aH0 ?_
  simp only [Act.put, List.setIfInBounds_toArray, List.set_cons_zero, List.set_cons_succ]
  refine hr_take_w 6 (some 17) (.int .i64 d.L) rfl rfl (by kernel_rfl) (by kernel_rfl) (by kernel_rfl) rfl (fun W hW => by obtain ⟨h0, h1, h2, h3, h4, h5, h6⟩ := hW; go_simp) aH0 ?_
  simp only [Act.put, List.setIfInBounds_toArray, List.set_cons_zero, List.set_cons_succ]
  refine hr_take_w 7 (some 18) (.pointer (some ⟨g, 0, none⟩)) rfl rfl (by kernel_rfl) (by kernel_rfl) (by kernel_rfl) rfl (fun W hW => by obtain ⟨h0, h1, h2, h3, h4, h5, h6⟩ := hW; go_simp) aH0 ?_
  simp only [Act.put, List.setIfInBounds_toArray, List.set_cons_zero, List.set_cons_succ]
  refine hr_take_w 8 (some 19) (.int .i64 (lev x.k)) rfl rfl (by kernel_rfl) (by kernel_rfl) (by kernel_rfl) rfl (fun W hW => by obtain ⟨h0, h1, h2, h3, h4, h5, h6⟩ := hW; go_simp) aH0 ?_
  simp only [Act.put, List.setIfInBounds_toArray, List.set_cons_zero, List.set_cons_succ]
  refine hr_take_w 9 (some 20) (.bool true) rfl rfl (by kernel_rfl) (by kernel_rfl) (by kernel_rfl) rfl (fun W hW => by obtain ⟨h0, h1, h2, h3, h4, h5, h6⟩ := hW; go_simp) aH0 ?_
  simp only [Act.put, List.setIfInBounds_toArray, List.set_cons_zero, List.set_cons_succ]
  refine hr_take_w 10 (some 21) (.bool true) rfl rfl (by kernel_rfl) (by kernel_rfl) (by kernel_rfl) rfl (fun W hW => by obtain ⟨h0, h1, h2, h3, h4, h5, h6⟩ := hW; go_simp) aH0 ?_
  simp only [Act.put, List.setIfInBounds_toArray, List.set_cons_zero, List.set_cons_succ]
  refine wpAnyH_done (by kernel_rfl) ?_ _
  refine NoPanic.normal ?_
  have Ba : Below w.heap.size w av0 := B0.trans (aE0.mono B0.size)
  have La := L0.below aE0
  have lc0 := La.c0
  have lc1 := La.c1
  have lc2 := La.c2
  have CC := cut_fuel l.length av0 (.pointer (some ⟨d.b, 0, none⟩)) l xo xn xc x.k (Nat.le_refl _) (hT.below Ba) hs hk (hx.below Ba) hn
  go_wp2_with fail
  refine CC.mono ?_
  rintro e w1 ⟨u1, u2, rfl, T1, T2, B1'⟩
  have B1 : Below w.heap.size w w1 := Ba.trans (B1'.mono Ba.size)
  have L1 := La.below B1'
  have lc0 := L1.c0
  have lc1 := L1.c1
  have lc2 := (L1.below ((Below.refl _ w1).alloc (Nat.le_refl _) (.cells #[.slice xo xn xc] 25))).c2
  obtain ⟨p1, rfl⟩ := T1.ptr
  obtain ⟨p2, rfl⟩ := T2.ptr
  have TT := leafN x xo yo xn xc yn yc l w1 p1 p2 (hx.below B1) (hy.below B1) T1 T2 hlow
  have BB := leafNB xo yo xn xc yn yc w1 p1 p2 (lev x.k)
  clear CC T1 T2 B1' hT
  go_wp2
  go_ret
  exact ⟨_, rfl, TT, B1.trans (BB.mono B1.size)⟩
end Go.Proofs.YtnicnfjickknjaaGreatDoor

namespace Go.Proofs.YtnicnfjickknjaaGreatDoor
open Go.RowKit

theorem with_fuel : ∀ (N : Nat) (l : List It) (w : World) (v : Value) (x : It) (xo yo : Option Addr) (xn xc yn yc : Nat), l.length ≤ N → Sl w xo xn xc x.k → Sl w yo yn yc x.v → T w v l → Srt l → l.length ≤ 100000 →
    Calls Tryz.prog 124 #[v, .agg #[.int .i64 (lev x.k), .slice xo xn xc, .slice yo yn yc]] w (RetT w (ins l x)) := by
  intro N
  induction N with
  | zero =>
    intro l w v x xo yo xn xc yn yc hN hx hy hT hs hn
    rcases hT.is with ⟨rfl, rfl⟩ | ⟨d, segs, xs, rfl, h⟩
    · exact withO_any w x xo yo xn xc yn yc hx hy
    · have h1 := h.shp.pos
      have h2 := h.many
      omega
  | succ N ih =>
    intro l w v x xo yo xn xc yn yc hN hx hy hT hs hn
    rcases hT.is with ⟨rfl, rfl⟩ | ⟨d, segs, xs, rfl, h⟩
    · exact withO_any w x xo yo xn xc yn yc hx hy
    · rcases Nat.lt_trichotomy d.L (lev x.k) with hL | hL | hL
      · exact withN_any w x xo yo xn xc yn yc hx hy l d segs xs h hs hn hL
      · by_cases hk : has x.k l
        · obtain ⟨y, hy1, hy2⟩ := hk
          have hyx : y ∈ xs := by
            rw [h.shp.eq] at hy1
            rcases mem_weave _ _ _ hy1 with h1 | ⟨s, hs1, h1⟩
            · exact h1
            · have := h.shp.low s hs1 y h1
              rw [hy2] at this
              omega
          exact withV_any w x xo yo xn xc yn yc hx hy l d segs xs h hs hn hL ⟨y, hyx, hy2⟩
        · exact withM_any w x xo yo xn xc yn yc hx hy l d segs xs h hs hn hL hk
      · exact withK_any w x xo yo xn xc yn yc hx l d segs xs h hs hn hL (fun V u s hlt hV hu hss => ih s V u x xo yo xn xc yn yc (by omega) (hx.below hV) (hy.below hV) hu hss (by omega))
/-- tree.with, of whatever tree. -/
theorem with_any (w : World) (v : Value) (l : List It) (x : It) (xo yo : Option Addr) (xn xc yn yc : Nat) (hx : Sl w xo xn xc x.k) (hy : Sl w yo yn yc x.v) (hT : T w v l) (hs : Srt l) (hn : l.length ≤ 100000) :
    Calls Tryz.prog 124 #[v, .agg #[.int .i64 (lev x.k), .slice xo xn xc, .slice yo yn yc]] w (RetT w (ins l x)) := with_fuel l.length l w v x xo yo xn xc yn yc (Nat.le_refl _) hx hy hT hs hn
end Go.Proofs.YtnicnfjickknjaaGreatDoor

namespace Go.Proofs.YtnicnfjickknjaaGreatDoor
open Go.RowKit

set_option maxHeartbeats 4000000 in
set_option maxRecDepth 100000 in
theorem join_fuel : ∀ (N : Nat) (w : World) (v1 v2 : Value) (l1 l2 : List It), l1.length + l2.length ≤ N → T w v1 l1 → T w v2 l2 → l1.length + l2.length ≤ 100000 →
    Calls Tryz.prog 138 #[v1, v2] w (RetT w (l1 ++ l2)) := by
  intro N
  induction N with
  | zero =>
    intro w v1 v2 l1 l2 hN h1 h2 hn
    obtain rfl : l1 = [] := List.eq_nil_of_length_eq_zero (by omega)
    obtain rfl : l2 = [] := List.eq_nil_of_length_eq_zero (by omega)
    rcases h1.is with ⟨-, rfl⟩ | ⟨d, segs, xs, rfl, hNd⟩
    · obtain ⟨p, rfl⟩ := h2.ptr
      go_enter Tryz.func138, Tryz.ntmps138
      go_wp2
      go_ret
      exact ⟨_, rfl, h2, Below.refl _ _⟩
    · have h0 := hNd.shp.pos
      have := hNd.shp.key xs[0] (List.getElem_mem h0)
      simp at this
  | succ N ih =>
    intro w v1 v2 l1 l2 hN h1 h2 hn
    rcases h1.is with ⟨rfl, rfl⟩ | ⟨d, segs, xs, rfl, h⟩
    · obtain ⟨p, rfl⟩ := h2.ptr
      go_enter Tryz.func138, Tryz.ntmps138
      go_wp2
      go_ret
      exact ⟨_, rfl, h2, Below.refl _ _⟩
    rcases h2.is with ⟨rfl, rfl⟩ | ⟨f, fegs, ys, rfl, k⟩
    · unfold Nd.ptr at h1 ⊢
      go_enter Tryz.func138, Tryz.ntmps138
      go_wp2
      go_ret
      rw [List.append_nil]
      exact ⟨_, rfl, h1, Below.refl _ _⟩
    have hm := h.many
    have hnk1 := Nat.le_of_eq h.nk
    have hnk2 := Nat.le_of_eq h.nk.symm
    have hnv1 := Nat.le_of_eq h.nv
    have hnv2 := Nat.le_of_eq h.nv.symm
    have hnc1 := Nat.le_of_eq h.nc
    have hnc2 := Nat.le_of_eq h.nc.symm
    have km := k.many
    have knk1 := Nat.le_of_eq k.nk
    have knk2 := Nat.le_of_eq k.nk.symm
    have knv1 := Nat.le_of_eq k.nv
    have knv2 := Nat.le_of_eq k.nv.symm
    have knc1 := Nat.le_of_eq k.nc
    have knc2 := Nat.le_of_eq k.nc.symm
    have hpos := h.shp.pos
    have kpos := k.shp.pos
    have hT1 := h1
    unfold Nd.ptr at h1 h2 ⊢
    by_cases hlt : d.L < f.L
    · have hlt' : (d.L : Int) < (f.L : Int) := by omega
      obtain ⟨s, A, B, c⟩ := k.shp.cut 0 (Nat.zero_le _)
      have hA : Hid (A = []) := by show _ = _; rw [c.eA]; rfl
      go_enter Tryz.func138, Tryz.ntmps138
      go_wp2_with fail
      have aHS : Hid (∀ V, Below w.heap.size w V → V.cell? ⟨d.b, 0, none⟩ = some (.int .i64 d.L) ∧ V.cell? ⟨f.b, 0, none⟩ = some (.int .i64 f.L)) := fun V hV => ⟨(h.ok.below hV).c0, (k.ok.below hV).c0⟩
      have aE0 : Below w.heap.size w w.drew := (Below.refl _ _).drew
      refine wp_region_noPanic ?_
      refine wp_region_held_drew (S := fun V => V.cell? ⟨d.b, 0, none⟩ = some (.int .i64 d.L) ∧ V.cell? ⟨f.b, 0, none⟩ = some (.int .i64 f.L)) (by kernel_rfl) (aHS.out _ aE0) (fun aH0 => ?_)
      obtain ⟨av0, hv0⟩ : ∃ v, v = w.drew := ⟨_, rfl⟩
      rw [← hv0] at aH0 aE0 ⊢
      clear hv0
      refine hr_take_w 0 (some 16) (.pointer (some ⟨d.b, 0, none⟩)) rfl rfl (by kernel_rfl) (by kernel_rfl) (by kernel_rfl) rfl (fun W hW => by obtain ⟨h0, h1⟩ := hW; go_simp) aH0 ?_
      simp only [Act.put, List.setIfInBounds_toArray, List.set_cons_zero, List.set_cons_succ]
      refine hr_take_w 1 (some 17) (.pointer (some ⟨d.b, 0, none⟩)) rfl rfl (by kernel_rfl) (by kernel_rfl) (by kernel_rfl) rfl (fun W hW => by obtain ⟨h0, h1⟩ := hW; go_simp) aH0 ?_
      simp only [Act.put, List.setIfInBounds_toArray, List.set_cons_zero, List.set_cons_succ]
      refine hr_take_w 2 (some 18) (.pointer (some ⟨d.b, 0, none⟩)) rfl rfl (by kernel_rfl) (by kernel_rfl) (by kernel_rfl) rfl (fun W hW => by obtain ⟨h0, h1⟩ := hW; go_simp) aH0 ?_
      simp only [Act.put, List.setIfInBounds_toArray, List.set_cons_zero, List.set_cons_succ]
      refine hr_take_w 3 (some 19) (.int .i64 d.L) rfl rfl (by kernel_rfl) (by kernel_rfl) (by kernel_rfl) rfl (fun W hW => by obtain ⟨h0, h1⟩ := hW; go_simp) aH0 ?_
      simp only [Act.put, List.setIfInBounds_toArray, List.set_cons_zero, List.set_cons_succ]
      refine hr_take_w 4 (some 20) (.pointer (some ⟨f.b, 0, none⟩)) rfl rfl (by kernel_rfl) (by kernel_rfl) (by kernel_rfl) rfl (fun W hW => by obtain ⟨h0, h1⟩ := hW; go_simp) aH0 ?_
      simp only [Act.put, List.setIfInBounds_toArray, List.set_cons_zero, List.set_cons_succ]
      refine hr_take_w 5 (some 21) (.pointer (some ⟨f.b, 0, none⟩)) rfl rfl (by kernel_rfl) (by kernel_rfl) (by kernel_rfl) rfl (fun W hW => by obtain ⟨h0, h1⟩ := hW; go_simp) aH0 ?_
      simp only [Act.put, List.setIfInBounds_toArray, List.set_cons_zero, List.set_cons_succ]
      refine hr_take_w 6 (some 22) (.pointer (some ⟨f.b, 0, none⟩)) rfl rfl (by kernel_rfl) (by kernel_rfl) (by kernel_rfl) rfl (fun W hW => by obtain ⟨h0, h1⟩ := hW; go_simp) aH0 ?_
      simp only [Act.put, List.setIfInBounds_toArray, List.set_cons_zero, List.set_cons_succ]
      refine hr_take_w 7 (some 23) (.int .i64 f.L) rfl rfl (by kernel_rfl) (by kernel_rfl) (by kernel_rfl) rfl (fun W hW => by obtain ⟨h0, h1⟩ := hW; go_simp) aH0 ?_
      simp only [Act.put, List.setIfInBounds_toArray, List.set_cons_zero, List.set_cons_succ]
      refine hr_take_w 8 (some 24) (.bool true) rfl rfl (by kernel_rfl) (by kernel_rfl) (by kernel_rfl) rfl (fun W hW => by obtain ⟨h0, h1⟩ := hW; go_simp) aH0 ?_
      simp only [Act.put, List.setIfInBounds_toArray, List.set_cons_zero, List.set_cons_succ]
      refine hr_take_w 9 (some 15) (.bool true) rfl rfl (by kernel_rfl) (by kernel_rfl) (by kernel_rfl) rfl (fun W hW => by obtain ⟨h0, h1⟩ := hW; go_simp) aH0 ?_
      simp only [Act.put, List.setIfInBounds_toArray, List.set_cons_zero, List.set_cons_succ]
      refine wpAnyH_done (by kernel_rfl) ?_ _
      refine NoPanic.normal ?_
      have Na := h.below aE0
      have Ka := k.below aE0
      obtain ⟨kb, ko, s', u, eco, hs1, hs2, hcell, hTk, hlen⟩ := Ka.kidAt 0 (Nat.zero_le _)
      obtain rfl : s = s' := Option.some.inj (c.seg.symm.trans hs1)
      have c3 := Ka.ok.c3
      rw [eco] at c3
      have c0 : (0 : Int) < (f.cs.length : Int) := by omega
      have CI := ih av0 (.pointer (some ⟨d.b, 0, none⟩)) u l1 s (by omega) (h1.below aE0) hTk (by omega)
      rw [Nat.add_zero] at hcell
      clear eco hs1 hs2
      go_wp2_with fail
      refine CI.mono ?_
      rintro e w2 ⟨x, rfl, Tx, B2'⟩
      have B2 : Below w.heap.size w w2 := aE0.trans (B2'.mono aE0.size)
      have CW := withKid_any w2 l2 f fegs ys (k.below B2) 0 s A B (l1 ++ s) c x Tx (by
        intro y hy
        rcases List.mem_append.1 hy with hy | hy
        · have := h.shp.le y hy
          omega
        · exact c.ls y hy) (by omega)
      unfold Nd.ptr at CW
      clear CI c3 hcell hTk B2'
      go_wp2_with fail
      refine CW.mono ?_
      rintro e w3 ⟨z, rfl, Tz, B3'⟩
      have B3 : Below w.heap.size w w3 := B2.trans (B3'.mono B2.size)
      go_wp2
      go_ret
      refine ⟨_, rfl, ?_, B3⟩
      have e : l1 ++ l2 = A ++ ((l1 ++ s) ++ B) := by rw [c.el, hA.out]; simp
      rw [e]
      exact Tz
    have hlt' : ¬ (d.L : Int) < (f.L : Int) := by omega
    have c1 := h.ok.c1
    by_cases hgt : f.L < d.L
    · have hgt' : (f.L : Int) < (d.L : Int) := by omega
      obtain ⟨s, A, B, c⟩ := h.shp.cut d.ks.length (by omega)
      have hB : Hid (B = []) := by
        show _ = _
        have hd : xs.drop d.ks.length = [] := List.drop_eq_nil_of_le (by omega)
        rw [c.eB, hd]
        rfl
      go_enter Tryz.func138, Tryz.ntmps138
      go_wp2_with fail
      have aHS : Hid (∀ V, Below w.heap.size w V → V.cell? ⟨d.b, 0, none⟩ = some (.int .i64 d.L) ∧ V.cell? ⟨f.b, 0, none⟩ = some (.int .i64 f.L)) := fun V hV => ⟨(h.ok.below hV).c0, (k.ok.below hV).c0⟩
      have aE0 : Below w.heap.size w w.drew := (Below.refl _ _).drew
      refine wp_region_noPanic ?_
      refine wp_region_held_drew (S := fun V => V.cell? ⟨d.b, 0, none⟩ = some (.int .i64 d.L) ∧ V.cell? ⟨f.b, 0, none⟩ = some (.int .i64 f.L)) (by kernel_rfl) (aHS.out _ aE0) (fun aH0 => ?_)
      obtain ⟨av0, hv0⟩ : ∃ v, v = w.drew := ⟨_, rfl⟩
      rw [← hv0] at aH0 aE0 ⊢
      clear hv0
      refine hr_take_w 0 (some 16) (.pointer (some ⟨d.b, 0, none⟩)) rfl rfl (by kernel_rfl) (by kernel_rfl) (by kernel_rfl) rfl (fun W hW => by obtain ⟨h0, h1⟩ := hW; go_simp) aH0 ?_
      simp only [Act.put, List.setIfInBounds_toArray, List.set_cons_zero, List.set_cons_succ]
      refine hr_take_w 1 (some 17) (.pointer (some ⟨d.b, 0, none⟩)) rfl rfl (by kernel_rfl) (by kernel_rfl) (by kernel_rfl) rfl (fun W hW => by obtain ⟨h0, h1⟩ := hW; go_simp) aH0 ?_
      simp only [Act.put, List.setIfInBounds_toArray, List.set_cons_zero, List.set_cons_succ]
      refine hr_take_w 2 (some 18) (.pointer (some ⟨d.b, 0, none⟩)) rfl rfl (by kernel_rfl) (by kernel_rfl) (by kernel_rfl) rfl (fun W hW => by obtain ⟨h0, h1⟩ := hW; go_simp) aH0 ?_
      simp only [Act.put, List.setIfInBounds_toArray, List.set_cons_zero, List.set_cons_succ]
      refine hr_take_w 3 (some 19) (.int .i64 d.L) rfl rfl (by kernel_rfl) (by kernel_rfl) (by kernel_rfl) rfl (fun W hW => by obtain ⟨h0, h1⟩ := hW; go_simp) aH0 ?_
      simp only [Act.put, List.setIfInBounds_toArray, List.set_cons_zero, List.set_cons_succ]
      refine hr_take_w 4 (some 20) (.pointer (some ⟨f.b, 0, none⟩)) rfl rfl (by kernel_rfl) (by kernel_rfl) (by kernel_rfl) rfl (fun W hW => by obtain ⟨h0, h1⟩ := hW; go_simp) aH0 ?_
      simp only [Act.put, List.setIfInBounds_toArray, List.set_cons_zero, List.set_cons_succ]
      refine hr_take_w 5 (some 21) (.pointer (some ⟨f.b, 0, none⟩)) rfl rfl (by kernel_rfl) (by kernel_rfl) (by kernel_rfl) rfl (fun W hW => by obtain ⟨h0, h1⟩ := hW; go_simp) aH0 ?_
      simp only [Act.put, List.setIfInBounds_toArray, List.set_cons_zero, List.set_cons_succ]
      refine hr_take_w 6 (some 22) (.pointer (some ⟨f.b, 0, none⟩)) rfl rfl (by kernel_rfl) (by kernel_rfl) (by kernel_rfl) rfl (fun W hW => by obtain ⟨h0, h1⟩ := hW; go_simp) aH0 ?_
      simp only [Act.put, List.setIfInBounds_toArray, List.set_cons_zero, List.set_cons_succ]
      refine hr_take_w 7 (some 23) (.int .i64 f.L) rfl rfl (by kernel_rfl) (by kernel_rfl) (by kernel_rfl) rfl (fun W hW => by obtain ⟨h0, h1⟩ := hW; go_simp) aH0 ?_
      simp only [Act.put, List.setIfInBounds_toArray, List.set_cons_zero, List.set_cons_succ]
      refine hr_take_w 8 (some 24) (.bool false) rfl rfl (by kernel_rfl) (by kernel_rfl) (by kernel_rfl) rfl (fun W hW => by obtain ⟨h0, h1⟩ := hW; go_simp) aH0 ?_
      simp only [Act.put, List.setIfInBounds_toArray, List.set_cons_zero, List.set_cons_succ]
      refine hr_take_w 9 (some 15) (.bool false) rfl rfl (by kernel_rfl) (by kernel_rfl) (by kernel_rfl) rfl (fun W hW => by obtain ⟨h0, h1⟩ := hW; go_simp) aH0 ?_
      simp only [Act.put, List.setIfInBounds_toArray, List.set_cons_zero, List.set_cons_succ]
      refine wpAnyH_done (by kernel_rfl) ?_ _
      refine NoPanic.normal ?_
      have Na := h.below aE0
      have Ka := k.below aE0
      have c1 := Na.ok.c1
      go_wp2_with fail
      have bHS : Hid (∀ V, Below av0.heap.size av0 V → V.cell? ⟨d.b, 0, none⟩ = some (.int .i64 d.L) ∧ V.cell? ⟨f.b, 0, none⟩ = some (.int .i64 f.L)) := fun V hV => ⟨(Na.ok.below hV).c0, (Ka.ok.below hV).c0⟩
      have bE0 : Below av0.heap.size av0 av0.drew := (Below.refl _ _).drew
      refine wp_region_noPanic ?_
      refine wp_region_held_drew (S := fun V => V.cell? ⟨d.b, 0, none⟩ = some (.int .i64 d.L) ∧ V.cell? ⟨f.b, 0, none⟩ = some (.int .i64 f.L)) (by kernel_rfl) (bHS.out _ bE0) (fun bH0 => ?_)
      obtain ⟨bv0, hv0⟩ : ∃ v, v = av0.drew := ⟨_, rfl⟩
      rw [← hv0] at bH0 bE0 ⊢
      clear hv0
      refine hr_take_w 0 (some 40) (.pointer (some ⟨d.b, 0, none⟩)) rfl rfl (by kernel_rfl) (by kernel_rfl) (by kernel_rfl) rfl (fun W hW => by obtain ⟨h0, h1⟩ := hW; go_simp) bH0 ?_
      simp only [Act.put, List.setIfInBounds_toArray, List.set_cons_zero, List.set_cons_succ]
      refine hr_take_w 1 (some 41) (.pointer (some ⟨d.b, 0, none⟩)) rfl rfl (by kernel_rfl) (by kernel_rfl) (by kernel_rfl) rfl (fun W hW => by obtain ⟨h0, h1⟩ := hW; go_simp) bH0 ?_
      simp only [Act.put, List.setIfInBounds_toArray, List.set_cons_zero, List.set_cons_succ]
      refine hr_take_w 2 (some 42) (.pointer (some ⟨d.b, 0, none⟩)) rfl rfl (by kernel_rfl) (by kernel_rfl) (by kernel_rfl) rfl (fun W hW => by obtain ⟨h0, h1⟩ := hW; go_simp) bH0 ?_
      simp only [Act.put, List.setIfInBounds_toArray, List.set_cons_zero, List.set_cons_succ]
      refine hr_take_w 3 (some 43) (.int .i64 d.L) rfl rfl (by kernel_rfl) (by kernel_rfl) (by kernel_rfl) rfl (fun W hW => by obtain ⟨h0, h1⟩ := hW; go_simp) bH0 ?_
      simp only [Act.put, List.setIfInBounds_toArray, List.set_cons_zero, List.set_cons_succ]
      refine hr_take_w 4 (some 44) (.pointer (some ⟨f.b, 0, none⟩)) rfl rfl (by kernel_rfl) (by kernel_rfl) (by kernel_rfl) rfl (fun W hW => by obtain ⟨h0, h1⟩ := hW; go_simp) bH0 ?_
      simp only [Act.put, List.setIfInBounds_toArray, List.set_cons_zero, List.set_cons_succ]
      refine hr_take_w 5 (some 45) (.pointer (some ⟨f.b, 0, none⟩)) rfl rfl (by kernel_rfl) (by kernel_rfl) (by kernel_rfl) rfl (fun W hW => by obtain ⟨h0, h1⟩ := hW; go_simp) bH0 ?_
      simp only [Act.put, List.setIfInBounds_toArray, List.set_cons_zero, List.set_cons_succ]
      refine hr_take_w 6 (some 46) (.pointer (some ⟨f.b, 0, none⟩)) rfl rfl (by kernel_rfl) (by kernel_rfl) (by kernel_rfl) rfl (fun W hW => by obtain ⟨h0, h1⟩ := hW; go_simp) bH0 ?_
      simp only [Act.put, List.setIfInBounds_toArray, List.set_cons_zero, List.set_cons_succ]
      refine hr_take_w 7 (some 47) (.int .i64 f.L) rfl rfl (by kernel_rfl) (by kernel_rfl) (by kernel_rfl) rfl (fun W hW => by obtain ⟨h0, h1⟩ := hW; go_simp) bH0 ?_
      simp only [Act.put, List.setIfInBounds_toArray, List.set_cons_zero, List.set_cons_succ]
      refine hr_take_w 8 (some 48) (.bool true) rfl rfl (by kernel_rfl) (by kernel_rfl) (by kernel_rfl) rfl (fun W hW => by obtain ⟨h0, h1⟩ := hW; go_simp) bH0 ?_
      simp only [Act.put, List.setIfInBounds_toArray, List.set_cons_zero, List.set_cons_succ]
      refine wpAnyH_done (by kernel_rfl) ?_ _
      refine NoPanic.normal ?_
      have Bb : Below w.heap.size w bv0 := aE0.trans (bE0.mono aE0.size)
      have Nb := h.below Bb
      obtain ⟨kb, ko, s', u, eco, hs1, hs2, hcell, hTk, hlen⟩ := Nb.kidAt d.ks.length (by omega)
      obtain rfl : s = s' := Option.some.inj (c.seg.symm.trans hs1)
      have c3 := Nb.ok.c3
      rw [eco] at c3
      have c0 : (d.ks.length : Int) < (d.cs.length : Int) := by omega
      have CI := ih bv0 u (.pointer (some ⟨f.b, 0, none⟩)) s l2 (by omega) hTk (h2.below Bb) (by omega)
      clear eco hs1 hs2
      go_wp2_with fail
      refine CI.mono ?_
      rintro e w2 ⟨x, rfl, Tx, B2'⟩
      have B2 : Below w.heap.size w w2 := Bb.trans (B2'.mono Bb.size)
      have CW := withKid_any w2 l1 d segs xs (h.below B2) d.ks.length s A B (s ++ l2) c x Tx (by
        intro y hy
        rcases List.mem_append.1 hy with hy | hy
        · exact c.ls y hy
        · have := k.shp.le y hy
          omega) (by omega)
      unfold Nd.ptr at CW
      clear CI c3 hcell hTk B2'
      go_wp2_with fail
      refine CW.mono ?_
      rintro e w3 ⟨z, rfl, Tz, B3'⟩
      have B3 : Below w.heap.size w w3 := B2.trans (B3'.mono B2.size)
      go_wp2
      go_ret
      refine ⟨_, rfl, ?_, B3⟩
      have e : l1 ++ l2 = A ++ ((s ++ l2) ++ B) := by rw [c.el, hB.out]; simp
      rw [e]
      exact Tz
    have hgt' : ¬ (f.L : Int) < (d.L : Int) := by omega
    have hLe : Hid (f.L = d.L) := by show _ = _; omega
    go_enter Tryz.func138, Tryz.ntmps138
    go_wp2_with fail
    have aHS : Hid (∀ V, Below w.heap.size w V → V.cell? ⟨d.b, 0, none⟩ = some (.int .i64 d.L) ∧ V.cell? ⟨f.b, 0, none⟩ = some (.int .i64 f.L)) := fun V hV => ⟨(h.ok.below hV).c0, (k.ok.below hV).c0⟩
    have aE0 : Below w.heap.size w w.drew := (Below.refl _ _).drew
    refine wp_region_noPanic ?_
    refine wp_region_held_drew (S := fun V => V.cell? ⟨d.b, 0, none⟩ = some (.int .i64 d.L) ∧ V.cell? ⟨f.b, 0, none⟩ = some (.int .i64 f.L)) (by kernel_rfl) (aHS.out _ aE0) (fun aH0 => ?_)
    obtain ⟨av0, hv0⟩ : ∃ v, v = w.drew := ⟨_, rfl⟩
    rw [← hv0] at aH0 aE0 ⊢
    clear hv0
    refine hr_take_w 0 (some 16) (.pointer (some ⟨d.b, 0, none⟩)) rfl rfl (by kernel_rfl) (by kernel_rfl) (by kernel_rfl) rfl (fun W hW => by obtain ⟨h0, h1⟩ := hW; go_simp) aH0 ?_
    simp only [Act.put, List.setIfInBounds_toArray, List.set_cons_zero, List.set_cons_succ]
    refine hr_take_w 1 (some 17) (.pointer (some ⟨d.b, 0, none⟩)) rfl rfl (by kernel_rfl) (by kernel_rfl) (by kernel_rfl) rfl (fun W hW => by obtain ⟨h0, h1⟩ := hW; go_simp) aH0 ?_
    simp only [Act.put, List.setIfInBounds_toArray, List.set_cons_zero, List.set_cons_succ]
    refine hr_take_w 2 (some 18) (.pointer (some ⟨d.b, 0, none⟩)) rfl rfl (by kernel_rfl) (by kernel_rfl) (by kernel_rfl) rfl (fun W hW => by obtain ⟨h0, h1⟩ := hW; go_simp) aH0 ?_
    simp only [Act.put, List.setIfInBounds_toArray, List.set_cons_zero, List.set_cons_succ]
    refine hr_take_w 3 (some 19) (.int .i64 d.L) rfl rfl (by kernel_rfl) (by kernel_rfl) (by kernel_rfl) rfl (fun W hW => by obtain ⟨h0, h1⟩ := hW; go_simp) aH0 ?_
    simp only [Act.put, List.setIfInBounds_toArray, List.set_cons_zero, List.set_cons_succ]
    refine hr_take_w 4 (some 20) (.pointer (some ⟨f.b, 0, none⟩)) rfl rfl (by kernel_rfl) (by kernel_rfl) (by kernel_rfl) rfl (fun W hW => by obtain ⟨h0, h1⟩ := hW; go_simp) aH0 ?_
    simp only [Act.put, List.setIfInBounds_toArray, List.set_cons_zero, List.set_cons_succ]
    refine hr_take_w 5 (some 21) (.pointer (some ⟨f.b, 0, none⟩)) rfl rfl (by kernel_rfl) (by kernel_rfl) (by kernel_rfl) rfl (fun W hW => by obtain ⟨h0, h1⟩ := hW; go_simp) aH0 ?_
    simp only [Act.put, List.setIfInBounds_toArray, List.set_cons_zero, List.set_cons_succ]
    refine hr_take_w 6 (some 22) (.pointer (some ⟨f.b, 0, none⟩)) rfl rfl (by kernel_rfl) (by kernel_rfl) (by kernel_rfl) rfl (fun W hW => by obtain ⟨h0, h1⟩ := hW; go_simp) aH0 ?_
    simp only [Act.put, List.setIfInBounds_toArray, List.set_cons_zero, List.set_cons_succ]
    refine hr_take_w 7 (some 23) (.int .i64 f.L) rfl rfl (by kernel_rfl) (by kernel_rfl) (by kernel_rfl) rfl (fun W hW => by obtain ⟨h0, h1⟩ := hW; go_simp) aH0 ?_
    simp only [Act.put, List.setIfInBounds_toArray, List.set_cons_zero, List.set_cons_succ]
    refine hr_take_w 8 (some 24) (.bool false) rfl rfl (by kernel_rfl) (by kernel_rfl) (by kernel_rfl) rfl (fun W hW => by obtain ⟨h0, h1⟩ := hW; go_simp) aH0 ?_
    simp only [Act.put, List.setIfInBounds_toArray, List.set_cons_zero, List.set_cons_succ]
    refine hr_take_w 9 (some 15) (.bool false) rfl rfl (by kernel_rfl) (by kernel_rfl) (by kernel_rfl) rfl (fun W hW => by obtain ⟨h0, h1⟩ := hW; go_simp) aH0 ?_
    simp only [Act.put, List.setIfInBounds_toArray, List.set_cons_zero, List.set_cons_succ]
    refine wpAnyH_done (by kernel_rfl) ?_ _
    refine NoPanic.normal ?_
    have Na := h.below aE0
    have Ka := k.below aE0
    have c1 := Na.ok.c1
    go_wp2_with fail
    have bHS : Hid (∀ V, Below av0.heap.size av0 V → V.cell? ⟨d.b, 0, none⟩ = some (.int .i64 d.L) ∧ V.cell? ⟨f.b, 0, none⟩ = some (.int .i64 f.L)) := fun V hV => ⟨(Na.ok.below hV).c0, (Ka.ok.below hV).c0⟩
    have bE0 : Below av0.heap.size av0 av0.drew := (Below.refl _ _).drew
    refine wp_region_noPanic ?_
    refine wp_region_held_drew (S := fun V => V.cell? ⟨d.b, 0, none⟩ = some (.int .i64 d.L) ∧ V.cell? ⟨f.b, 0, none⟩ = some (.int .i64 f.L)) (by kernel_rfl) (bHS.out _ bE0) (fun bH0 => ?_)
    obtain ⟨bv0, hv0⟩ : ∃ v, v = av0.drew := ⟨_, rfl⟩
    rw [← hv0] at bH0 bE0 ⊢
    clear hv0
    refine hr_take_w 0 (some 40) (.pointer (some ⟨d.b, 0, none⟩)) rfl rfl (by kernel_rfl) (by kernel_rfl) (by kernel_rfl) rfl (fun W hW => by obtain ⟨h0, h1⟩ := hW; go_simp) bH0 ?_
    simp only [Act.put, List.setIfInBounds_toArray, List.set_cons_zero, List.set_cons_succ]
    refine hr_take_w 1 (some 41) (.pointer (some ⟨d.b, 0, none⟩)) rfl rfl (by kernel_rfl) (by kernel_rfl) (by kernel_rfl) rfl (fun W hW => by obtain ⟨h0, h1⟩ := hW; go_simp) bH0 ?_
    simp only [Act.put, List.setIfInBounds_toArray, List.set_cons_zero, List.set_cons_succ]
    refine hr_take_w 2 (some 42) (.pointer (some ⟨d.b, 0, none⟩)) rfl rfl (by kernel_rfl) (by kernel_rfl) (by kernel_rfl) rfl (fun W hW => by obtain ⟨h0, h1⟩ := hW; go_simp) bH0 ?_
    simp only [Act.put, List.setIfInBounds_toArray, List.set_cons_zero, List.set_cons_succ]
    refine hr_take_w 3 (some 43) (.int .i64 d.L) rfl rfl (by kernel_rfl) (by kernel_rfl) (by kernel_rfl) rfl (fun W hW => by obtain ⟨h0, h1⟩ := hW; go_simp) bH0 ?_
    simp only [Act.put, List.setIfInBounds_toArray, List.set_cons_zero, List.set_cons_succ]
    refine hr_take_w 4 (some 44) (.pointer (some ⟨f.b, 0, none⟩)) rfl rfl (by kernel_rfl) (by kernel_rfl) (by kernel_rfl) rfl (fun W hW => by obtain ⟨h0, h1⟩ := hW; go_simp) bH0 ?_
    simp only [Act.put, List.setIfInBounds_toArray, List.set_cons_zero, List.set_cons_succ]
    refine hr_take_w 5 (some 45) (.pointer (some ⟨f.b, 0, none⟩)) rfl rfl (by kernel_rfl) (by kernel_rfl) (by kernel_rfl) rfl (fun W hW => by obtain ⟨h0, h1⟩ := hW; go_simp) bH0 ?_
    simp only [Act.put, List.setIfInBounds_toArray, List.set_cons_zero, List.set_cons_succ]
    refine hr_take_w 6 (some 46) (.pointer (some ⟨f.b, 0, none⟩)) rfl rfl (by kernel_rfl) (by kernel_rfl) (by kernel_rfl) rfl (fun W hW => by obtain ⟨h0, h1⟩ := hW; go_simp) bH0 ?_
    simp only [Act.put, List.setIfInBounds_toArray, List.set_cons_zero, List.set_cons_succ]
    refine hr_take_w 7 (some 47) (.int .i64 f.L) rfl rfl (by kernel_rfl) (by kernel_rfl) (by kernel_rfl) rfl (fun W hW => by obtain ⟨h0, h1⟩ := hW; go_simp) bH0 ?_
    simp only [Act.put, List.setIfInBounds_toArray, List.set_cons_zero, List.set_cons_succ]
    refine hr_take_w 8 (some 48) (.bool false) rfl rfl (by kernel_rfl) (by kernel_rfl) (by kernel_rfl) rfl (fun W hW => by obtain ⟨h0, h1⟩ := hW; go_simp) bH0 ?_
    simp only [Act.put, List.setIfInBounds_toArray, List.set_cons_zero, List.set_cons_succ]
    refine wpAnyH_done (by kernel_rfl) ?_ _
    refine NoPanic.normal ?_
    have Bb : Below w.heap.size w bv0 := aE0.trans (bE0.mono aE0.size)
    have Nb := h.below Bb
    have Kb := k.below Bb
    have hjoin : Hid (∃ s t, segs[xs.length]? = some s ∧ fegs[0]? = some t ∧ ∀ u, u = s ++ t → Shp lev (l1 ++ l2) d.L (segs.take xs.length ++ u :: fegs.drop 1) (xs ++ ys)) := by
      have hk2 := k.shp
      rw [hLe.out] at hk2
      exact h.shp.join hk2
    obtain ⟨s, t, hsg, htg, hsh⟩ := hjoin.out
    have HSH := hsh _ rfl
    clear hjoin hsh
    obtain ⟨kb, ko, s', u, eco, hs1, hs2, hcell, hTk, hlen⟩ := Nb.kidAt d.ks.length (by omega)
    obtain ⟨jb, jo, t', u2, ecf, ht1, ht2, hcell2, hTk2, hlen2⟩ := Kb.kidAt 0 (Nat.zero_le _)
    have hxl : xs.length = d.ks.length := h.nk.symm
    rw [hxl] at hsg
    obtain rfl : s = s' := Option.some.inj (hsg.symm.trans hs1)
    obtain rfl : t = t' := Option.some.inj (htg.symm.trans ht1)
    rw [Nat.add_zero] at hcell2
    clear hxl hs1 hs2 ht1 ht2
    have CI : ∀ V, Below bv0.heap.size bv0 V → Calls Tryz.prog 138 #[u, u2] V fun e w' => ∃ x, e = .returned (.pointer x) ∧ T w' (.pointer x) (s ++ t) ∧ Below V.heap.size V w' := by
      intro V hV
      refine (ih V u u2 s t (by omega) (hTk.below hV) (hTk2.below hV) (by omega)).mono ?_
      rintro e w' ⟨z, rfl, Tz, hb⟩
      obtain ⟨x, rfl⟩ := Tz.ptr
      exact ⟨x, rfl, Tz, hb⟩
    obtain ⟨q1, rfl⟩ := hTk.ptr
    obtain ⟨q2, rfl⟩ := hTk2.ptr
    have c0 : (d.ks.length : Int) < (d.cs.length : Int) := by omega
    have hfne : ¬ f.cs = [] := by
      intro e
      rw [e] at knc2
      simp at knc2
    have hw : IntKind.i64.wrap ((d.ks.length : Int) + 1) = (d.ks.length : Int) + 1 := by have := wrap_nat (k := d.ks.length + 1) (by omega); simpa using this
    go_wp2_with fail
    have cHS : Hid (∀ V, Below bv0.heap.size bv0 V → V.cell? ⟨d.b, 3, none⟩ = some (.slice (some ⟨kb, ko, none⟩) d.cs.length d.cc) ∧ V.cell? ⟨f.b, 3, none⟩ = some (.slice (some ⟨jb, jo, none⟩) f.cs.length f.cc) ∧ V.cell? ⟨kb, ko + d.ks.length, none⟩ = some (.pointer q1) ∧ V.cell? ⟨jb, jo, none⟩ = some (.pointer q2)) := fun V hV => ⟨by rw [← eco]; exact (Nb.ok.below hV).c3, by rw [← ecf]; exact (Kb.ok.below hV).c3, (hV.cell (World.block_lt_of_cell? _ _ hcell)).trans hcell, (hV.cell (World.block_lt_of_cell? _ _ hcell2)).trans hcell2⟩
    have cE0 : Below bv0.heap.size bv0 bv0.drew := (Below.refl _ _).drew
    refine wp_region_noPanic ?_
    refine wp_region_held_drew (S := fun V => V.cell? ⟨d.b, 3, none⟩ = some (.slice (some ⟨kb, ko, none⟩) d.cs.length d.cc) ∧ V.cell? ⟨f.b, 3, none⟩ = some (.slice (some ⟨jb, jo, none⟩) f.cs.length f.cc) ∧ V.cell? ⟨kb, ko + d.ks.length, none⟩ = some (.pointer q1) ∧ V.cell? ⟨jb, jo, none⟩ = some (.pointer q2)) (by kernel_rfl) (cHS.out _ cE0) (fun cH0 => ?_)
    obtain ⟨cv0, hv0⟩ : ∃ v, v = bv0.drew := ⟨_, rfl⟩
    rw [← hv0] at cH0 cE0 ⊢
    clear hv0
    refine hr_take_w 0 (some 61) (.pointer (some ⟨f.b, 0, none⟩)) rfl rfl (by kernel_rfl) (by kernel_rfl) (by kernel_rfl) rfl (fun W hW => by obtain ⟨h0, h1, h2, h3⟩ := hW; go_simp) cH0 ?_
    simp only [Act.put, List.setIfInBounds_toArray, List.set_cons_zero, List.set_cons_succ]
    refine hr_take_w 1 (some 62) (.pointer (some ⟨f.b, 0, none⟩)) rfl rfl (by kernel_rfl) (by kernel_rfl) (by kernel_rfl) rfl (fun W hW => by obtain ⟨h0, h1, h2, h3⟩ := hW; go_simp) cH0 ?_
    simp only [Act.put, List.setIfInBounds_toArray, List.set_cons_zero, List.set_cons_succ]
    refine hr_take_w 2 (some 63) (.pointer (some ⟨f.b, 3, none⟩)) rfl rfl (by kernel_rfl) (by kernel_rfl) (by kernel_rfl) rfl (fun W hW => by obtain ⟨h0, h1, h2, h3⟩ := hW; go_simp) cH0 ?_
    simp only [Act.put, List.setIfInBounds_toArray, List.set_cons_zero, List.set_cons_succ]
    refine hr_take_w 3 (some 64) (.slice (some ⟨jb, jo, none⟩) f.cs.length f.cc) rfl rfl (by kernel_rfl) (by kernel_rfl) (by kernel_rfl) rfl (fun W hW => by obtain ⟨h0, h1, h2, h3⟩ := hW; go_simp) cH0 ?_
    simp only [Act.put, List.setIfInBounds_toArray, List.set_cons_zero, List.set_cons_succ]
    refine hr_take_w 4 (some 65) (.pointer (some ⟨d.b, 0, none⟩)) rfl rfl (by kernel_rfl) (by kernel_rfl) (by kernel_rfl) rfl (fun W hW => by obtain ⟨h0, h1, h2, h3⟩ := hW; go_simp) cH0 ?_
    simp only [Act.put, List.setIfInBounds_toArray, List.set_cons_zero, List.set_cons_succ]
    refine hr_take_w 5 (some 66) (.pointer (some ⟨d.b, 0, none⟩)) rfl rfl (by kernel_rfl) (by kernel_rfl) (by kernel_rfl) rfl (fun W hW => by obtain ⟨h0, h1, h2, h3⟩ := hW; go_simp) cH0 ?_
    simp only [Act.put, List.setIfInBounds_toArray, List.set_cons_zero, List.set_cons_succ]
    refine hr_take_w 6 (some 67) (.pointer (some ⟨d.b, 3, none⟩)) rfl rfl (by kernel_rfl) (by kernel_rfl) (by kernel_rfl) rfl (fun W hW => by obtain ⟨h0, h1, h2, h3⟩ := hW; go_simp) cH0 ?_
    simp only [Act.put, List.setIfInBounds_toArray, List.set_cons_zero, List.set_cons_succ]
    refine hr_take_w 7 (some 68) (.slice (some ⟨kb, ko, none⟩) d.cs.length d.cc) rfl rfl (by kernel_rfl) (by kernel_rfl) (by kernel_rfl) rfl (fun W hW => by obtain ⟨h0, h1, h2, h3⟩ := hW; go_simp) cH0 ?_
    simp only [Act.put, List.setIfInBounds_toArray, List.set_cons_zero, List.set_cons_succ]
    refine hr_take_w 8 (some 69) (.int .i64 d.ks.length) rfl rfl (by kernel_rfl) (by kernel_rfl) (by kernel_rfl) rfl (fun W hW => by obtain ⟨h0, h1, h2, h3⟩ := hW; go_simp) cH0 ?_
    simp only [Act.put, List.setIfInBounds_toArray, List.set_cons_zero, List.set_cons_succ]
    refine hr_take_w 9 (some 70) (.pointer (some ⟨kb, ko + d.ks.length, none⟩)) rfl rfl (by kernel_rfl) (by kernel_rfl) (by kernel_rfl) rfl (fun W hW => by obtain ⟨h0, h1, h2, h3⟩ := hW; go_simp) cH0 ?_
    simp only [Act.put, List.setIfInBounds_toArray, List.set_cons_zero, List.set_cons_succ]
    refine hr_take_w 10 (some 71) (.pointer q1) rfl rfl (by kernel_rfl) (by kernel_rfl) (by kernel_rfl) rfl (fun W hW => by obtain ⟨h0, h1, h2, h3⟩ := hW; go_simp) cH0 ?_
    simp only [Act.put, List.setIfInBounds_toArray, List.set_cons_zero, List.set_cons_succ]
    refine hr_take_w 11 (some 72) (.pointer (some ⟨f.b, 0, none⟩)) rfl rfl (by kernel_rfl) (by kernel_rfl) (by kernel_rfl) rfl (fun W hW => by obtain ⟨h0, h1, h2, h3⟩ := hW; go_simp) cH0 ?_
    simp only [Act.put, List.setIfInBounds_toArray, List.set_cons_zero, List.set_cons_succ]
    refine hr_take_w 12 (some 73) (.pointer (some ⟨f.b, 0, none⟩)) rfl rfl (by kernel_rfl) (by kernel_rfl) (by kernel_rfl) rfl (fun W hW => by obtain ⟨h0, h1, h2, h3⟩ := hW; go_simp) cH0 ?_
    simp only [Act.put, List.setIfInBounds_toArray, List.set_cons_zero, List.set_cons_succ]
    refine hr_take_w 13 (some 74) (.pointer (some ⟨f.b, 3, none⟩)) rfl rfl (by kernel_rfl) (by kernel_rfl) (by kernel_rfl) rfl (fun W hW => by obtain ⟨h0, h1, h2, h3⟩ := hW; go_simp) cH0 ?_
    simp only [Act.put, List.setIfInBounds_toArray, List.set_cons_zero, List.set_cons_succ]
    refine hr_take_w 14 (some 75) (.slice (some ⟨jb, jo, none⟩) f.cs.length f.cc) rfl rfl (by kernel_rfl) (by kernel_rfl) (by kernel_rfl) rfl (fun W hW => by obtain ⟨h0, h1, h2, h3⟩ := hW; go_simp) cH0 ?_
    simp only [Act.put, List.setIfInBounds_toArray, List.set_cons_zero, List.set_cons_succ]
    refine hr_take_w 15 (some 76) (.pointer (some ⟨jb, jo, none⟩)) rfl rfl (by kernel_rfl) (by kernel_rfl) (by kernel_rfl) rfl (fun W hW => by obtain ⟨h0, h1, h2, h3⟩ := hW; go_simp) cH0 ?_
    simp only [Act.put, List.setIfInBounds_toArray, List.set_cons_zero, List.set_cons_succ]
    refine hr_take_w 16 (some 77) (.pointer q2) rfl rfl (by kernel_rfl) (by kernel_rfl) (by kernel_rfl) rfl (fun W hW => by obtain ⟨h0, h1, h2, h3⟩ := hW; go_simp) cH0 ?_
    simp only [Act.put, List.setIfInBounds_toArray, List.set_cons_zero, List.set_cons_succ]
    refine hr_call_w 17 (some 78) 138 #[.pointer q1, .pointer q2] rfl rfl (by kernel_rfl) rfl (by go_simp) (fun v w' => ∃ x, v = .pointer x ∧ T w' (.pointer x) (s ++ t) ∧ Below cv0.heap.size cv0 w') ((CI _ cE0).mono (by
      rintro e w' ⟨x, rfl, F, C⟩
      exact ⟨_, rfl, x, rfl, F, C⟩)) ?_
    rintro v cv1 ⟨x, rfl, cF0, cC0⟩
    have cE1 := cE0.trans (cC0.mono cE0.size)
    have cH1 := cHS.out cv1 cE1
    refine ⟨cH1, ?_⟩
    simp only [Act.put, List.setIfInBounds_toArray, List.set_cons_zero, List.set_cons_succ]
    refine hr_ex 18 (some 79) rfl rfl (by kernel_rfl) rfl (R := fun v w' => ∃ g, v = .slice (some ⟨g, 0, none⟩) 1 1 ∧ VL w' (some ⟨g, 0, none⟩) 1 1 [.pointer x] ∧ Below cv1.heap.size cv1 w') (⟨_, _, by go_simp, _, rfl, VL.new cv1 [.pointer x] 85 (by simp [maxLen]), (Below.refl _ _).alloc (Nat.le_refl _) _⟩) ?_
    rintro v cv2 ⟨cg1, rfl, cG1, cC1⟩
    have cE2 := cE1.trans (cC1.mono cE1.size)
    have cH2 := cHS.out cv2 cE2
    refine ⟨cH2, ?_⟩
    simp only [Act.put, List.setIfInBounds_toArray, List.set_cons_zero, List.set_cons_succ]
    refine hr_call_w 19 (some 80) 135 #[.slice (some ⟨jb, jo, none⟩) f.cs.length f.cc, .int .i64 0, .int .i64 1, .slice (some ⟨cg1, 0, none⟩) 1 1] rfl rfl (by kernel_rfl) rfl (by go_simp) (fun v w' => ∃ ro rc, v = .slice ro (0 + 1 + (f.cs.length - 1)) rc ∧ VL w' ro (0 + 1 + (f.cs.length - 1)) rc (f.cs.take 0 ++ [.pointer x] ++ f.cs.drop 1) ∧ Below cv2.heap.size cv2 w') ((chgN_any cv2 (some ⟨jb, jo, none⟩) (some ⟨cg1, 0, none⟩) f.cs.length f.cc 1 1 0 1 f.cs [.pointer x] (by rw [← ecf]; exact Kb.ok.cl.below cE2) cG1 Kb.one (by intro y hy; rw [List.mem_singleton.1 hy]; rfl) (by omega) (by omega) (by omega)).mono (by
      rintro e w' ⟨ro, rc, rfl, F, C⟩
      exact ⟨_, rfl, ro, rc, rfl, F, C⟩)) ?_
    rintro v cv3 ⟨ro, rc, rfl, cF2, cC2⟩
    have cE3 := cE2.trans (cC2.mono cE2.size)
    have cH3 := cHS.out cv3 cE3
    clear cG1
    refine ⟨cH3, ?_⟩
    simp only [Act.put, List.setIfInBounds_toArray, List.set_cons_zero, List.set_cons_succ]
    refine hr_take_w 20 (some 6) (.slice ro (0 + 1 + (f.cs.length - 1)) rc) rfl rfl (by kernel_rfl) (by kernel_rfl) (by kernel_rfl) rfl (fun W hW => by obtain ⟨h0, h1, h2, h3⟩ := hW; go_simp) cH3 ?_
    simp only [Act.put, List.setIfInBounds_toArray, List.set_cons_zero, List.set_cons_succ]
    refine wpAnyH_done (by kernel_rfl) ?_ _
    refine NoPanic.normal ?_
    have tk := cF0.below (cC1.trans (cC2.mono cC1.size))
    rw [show f.cs.take 0 ++ [.pointer x] ++ f.cs.drop 1 = .pointer x :: f.cs.drop 1 from by simp] at cF2
    have Nc := Nb.below cE3
    have Kc := Kb.below cE3
    have Bc : Below w.heap.size w cv3 := Bb.trans (cE3.mono Bb.size)
    clear cF0
    go_wp2_with fail
    have eHS : Hid (∀ V, Below cv3.heap.size cv3 V → V.cell? ⟨d.b, 0, none⟩ = some (.int .i64 d.L) ∧ V.cell? ⟨d.b, 1, none⟩ = some (.slice d.ko d.ks.length d.kc) ∧ V.cell? ⟨d.b, 2, none⟩ = some (.slice d.vo d.vs.length d.vc) ∧ V.cell? ⟨d.b, 3, none⟩ = some (.slice d.co d.cs.length d.cc) ∧ V.cell? ⟨f.b, 0, none⟩ = some (.int .i64 f.L) ∧ V.cell? ⟨f.b, 1, none⟩ = some (.slice f.ko f.ks.length f.kc) ∧ V.cell? ⟨f.b, 2, none⟩ = some (.slice f.vo f.vs.length f.vc) ∧ V.cell? ⟨f.b, 3, none⟩ = some (.slice f.co f.cs.length f.cc)) := fun V hV => ⟨(Nc.ok.below hV).c0, (Nc.ok.below hV).c1, (Nc.ok.below hV).c2, (Nc.ok.below hV).c3, (Kc.ok.below hV).c0, (Kc.ok.below hV).c1, (Kc.ok.below hV).c2, (Kc.ok.below hV).c3⟩
    have eE0 : Below cv3.heap.size cv3 cv3.drew := (Below.refl _ _).drew
    refine wp_region_noPanic ?_
    refine wp_region_held_drew (S := fun V => V.cell? ⟨d.b, 0, none⟩ = some (.int .i64 d.L) ∧ V.cell? ⟨d.b, 1, none⟩ = some (.slice d.ko d.ks.length d.kc) ∧ V.cell? ⟨d.b, 2, none⟩ = some (.slice d.vo d.vs.length d.vc) ∧ V.cell? ⟨d.b, 3, none⟩ = some (.slice d.co d.cs.length d.cc) ∧ V.cell? ⟨f.b, 0, none⟩ = some (.int .i64 f.L) ∧ V.cell? ⟨f.b, 1, none⟩ = some (.slice f.ko f.ks.length f.kc) ∧ V.cell? ⟨f.b, 2, none⟩ = some (.slice f.vo f.vs.length f.vc) ∧ V.cell? ⟨f.b, 3, none⟩ = some (.slice f.co f.cs.length f.cc)) (by kernel_rfl) (eHS.out _ eE0) (fun eH0 => ?_)
    obtain ⟨ev0, hv0⟩ : ∃ v, v = cv3.drew := ⟨_, rfl⟩
    rw [← hv0] at eH0 eE0 ⊢
    clear hv0
    refine hr_take_w 0 (some 81) (.pointer (some ⟨d.b, 0, none⟩)) rfl rfl (by kernel_rfl) (by kernel_rfl) (by kernel_rfl) rfl (fun W hW => by obtain ⟨h0, h1, h2, h3, h4, h5, h6, h7⟩ := hW; go_simp) eH0 ?_
    simp only [Act.put, List.setIfInBounds_toArray, List.set_cons_zero, List.set_cons_succ]
    refine hr_take_w 1 (some 82) (.pointer (some ⟨d.b, 0, none⟩)) rfl rfl (by kernel_rfl) (by kernel_rfl) (by kernel_rfl) rfl (fun W hW => by obtain ⟨h0, h1, h2, h3, h4, h5, h6, h7⟩ := hW; go_simp) eH0 ?_
    simp only [Act.put, List.setIfInBounds_toArray, List.set_cons_zero, List.set_cons_succ]
    refine hr_take_w 2 (some 83) (.pointer (some ⟨d.b, 0, none⟩)) rfl rfl (by kernel_rfl) (by kernel_rfl) (by kernel_rfl) rfl (fun W hW => by obtain ⟨h0, h1, h2, h3, h4, h5, h6, h7⟩ := hW; go_simp) eH0 ?_
    simp only [Act.put, List.setIfInBounds_toArray, List.set_cons_zero, List.set_cons_succ]
    refine hr_take_w 3 (some 84) (.int .i64 d.L) rfl rfl (by kernel_rfl) (by kernel_rfl) (by kernel_rfl) rfl (fun W hW => by obtain ⟨h0, h1, h2, h3, h4, h5, h6, h7⟩ := hW; go_simp) eH0 ?_
    simp only [Act.put, List.setIfInBounds_toArray, List.set_cons_zero, List.set_cons_succ]
    refine hr_take_w 4 (some 85) (.pointer (some ⟨d.b, 0, none⟩)) rfl rfl (by kernel_rfl) (by kernel_rfl) (by kernel_rfl) rfl (fun W hW => by obtain ⟨h0, h1, h2, h3, h4, h5, h6, h7⟩ := hW; go_simp) eH0 ?_
    simp only [Act.put, List.setIfInBounds_toArray, List.set_cons_zero, List.set_cons_succ]
    refine hr_take_w 5 (some 86) (.pointer (some ⟨d.b, 0, none⟩)) rfl rfl (by kernel_rfl) (by kernel_rfl) (by kernel_rfl) rfl (fun W hW => by obtain ⟨h0, h1, h2, h3, h4, h5, h6, h7⟩ := hW; go_simp) eH0 ?_
    simp only [Act.put, List.setIfInBounds_toArray, List.set_cons_zero, List.set_cons_succ]
    refine hr_take_w 6 (some 87) (.pointer (some ⟨d.b, 1, none⟩)) rfl rfl (by kernel_rfl) (by kernel_rfl) (by kernel_rfl) rfl (fun W hW => by obtain ⟨h0, h1, h2, h3, h4, h5, h6, h7⟩ := hW; go_simp) eH0 ?_
    simp only [Act.put, List.setIfInBounds_toArray, List.set_cons_zero, List.set_cons_succ]
    refine hr_take_w 7 (some 88) (.slice d.ko d.ks.length d.kc) rfl rfl (by kernel_rfl) (by kernel_rfl) (by kernel_rfl) rfl (fun W hW => by obtain ⟨h0, h1, h2, h3, h4, h5, h6, h7⟩ := hW; go_simp) eH0 ?_
    simp only [Act.put, List.setIfInBounds_toArray, List.set_cons_zero, List.set_cons_succ]
    refine hr_take_w 8 (some 89) (.int .i64 d.ks.length) rfl rfl (by kernel_rfl) (by kernel_rfl) (by kernel_rfl) rfl (fun W hW => by obtain ⟨h0, h1, h2, h3, h4, h5, h6, h7⟩ := hW; go_simp) eH0 ?_
    simp only [Act.put, List.setIfInBounds_toArray, List.set_cons_zero, List.set_cons_succ]
    refine hr_take_w 9 (some 90) (.int .i64 d.ks.length) rfl rfl (by kernel_rfl) (by kernel_rfl) (by kernel_rfl) rfl (fun W hW => by obtain ⟨h0, h1, h2, h3, h4, h5, h6, h7⟩ := hW; go_simp) eH0 ?_
    simp only [Act.put, List.setIfInBounds_toArray, List.set_cons_zero, List.set_cons_succ]
    refine hr_take_w 10 (some 91) (.pointer (some ⟨f.b, 0, none⟩)) rfl rfl (by kernel_rfl) (by kernel_rfl) (by kernel_rfl) rfl (fun W hW => by obtain ⟨h0, h1, h2, h3, h4, h5, h6, h7⟩ := hW; go_simp) eH0 ?_
    simp only [Act.put, List.setIfInBounds_toArray, List.set_cons_zero, List.set_cons_succ]
    refine hr_take_w 11 (some 92) (.pointer (some ⟨f.b, 0, none⟩)) rfl rfl (by kernel_rfl) (by kernel_rfl) (by kernel_rfl) rfl (fun W hW => by obtain ⟨h0, h1, h2, h3, h4, h5, h6, h7⟩ := hW; go_simp) eH0 ?_
    simp only [Act.put, List.setIfInBounds_toArray, List.set_cons_zero, List.set_cons_succ]
    refine hr_take_w 12 (some 93) (.pointer (some ⟨f.b, 1, none⟩)) rfl rfl (by kernel_rfl) (by kernel_rfl) (by kernel_rfl) rfl (fun W hW => by obtain ⟨h0, h1, h2, h3, h4, h5, h6, h7⟩ := hW; go_simp) eH0 ?_
    simp only [Act.put, List.setIfInBounds_toArray, List.set_cons_zero, List.set_cons_succ]
    refine hr_take_w 13 (some 94) (.slice f.ko f.ks.length f.kc) rfl rfl (by kernel_rfl) (by kernel_rfl) (by kernel_rfl) rfl (fun W hW => by obtain ⟨h0, h1, h2, h3, h4, h5, h6, h7⟩ := hW; go_simp) eH0 ?_
    simp only [Act.put, List.setIfInBounds_toArray, List.set_cons_zero, List.set_cons_succ]
    refine hr_take_w 15 (some 96) (.pointer (some ⟨d.b, 0, none⟩)) rfl rfl (by kernel_rfl) (by kernel_rfl) (by kernel_rfl) rfl (fun W hW => by obtain ⟨h0, h1, h2, h3, h4, h5, h6, h7⟩ := hW; go_simp) eH0 ?_
    simp only [Act.put, List.setIfInBounds_toArray, List.set_cons_zero, List.set_cons_succ]
    refine hr_take_w 16 (some 97) (.pointer (some ⟨d.b, 0, none⟩)) rfl rfl (by kernel_rfl) (by kernel_rfl) (by kernel_rfl) rfl (fun W hW => by obtain ⟨h0, h1, h2, h3, h4, h5, h6, h7⟩ := hW; go_simp) eH0 ?_
    simp only [Act.put, List.setIfInBounds_toArray, List.set_cons_zero, List.set_cons_succ]
    refine hr_take_w 17 (some 98) (.pointer (some ⟨d.b, 2, none⟩)) rfl rfl (by kernel_rfl) (by kernel_rfl) (by kernel_rfl) rfl (fun W hW => by obtain ⟨h0, h1, h2, h3, h4, h5, h6, h7⟩ := hW; go_simp) eH0 ?_
    simp only [Act.put, List.setIfInBounds_toArray, List.set_cons_zero, List.set_cons_succ]
    refine hr_take_w 18 (some 99) (.slice d.vo d.vs.length d.vc) rfl rfl (by kernel_rfl) (by kernel_rfl) (by kernel_rfl) rfl (fun W hW => by obtain ⟨h0, h1, h2, h3, h4, h5, h6, h7⟩ := hW; go_simp) eH0 ?_
    simp only [Act.put, List.setIfInBounds_toArray, List.set_cons_zero, List.set_cons_succ]
    refine hr_take_w 19 (some 100) (.int .i64 d.ks.length) rfl rfl (by kernel_rfl) (by kernel_rfl) (by kernel_rfl) rfl (fun W hW => by obtain ⟨h0, h1, h2, h3, h4, h5, h6, h7⟩ := hW; go_simp) eH0 ?_
    simp only [Act.put, List.setIfInBounds_toArray, List.set_cons_zero, List.set_cons_succ]
    refine hr_take_w 20 (some 101) (.int .i64 d.ks.length) rfl rfl (by kernel_rfl) (by kernel_rfl) (by kernel_rfl) rfl (fun W hW => by obtain ⟨h0, h1, h2, h3, h4, h5, h6, h7⟩ := hW; go_simp) eH0 ?_
    simp only [Act.put, List.setIfInBounds_toArray, List.set_cons_zero, List.set_cons_succ]
    refine hr_take_w 21 (some 102) (.pointer (some ⟨f.b, 0, none⟩)) rfl rfl (by kernel_rfl) (by kernel_rfl) (by kernel_rfl) rfl (fun W hW => by obtain ⟨h0, h1, h2, h3, h4, h5, h6, h7⟩ := hW; go_simp) eH0 ?_
    simp only [Act.put, List.setIfInBounds_toArray, List.set_cons_zero, List.set_cons_succ]
    refine hr_take_w 22 (some 103) (.pointer (some ⟨f.b, 0, none⟩)) rfl rfl (by kernel_rfl) (by kernel_rfl) (by kernel_rfl) rfl (fun W hW => by obtain ⟨h0, h1, h2, h3, h4, h5, h6, h7⟩ := hW; go_simp) eH0 ?_
    simp only [Act.put, List.setIfInBounds_toArray, List.set_cons_zero, List.set_cons_succ]
    refine hr_take_w 23 (some 104) (.pointer (some ⟨f.b, 2, none⟩)) rfl rfl (by kernel_rfl) (by kernel_rfl) (by kernel_rfl) rfl (fun W hW => by obtain ⟨h0, h1, h2, h3, h4, h5, h6, h7⟩ := hW; go_simp) eH0 ?_
    simp only [Act.put, List.setIfInBounds_toArray, List.set_cons_zero, List.set_cons_succ]
    refine hr_take_w 24 (some 105) (.slice f.vo f.vs.length f.vc) rfl rfl (by kernel_rfl) (by kernel_rfl) (by kernel_rfl) rfl (fun W hW => by obtain ⟨h0, h1, h2, h3, h4, h5, h6, h7⟩ := hW; go_simp) eH0 ?_
    simp only [Act.put, List.setIfInBounds_toArray, List.set_cons_zero, List.set_cons_succ]
    refine hr_take_w 26 (some 107) (.pointer (some ⟨d.b, 0, none⟩)) rfl rfl (by kernel_rfl) (by kernel_rfl) (by kernel_rfl) rfl (fun W hW => by obtain ⟨h0, h1, h2, h3, h4, h5, h6, h7⟩ := hW; go_simp) eH0 ?_
    simp only [Act.put, List.setIfInBounds_toArray, List.set_cons_zero, List.set_cons_succ]
    refine hr_take_w 27 (some 108) (.pointer (some ⟨d.b, 0, none⟩)) rfl rfl (by kernel_rfl) (by kernel_rfl) (by kernel_rfl) rfl (fun W hW => by obtain ⟨h0, h1, h2, h3, h4, h5, h6, h7⟩ := hW; go_simp) eH0 ?_
    simp only [Act.put, List.setIfInBounds_toArray, List.set_cons_zero, List.set_cons_succ]
    refine hr_take_w 28 (some 109) (.pointer (some ⟨d.b, 3, none⟩)) rfl rfl (by kernel_rfl) (by kernel_rfl) (by kernel_rfl) rfl (fun W hW => by obtain ⟨h0, h1, h2, h3, h4, h5, h6, h7⟩ := hW; go_simp) eH0 ?_
    simp only [Act.put, List.setIfInBounds_toArray, List.set_cons_zero, List.set_cons_succ]
    refine hr_take_w 29 (some 110) (.slice d.co d.cs.length d.cc) rfl rfl (by kernel_rfl) (by kernel_rfl) (by kernel_rfl) rfl (fun W hW => by obtain ⟨h0, h1, h2, h3, h4, h5, h6, h7⟩ := hW; go_simp) eH0 ?_
    simp only [Act.put, List.setIfInBounds_toArray, List.set_cons_zero, List.set_cons_succ]
    refine hr_take_w 30 (some 111) (.int .i64 d.ks.length) rfl rfl (by kernel_rfl) (by kernel_rfl) (by kernel_rfl) rfl (fun W hW => by obtain ⟨h0, h1, h2, h3, h4, h5, h6, h7⟩ := hW; go_simp) eH0 ?_
    simp only [Act.put, List.setIfInBounds_toArray, List.set_cons_zero, List.set_cons_succ]
    refine hr_take_w 31 (some 112) (.int .i64 d.ks.length) rfl rfl (by kernel_rfl) (by kernel_rfl) (by kernel_rfl) rfl (fun W hW => by obtain ⟨h0, h1, h2, h3, h4, h5, h6, h7⟩ := hW; go_simp) eH0 ?_
    simp only [Act.put, List.setIfInBounds_toArray, List.set_cons_zero, List.set_cons_succ]
    refine hr_take_w 32 (some 113) (.int .i64 ((d.ks.length + 1 : Nat) : Int)) rfl rfl (by kernel_rfl) (by kernel_rfl) (by kernel_rfl) rfl (fun W hW => by obtain ⟨h0, h1, h2, h3, h4, h5, h6, h7⟩ := hW; go_simp) eH0 ?_
    simp only [Act.put, List.setIfInBounds_toArray, List.set_cons_zero, List.set_cons_succ]
    refine hr_take_w 33 (some 114) (.slice ro (0 + 1 + (f.cs.length - 1)) rc) rfl rfl (by kernel_rfl) (by kernel_rfl) (by kernel_rfl) rfl (fun W hW => by obtain ⟨h0, h1, h2, h3, h4, h5, h6, h7⟩ := hW; go_simp) eH0 ?_
    simp only [Act.put, List.setIfInBounds_toArray, List.set_cons_zero, List.set_cons_succ]
    refine hr_call_w 14 (some 95) 134 #[.slice d.ko d.ks.length d.kc, .int .i64 d.ks.length, .int .i64 d.ks.length, .slice f.ko f.ks.length f.kc] rfl rfl (by kernel_rfl) rfl (by go_simp) (fun v w' => ∃ nko nkc, v = .slice nko (d.ks.length + f.ks.length + (d.ks.length - d.ks.length)) nkc ∧ VL w' nko (d.ks.length + f.ks.length + (d.ks.length - d.ks.length)) nkc ((d.ks.map Part.val).take d.ks.length ++ (f.ks.map Part.val) ++ (d.ks.map Part.val).drop d.ks.length) ∧ Below ev0.heap.size ev0 w') ((chgK_any ev0 d.ko f.ko d.ks.length d.kc f.ks.length f.kc d.ks.length d.ks.length (d.ks.map Part.val) (f.ks.map Part.val) (Nc.ok.kl.vl.below eE0) (Kc.ok.kl.vl.below eE0) (part_one _) (part_one _) (Nat.le_refl _) (by omega) (by omega)).mono (by
      rintro e w' ⟨nko, nkc, rfl, F, C⟩
      exact ⟨_, rfl, nko, nkc, rfl, F, C⟩)) ?_
    rintro v ev1 ⟨nko, nkc, rfl, eF0, eC0⟩
    have eE1 := eE0.trans (eC0.mono eE0.size)
    have eH1 := eHS.out ev1 eE1
    refine ⟨eH1, ?_⟩
    simp only [Act.put, List.setIfInBounds_toArray, List.set_cons_zero, List.set_cons_succ]
    refine hr_call_w 25 (some 106) 134 #[.slice d.vo d.vs.length d.vc, .int .i64 d.ks.length, .int .i64 d.ks.length, .slice f.vo f.vs.length f.vc] rfl rfl (by kernel_rfl) rfl (by go_simp) (fun v w' => ∃ nvo nvc, v = .slice nvo (d.ks.length + f.vs.length + (d.vs.length - d.ks.length)) nvc ∧ VL w' nvo (d.ks.length + f.vs.length + (d.vs.length - d.ks.length)) nvc ((d.vs.map Part.val).take d.ks.length ++ (f.vs.map Part.val) ++ (d.vs.map Part.val).drop d.ks.length) ∧ Below ev1.heap.size ev1 w') ((chgK_any ev1 d.vo f.vo d.vs.length d.vc f.vs.length f.vc d.ks.length d.ks.length (d.vs.map Part.val) (f.vs.map Part.val) (Nc.ok.vl.vl.below eE1) (Kc.ok.vl.vl.below eE1) (part_one _) (part_one _) (Nat.le_refl _) (by omega) (by omega)).mono (by
      rintro e w' ⟨nvo, nvc, rfl, F, C⟩
      exact ⟨_, rfl, nvo, nvc, rfl, F, C⟩)) ?_
    rintro v ev2 ⟨nvo, nvc, rfl, eF1, eC1⟩
    have eE2 := eE1.trans (eC1.mono eE1.size)
    have eH2 := eHS.out ev2 eE2
    refine ⟨eH2, ?_⟩
    simp only [Act.put, List.setIfInBounds_toArray, List.set_cons_zero, List.set_cons_succ]
    refine hr_call_w 34 (some 115) 135 #[.slice d.co d.cs.length d.cc, .int .i64 d.ks.length, .int .i64 ((d.ks.length + 1 : Nat) : Int), .slice ro (0 + 1 + (f.cs.length - 1)) rc] rfl rfl (by kernel_rfl) rfl (by go_simp) (fun v w' => ∃ nco ncc, v = .slice nco (d.ks.length + (0 + 1 + (f.cs.length - 1)) + (d.cs.length - (d.ks.length + 1))) ncc ∧ VL w' nco (d.ks.length + (0 + 1 + (f.cs.length - 1)) + (d.cs.length - (d.ks.length + 1))) ncc (d.cs.take d.ks.length ++ (.pointer x :: f.cs.drop 1) ++ d.cs.drop (d.ks.length + 1)) ∧ Below ev2.heap.size ev2 w') ((chgN_any ev2 d.co ro d.cs.length d.cc (0 + 1 + (f.cs.length - 1)) rc d.ks.length (d.ks.length + 1) d.cs (.pointer x :: f.cs.drop 1) (Nc.ok.cl.below eE2) (cF2.below eE2) Nc.one (by intro y hy; rcases List.mem_cons.1 hy with rfl | hy; rfl; exact Kc.one y (List.mem_of_mem_drop hy)) (by omega) (by omega) (by omega)).mono (by
      rintro e w' ⟨nco, ncc, rfl, F, C⟩
      exact ⟨_, rfl, nco, ncc, rfl, F, C⟩)) ?_
    rintro v ev3 ⟨nco, ncc, rfl, eF2, eC2⟩
    have eE3 := eE2.trans (eC2.mono eE2.size)
    have eH3 := eHS.out ev3 eE3
    refine ⟨eH3, ?_⟩
    simp only [Act.put, List.setIfInBounds_toArray, List.set_cons_zero, List.set_cons_succ]
    refine hr_take_w 35 (some 116) (.agg #[.int .i64 d.L, .slice nko (d.ks.length + f.ks.length + (d.ks.length - d.ks.length)) nkc, .slice nvo (d.ks.length + f.vs.length + (d.vs.length - d.ks.length)) nvc, .slice nco (d.ks.length + (0 + 1 + (f.cs.length - 1)) + (d.cs.length - (d.ks.length + 1))) ncc]) rfl rfl (by kernel_rfl) (by kernel_rfl) (by kernel_rfl) rfl (fun W hW => by obtain ⟨h0, h1, h2, h3, h4, h5, h6, h7⟩ := hW; go_simp) eH3 ?_
    simp only [Act.put, List.setIfInBounds_toArray, List.set_cons_zero, List.set_cons_succ]
    refine hr_ex 36 (some 117) rfl rfl (by kernel_rfl) rfl (R := fun v w' => ∃ g, v = .pointer (some ⟨g, 0, none⟩) ∧ w'.heap[g]? = some (.cells #[.int .i64 d.L, .slice nko (d.ks.length + f.ks.length + (d.ks.length - d.ks.length)) nkc, .slice nvo (d.ks.length + f.vs.length + (d.vs.length - d.ks.length)) nvc, .slice nco (d.ks.length + (0 + 1 + (f.cs.length - 1)) + (d.cs.length - (d.ks.length + 1))) ncc] 119) ∧ Below ev3.heap.size ev3 w') (⟨_, _, by go_simp, _, rfl, heap_alloc_new ev3 _, (Below.refl _ _).alloc (Nat.le_refl _) _⟩) ?_
    rintro v ev4 ⟨eg3, rfl, eG3, eC3⟩
    have eE4 := eE3.trans (eC3.mono eE3.size)
    have eH4 := eHS.out ev4 eE4
    refine ⟨eH4, ?_⟩
    simp only [Act.put, List.setIfInBounds_toArray, List.set_cons_zero, List.set_cons_succ]
    refine hr_take_w 37 (some 4) (.pointer (some ⟨eg3, 0, none⟩)) rfl rfl (by kernel_rfl) (by kernel_rfl) (by kernel_rfl) rfl (fun W hW => by obtain ⟨h0, h1, h2, h3, h4, h5, h6, h7⟩ := hW; go_simp) eH4 ?_
    simp only [Act.put, List.setIfInBounds_toArray, List.set_cons_zero, List.set_cons_succ]
    refine wpAnyH_done (by kernel_rfl) ?_ _
    refine NoPanic.normal ?_
    have Be : Below w.heap.size w ev4 := Bc.trans (eE4.mono Bc.size)
    have Ne := Nc.below eE4
    have Ke := Kc.below eE4
    have D12 := eC1.trans (eC2.mono eC1.size)
    have D1 := D12.trans (eC3.mono D12.size)
    have D2 := eC2.trans (eC3.mono eC2.size)
    have K1 := KL.of (ps := d.ks ++ f.ks) (eF0.below D1) (by rw [List.take_of_length_le (by simp), List.drop_eq_nil_of_le (by simp), List.append_nil, List.map_append]) (by
      intro q hq
      rcases List.mem_append.1 hq with hq | hq
      · exact Ne.ok.kl.sl q hq
      · exact Ke.ok.kl.sl q hq)
    have V1 := KL.of (ps := d.vs ++ f.vs) (eF1.below D2) (by rw [List.take_of_length_le (by simp; omega), List.drop_eq_nil_of_le (by simp; omega), List.append_nil, List.map_append]) (by
      intro q hq
      rcases List.mem_append.1 hq with hq | hq
      · exact Ne.ok.vl.sl q hq
      · exact Ke.ok.vl.sl q hq)
    have C1 := eF2.below eC3
    have hdn : d.cs.drop (d.ks.length + 1) = [] := List.drop_eq_nil_of_le (by omega)
    have kd := ((Ne.kids.take xs.length).app (Kids.cons (tk.below eE4) (Ke.kids.drop 1)))
    have hxl : xs.length = d.ks.length := h.nk.symm
    have TT : T ev4 (.pointer (some ⟨eg3, 0, none⟩)) (l1 ++ l2) := T.make eG3 K1 V1 C1 HSH (by rw [List.map_append, List.map_append, Ne.ek, Ke.ek]) (by rw [List.map_append, List.map_append, Ne.ev, Ke.ev]) (by rw [hdn, List.append_nil, ← hxl]; exact kd)
    clear kd hxl hdn
    go_wp2
    go_ret
    exact ⟨_, rfl, TT, Be⟩
end Go.Proofs.YtnicnfjickknjaaGreatDoor

namespace Go.Proofs.YtnicnfjickknjaaGreatDoor
open Go.RowKit

set_option maxHeartbeats 4000000 in
set_option maxRecDepth 100000 in
theorem without_node (w : World) (key : List Int) (xo : Option Addr) (xn xc : Nat) (hx : Sl w xo xn xc key) (l : List It) (d : Nd) (segs : List (List It)) (xs : List It) (h : Nod w l d segs xs) (hs : Srt l) (hk : has key l) (hn : l.length ≤ 100000)
    (ih : ∀ (V : World) (u : Value) (s : List It), s.length < l.length → Below w.heap.size w V → T V u s → Srt s → has key s → Calls Tryz.prog 127 #[u, .slice xo xn xc] V (RetT V (del s key))) :
    Calls Tryz.prog 127 #[d.ptr, .slice xo xn xc] w (RetT w (del l key)) := by
  have hm := h.many
  have hnk1 := Nat.le_of_eq h.nk
  have hnk2 := Nat.le_of_eq h.nk.symm
  have hnv1 := Nat.le_of_eq h.nv
  have hnv2 := Nat.le_of_eq h.nv.symm
  have hnc1 := Nat.le_of_eq h.nc
  have hnc2 := Nat.le_of_eq h.nc.symm
  have hpos := h.shp.pos
  have CP := place_any w d h.ok xo xn xc key hx (h.rise hs) (by omega)
  have hWK : ∀ (i : Nat) (s A B s' : List It) (V : World) (u : Value), Cut lev l d.L segs xs i s A B → Below w.heap.size w V → T V u s' → (∀ y ∈ s', lev y.k < d.L) → Calls Tryz.prog 133 #[d.ptr, .int .i64 i, u] V (RetT V (A ++ (s' ++ B))) := fun i s A B s' V u c hV hu hl => withKid_any V l d segs xs (h.below hV) i s A B s' c u hu hl hn
  unfold Nd.ptr at CP hWK ⊢
  go_enter Tryz.func127, Tryz.ntmps127
  go_wp2_with fail
  refine CP.mono ?_
  rintro e w1 ⟨i, b, rfl, hat, B1⟩
  have N1 := h.below B1
  obtain ⟨s, A, B, c, hA, hB, hB2, hf⟩ := h.found hs hat
  have hle := c.le
  have hw : IntKind.i64.wrap ((i : Int) + 1) = (i : Int) + 1 := by have := wrap_nat (k := i + 1) (by omega); simpa using this
  have hw2 : IntKind.i64.wrap ((i : Int) + 2) = (i : Int) + 2 := by have := wrap_nat (k := i + 2) (by omega); simpa using this
  have hss : Srt s := by
    have h1 := hs
    rw [c.el] at h1
    exact h1.app.2.1.app.1
  obtain ⟨kb, ko, s', u, eco, hs1, hs2, hcell, hTk, hlen⟩ := N1.kidAt i hle
  obtain rfl : s = s' := Option.some.inj (c.seg.symm.trans hs1)
  clear CP hs1 hs2
  cases b with
  | false =>
    have hB3 := hB2 rfl
    have HD : Hid (del l key = A ++ (del s key ++ B)) := by show _ = _; rw [c.el]; exact del_mid hA hB3
    have hks : has key s := by
      obtain ⟨y, hy, he⟩ := hk
      rw [c.el] at hy
      rcases List.mem_append.1 hy with hy | hy
      · exact absurd he (cmpL_lt_ne (hA y hy))
      · rcases List.mem_append.1 hy with hy | hy
        · exact ⟨y, hy, he⟩
        · exact absurd he.symm (cmpL_lt_ne (hB3 y hy))
    have CI := ih w1 u s hlen B1 hTk hss hks
    have c3 := N1.ok.c3
    rw [eco] at c3
    have hii : (i : Int) < (d.cs.length : Int) := by omega
    obtain ⟨q, rfl⟩ := hTk.ptr
    clear ih hf hB2 eco
    go_wp2_with fail
    refine CI.mono ?_
    rintro e w2 ⟨z, rfl, Tz, B2'⟩
    have B2 : Below w.heap.size w w2 := B1.trans (B2'.mono B1.size)
    have CW := hWK i s A B (del s key) w2 z c B2 Tz (del_lev c.ls)
    clear CI hWK c3 hcell
    go_wp2_with fail
    refine CW.mono ?_
    rintro e w3 ⟨y, rfl, Ty, B3'⟩
    have B3 : Below w.heap.size w w3 := B2.trans (B3'.mono B2.size)
    go_wp2
    go_ret
    refine ⟨_, rfl, ?_, B3⟩
    rw [HD.out]
    exact Ty
  | true =>
  obtain ⟨hi, he⟩ := hf rfl
  obtain ⟨t, B', hseg2, ht, hBe, hone, hmany⟩ := c.less hi
  have HD : Hid (del l key = A ++ ((s ++ t) ++ B')) := by
    show _ = _
    rw [del_at (A := A ++ s) (B := t ++ B') (y := xs[i]) hs (by rw [c.el, hBe]; simp) he]
    simp
  obtain ⟨kb2, ko2, t', u2, eco2, ht1, ht2, hcell2, hTk2, hlen2⟩ := N1.kidAt (i + 1) (by omega)
  obtain rfl : t = t' := Option.some.inj (hseg2.symm.trans ht1)
  obtain ⟨rfl, rfl⟩ : kb = kb2 ∧ ko = ko2 := by
    rw [eco] at eco2
    have e2 := Option.some.inj eco2
    injection e2 with e3 e4
    exact ⟨e3, e4⟩
  have hll : s.length + t.length ≤ l.length := by
    have e3 := congrArg List.length c.el
    have e4 := congrArg List.length hBe
    simp only [List.length_append, List.length_cons] at e3 e4
    omega
  have CJ : ∀ V, Below w1.heap.size w1 V → Calls Tryz.prog 138 #[u, u2] V fun e w' => ∃ z, e = .returned (.pointer z) ∧ T w' (.pointer z) (s ++ t) ∧ Below V.heap.size V w' := by
    intro V hV
    refine (join_fuel (s.length + t.length) V u u2 s t (Nat.le_refl _) (hTk.below hV) (hTk2.below hV) (by omega)).mono ?_
    rintro e w' ⟨y, rfl, Ty, hb⟩
    obtain ⟨z, rfl⟩ := Ty.ptr
    exact ⟨z, rfl, Ty, hb⟩
  obtain ⟨q1, rfl⟩ := hTk.ptr
  obtain ⟨q2, rfl⟩ := hTk2.ptr
  have hii : (i : Int) < (d.cs.length : Int) := by omega
  have hii2 : (i : Int) + 1 < (d.cs.length : Int) := by omega
  have hii3 : (0 : Int) ≤ (i : Int) + 1 := by omega
  have HM : Hid (1 < xs.length → ∀ u : List It, u = s ++ t → Shp lev (A ++ (u ++ B')) d.L (segs.take i ++ u :: segs.drop (i + 2)) (xs.take i ++ xs.drop (i + 1))) := hmany
  have HO : Hid (xs.length = 1 → A = [] ∧ B' = []) := hone
  clear ih hWK hf hB2 he hTk hTk2 ht1 ht2 hseg2 hmany hone hBe eco2
  go_wp2_with fail
  have aHS : Hid (∀ V, Below w1.heap.size w1 V → V.cell? ⟨d.b, 3, none⟩ = some (.slice (some ⟨kb, ko, none⟩) d.cs.length d.cc) ∧ V.cell? ⟨kb, ko + i, none⟩ = some (.pointer q1) ∧ V.cell? ⟨kb, ko + (i + 1), none⟩ = some (.pointer q2)) := fun V hV => ⟨by rw [← eco]; exact (N1.ok.below hV).c3, (hV.cell (World.block_lt_of_cell? _ _ hcell)).trans hcell, (hV.cell (World.block_lt_of_cell? _ _ hcell2)).trans hcell2⟩
  have aE0 : Below w1.heap.size w1 w1.drew := (Below.refl _ _).drew
  refine wp_region_noPanic ?_
  refine wp_region_held_drew (S := fun V => V.cell? ⟨d.b, 3, none⟩ = some (.slice (some ⟨kb, ko, none⟩) d.cs.length d.cc) ∧ V.cell? ⟨kb, ko + i, none⟩ = some (.pointer q1) ∧ V.cell? ⟨kb, ko + (i + 1), none⟩ = some (.pointer q2)) (by kernel_rfl) (aHS.out _ aE0) (fun aH0 => ?_)
  obtain ⟨av0, hv0⟩ : ∃ v, v = w1.drew := ⟨_, rfl⟩
  rw [← hv0] at aH0 aE0 ⊢
  clear hv0
  refine hr_take_w 0 (some 28) (.pointer (some ⟨d.b, 0, none⟩)) rfl rfl (by kernel_rfl) (by kernel_rfl) (by kernel_rfl) rfl (fun W hW => by obtain ⟨h0, h1, h2⟩ := hW; go_simp) aH0 ?_
  simp only [Act.put, List.setIfInBounds_toArray, List.set_cons_zero, List.set_cons_succ]
  refine hr_take_w 1 (some 29) (.pointer (some ⟨d.b, 0, none⟩)) rfl rfl (by kernel_rfl) (by kernel_rfl) (by kernel_rfl) rfl (fun W hW => by obtain ⟨h0, h1, h2⟩ := hW; go_simp) aH0 ?_
  simp only [Act.put, List.setIfInBounds_toArray, List.set_cons_zero, List.set_cons_succ]
  refine hr_take_w 2 (some 30) (.pointer (some ⟨d.b, 3, none⟩)) rfl rfl (by kernel_rfl) (by kernel_rfl) (by kernel_rfl) rfl (fun W hW => by obtain ⟨h0, h1, h2⟩ := hW; go_simp) aH0 ?_
  simp only [Act.put, List.setIfInBounds_toArray, List.set_cons_zero, List.set_cons_succ]
  refine hr_take_w 3 (some 31) (.slice (some ⟨kb, ko, none⟩) d.cs.length d.cc) rfl rfl (by kernel_rfl) (by kernel_rfl) (by kernel_rfl) rfl (fun W hW => by obtain ⟨h0, h1, h2⟩ := hW; go_simp) aH0 ?_
  simp only [Act.put, List.setIfInBounds_toArray, List.set_cons_zero, List.set_cons_succ]
  refine hr_take_w 4 (some 32) (.int .i64 i) rfl rfl (by kernel_rfl) (by kernel_rfl) (by kernel_rfl) rfl (fun W hW => by obtain ⟨h0, h1, h2⟩ := hW; go_simp) aH0 ?_
  simp only [Act.put, List.setIfInBounds_toArray, List.set_cons_zero, List.set_cons_succ]
  refine hr_take_w 5 (some 33) (.pointer (some ⟨kb, ko + i, none⟩)) rfl rfl (by kernel_rfl) (by kernel_rfl) (by kernel_rfl) rfl (fun W hW => by obtain ⟨h0, h1, h2⟩ := hW; go_simp) aH0 ?_
  simp only [Act.put, List.setIfInBounds_toArray, List.set_cons_zero, List.set_cons_succ]
  refine hr_take_w 6 (some 34) (.pointer q1) rfl rfl (by kernel_rfl) (by kernel_rfl) (by kernel_rfl) rfl (fun W hW => by obtain ⟨h0, h1, h2⟩ := hW; go_simp) aH0 ?_
  simp only [Act.put, List.setIfInBounds_toArray, List.set_cons_zero, List.set_cons_succ]
  refine hr_take_w 7 (some 35) (.pointer (some ⟨d.b, 0, none⟩)) rfl rfl (by kernel_rfl) (by kernel_rfl) (by kernel_rfl) rfl (fun W hW => by obtain ⟨h0, h1, h2⟩ := hW; go_simp) aH0 ?_
  simp only [Act.put, List.setIfInBounds_toArray, List.set_cons_zero, List.set_cons_succ]
  refine hr_take_w 8 (some 36) (.pointer (some ⟨d.b, 0, none⟩)) rfl rfl (by kernel_rfl) (by kernel_rfl) (by kernel_rfl) rfl (fun W hW => by obtain ⟨h0, h1, h2⟩ := hW; go_simp) aH0 ?_
  simp only [Act.put, List.setIfInBounds_toArray, List.set_cons_zero, List.set_cons_succ]
  refine hr_take_w 9 (some 37) (.pointer (some ⟨d.b, 3, none⟩)) rfl rfl (by kernel_rfl) (by kernel_rfl) (by kernel_rfl) rfl (fun W hW => by obtain ⟨h0, h1, h2⟩ := hW; go_simp) aH0 ?_
  simp only [Act.put, List.setIfInBounds_toArray, List.set_cons_zero, List.set_cons_succ]
  refine hr_take_w 10 (some 38) (.slice (some ⟨kb, ko, none⟩) d.cs.length d.cc) rfl rfl (by kernel_rfl) (by kernel_rfl) (by kernel_rfl) rfl (fun W hW => by obtain ⟨h0, h1, h2⟩ := hW; go_simp) aH0 ?_
  simp only [Act.put, List.setIfInBounds_toArray, List.set_cons_zero, List.set_cons_succ]
  refine hr_take_w 11 (some 39) (.int .i64 i) rfl rfl (by kernel_rfl) (by kernel_rfl) (by kernel_rfl) rfl (fun W hW => by obtain ⟨h0, h1, h2⟩ := hW; go_simp) aH0 ?_
  simp only [Act.put, List.setIfInBounds_toArray, List.set_cons_zero, List.set_cons_succ]
  refine hr_take_w 12 (some 40) (.int .i64 ((i + 1 : Nat) : Int)) rfl rfl (by kernel_rfl) (by kernel_rfl) (by kernel_rfl) rfl (fun W hW => by obtain ⟨h0, h1, h2⟩ := hW; go_simp) aH0 ?_
  simp only [Act.put, List.setIfInBounds_toArray, List.set_cons_zero, List.set_cons_succ]
  refine hr_take_w 13 (some 41) (.pointer (some ⟨kb, ko + (i + 1), none⟩)) rfl rfl (by kernel_rfl) (by kernel_rfl) (by kernel_rfl) rfl (fun W hW => by obtain ⟨h0, h1, h2⟩ := hW; go_simp) aH0 ?_
  simp only [Act.put, List.setIfInBounds_toArray, List.set_cons_zero, List.set_cons_succ]
  refine hr_take_w 14 (some 42) (.pointer q2) rfl rfl (by kernel_rfl) (by kernel_rfl) (by kernel_rfl) rfl (fun W hW => by obtain ⟨h0, h1, h2⟩ := hW; go_simp) aH0 ?_
  simp only [Act.put, List.setIfInBounds_toArray, List.set_cons_zero, List.set_cons_succ]
  refine hr_call_w 15 (some 43) 138 #[.pointer q1, .pointer q2] rfl rfl (by kernel_rfl) rfl (by go_simp) (fun v w' => ∃ z, v = .pointer z ∧ T w' (.pointer z) (s ++ t) ∧ Below av0.heap.size av0 w') ((CJ _ aE0).mono (by
    rintro e w' ⟨z, rfl, F, C⟩
    exact ⟨_, rfl, z, rfl, F, C⟩)) ?_
  rintro v av1 ⟨z, rfl, aF0, aC0⟩
  have aE1 := aE0.trans (aC0.mono aE0.size)
  have aH1 := aHS.out av1 aE1
  refine ⟨aH1, ?_⟩
  simp only [Act.put, List.setIfInBounds_toArray, List.set_cons_zero, List.set_cons_succ]
  refine hr_take_w 16 (some 7) (.pointer z) rfl rfl (by kernel_rfl) (by kernel_rfl) (by kernel_rfl) rfl (fun W hW => by obtain ⟨h0, h1, h2⟩ := hW; go_simp) aH1 ?_
  simp only [Act.put, List.setIfInBounds_toArray, List.set_cons_zero, List.set_cons_succ]
  refine wpAnyH_done (by kernel_rfl) ?_ _
  refine NoPanic.normal ?_
  have Ba : Below w.heap.size w av1 := B1.trans (aE1.mono B1.size)
  have Na := h.below Ba
  have c1 := Na.ok.c1
  by_cases h1 : d.ks.length = 1
  · have h1' : ((d.ks.length : Int) == 1) = true := by simp; omega
    have hx1 : xs.length = 1 := by omega
    have HX : Hid (A = [] ∧ B' = []) := HO.out hx1
    clear h1 hx1
    go_wp2
    go_ret
    refine ⟨_, rfl, ?_, Ba⟩
    rw [HD.out, HX.out.1, HX.out.2, List.nil_append, List.append_nil]
    exact aF0
  have h1' : ((d.ks.length : Int) == 1) = false := by simp; omega
  have HS := HM.out (by omega) _ rfl
  have TF : ∀ (V : World), Below av1.heap.size av1 V → ∀ (gn : Nat) (k1 : Option Addr) (k2 : Nat) (v1 : Option Addr) (v2 : Nat) (n1 : Option Addr) (n2 : Nat), V.heap[gn]? = some (.cells #[.int .i64 d.L, .slice k1 (i + 0 + (d.ks.length - (i + 1))) k2, .slice v1 (i + 0 + (d.vs.length - (i + 1))) v2, .slice n1 (i + 1 + (d.cs.length - (i + 2))) n2] 119) →
      VL V k1 (i + 0 + (d.ks.length - (i + 1))) k2 ((d.ks.map Part.val).take i ++ [] ++ (d.ks.map Part.val).drop (i + 1)) → VL V v1 (i + 0 + (d.vs.length - (i + 1))) v2 ((d.vs.map Part.val).take i ++ [] ++ (d.vs.map Part.val).drop (i + 1)) → VL V n1 (i + 1 + (d.cs.length - (i + 2))) n2 (d.cs.take i ++ [.pointer z] ++ d.cs.drop (i + 2)) → T V (.pointer (some ⟨gn, 0, none⟩)) (del l key) := by
    intro V hV gn k1 k2 v1 v2 n1 n2 hgn h1 h2 h3
    have Bv := Ba.trans (hV.mono Ba.size)
    have Nv := h.below Bv
    have kd := (Nv.kids.take i).app (Kids.cons (aF0.below hV) (Nv.kids.drop (i + 2)))
    rw [HD.out]
    refine T.make hgn (KL.of (ps := d.ks.take i ++ d.ks.drop (i + 1)) h1 (by simp [List.map_take, List.map_drop]) ?_) (KL.of (ps := d.vs.take i ++ d.vs.drop (i + 1)) h2 (by simp [List.map_take, List.map_drop]) ?_) h3 HS ?_ ?_ ?_
    · intro q hq
      rcases List.mem_append.1 hq with hq | hq
      · exact Nv.ok.kl.sl q (List.mem_of_mem_take hq)
      · exact Nv.ok.kl.sl q (List.mem_of_mem_drop hq)
    · intro q hq
      rcases List.mem_append.1 hq with hq | hq
      · exact Nv.ok.vl.sl q (List.mem_of_mem_take hq)
      · exact Nv.ok.vl.sl q (List.mem_of_mem_drop hq)
    · simp [List.map_take, List.map_drop, Nv.ek]
    · simp [List.map_take, List.map_drop, Nv.ev]
    · simpa using kd
  clear aF0 HD HM HO HS h1
  go_wp2_with fail
  have eHS : Hid (∀ V, Below av1.heap.size av1 V → V.cell? ⟨d.b, 0, none⟩ = some (.int .i64 d.L) ∧ V.cell? ⟨d.b, 1, none⟩ = some (.slice d.ko d.ks.length d.kc) ∧ V.cell? ⟨d.b, 2, none⟩ = some (.slice d.vo d.vs.length d.vc) ∧ V.cell? ⟨d.b, 3, none⟩ = some (.slice d.co d.cs.length d.cc)) := fun V hV => ⟨(Na.ok.below hV).c0, (Na.ok.below hV).c1, (Na.ok.below hV).c2, (Na.ok.below hV).c3⟩
  have eE0 : Below av1.heap.size av1 av1.drew := (Below.refl _ _).drew
  refine wp_region_noPanic ?_
  refine wp_region_held_drew (S := fun V => V.cell? ⟨d.b, 0, none⟩ = some (.int .i64 d.L) ∧ V.cell? ⟨d.b, 1, none⟩ = some (.slice d.ko d.ks.length d.kc) ∧ V.cell? ⟨d.b, 2, none⟩ = some (.slice d.vo d.vs.length d.vc) ∧ V.cell? ⟨d.b, 3, none⟩ = some (.slice d.co d.cs.length d.cc)) (by kernel_rfl) (eHS.out _ eE0) (fun eH0 => ?_)
  obtain ⟨ev0, hv0⟩ : ∃ v, v = av1.drew := ⟨_, rfl⟩
  rw [← hv0] at eH0 eE0 ⊢
  clear hv0
  refine hr_take_w 0 (some 51) (.pointer (some ⟨d.b, 0, none⟩)) rfl rfl (by kernel_rfl) (by kernel_rfl) (by kernel_rfl) rfl (fun W hW => by obtain ⟨h0, h1, h2, h3⟩ := hW; go_simp) eH0 ?_
  simp only [Act.put, List.setIfInBounds_toArray, List.set_cons_zero, List.set_cons_succ]
  refine hr_take_w 1 (some 52) (.pointer (some ⟨d.b, 0, none⟩)) rfl rfl (by kernel_rfl) (by kernel_rfl) (by kernel_rfl) rfl (fun W hW => by obtain ⟨h0, h1, h2, h3⟩ := hW; go_simp) eH0 ?_
  simp only [Act.put, List.setIfInBounds_toArray, List.set_cons_zero, List.set_cons_succ]
  refine hr_take_w 2 (some 53) (.pointer (some ⟨d.b, 0, none⟩)) rfl rfl (by kernel_rfl) (by kernel_rfl) (by kernel_rfl) rfl (fun W hW => by obtain ⟨h0, h1, h2, h3⟩ := hW; go_simp) eH0 ?_
  simp only [Act.put, List.setIfInBounds_toArray, List.set_cons_zero, List.set_cons_succ]
  refine hr_take_w 3 (some 54) (.int .i64 d.L) rfl rfl (by kernel_rfl) (by kernel_rfl) (by kernel_rfl) rfl (fun W hW => by obtain ⟨h0, h1, h2, h3⟩ := hW; go_simp) eH0 ?_
  simp only [Act.put, List.setIfInBounds_toArray, List.set_cons_zero, List.set_cons_succ]
  refine hr_take_w 4 (some 55) (.pointer (some ⟨d.b, 0, none⟩)) rfl rfl (by kernel_rfl) (by kernel_rfl) (by kernel_rfl) rfl (fun W hW => by obtain ⟨h0, h1, h2, h3⟩ := hW; go_simp) eH0 ?_
  simp only [Act.put, List.setIfInBounds_toArray, List.set_cons_zero, List.set_cons_succ]
  refine hr_take_w 5 (some 56) (.pointer (some ⟨d.b, 0, none⟩)) rfl rfl (by kernel_rfl) (by kernel_rfl) (by kernel_rfl) rfl (fun W hW => by obtain ⟨h0, h1, h2, h3⟩ := hW; go_simp) eH0 ?_
  simp only [Act.put, List.setIfInBounds_toArray, List.set_cons_zero, List.set_cons_succ]
  refine hr_take_w 6 (some 57) (.pointer (some ⟨d.b, 1, none⟩)) rfl rfl (by kernel_rfl) (by kernel_rfl) (by kernel_rfl) rfl (fun W hW => by obtain ⟨h0, h1, h2, h3⟩ := hW; go_simp) eH0 ?_
  simp only [Act.put, List.setIfInBounds_toArray, List.set_cons_zero, List.set_cons_succ]
  refine hr_take_w 7 (some 58) (.slice d.ko d.ks.length d.kc) rfl rfl (by kernel_rfl) (by kernel_rfl) (by kernel_rfl) rfl (fun W hW => by obtain ⟨h0, h1, h2, h3⟩ := hW; go_simp) eH0 ?_
  simp only [Act.put, List.setIfInBounds_toArray, List.set_cons_zero, List.set_cons_succ]
  refine hr_take_w 8 (some 59) (.int .i64 i) rfl rfl (by kernel_rfl) (by kernel_rfl) (by kernel_rfl) rfl (fun W hW => by obtain ⟨h0, h1, h2, h3⟩ := hW; go_simp) eH0 ?_
  simp only [Act.put, List.setIfInBounds_toArray, List.set_cons_zero, List.set_cons_succ]
  refine hr_take_w 9 (some 60) (.int .i64 i) rfl rfl (by kernel_rfl) (by kernel_rfl) (by kernel_rfl) rfl (fun W hW => by obtain ⟨h0, h1, h2, h3⟩ := hW; go_simp) eH0 ?_
  simp only [Act.put, List.setIfInBounds_toArray, List.set_cons_zero, List.set_cons_succ]
  refine hr_take_w 10 (some 61) (.int .i64 ((i + 1 : Nat) : Int)) rfl rfl (by kernel_rfl) (by kernel_rfl) (by kernel_rfl) rfl (fun W hW => by obtain ⟨h0, h1, h2, h3⟩ := hW; go_simp) eH0 ?_
  simp only [Act.put, List.setIfInBounds_toArray, List.set_cons_zero, List.set_cons_succ]
  refine hr_take_w 12 (some 63) (.pointer (some ⟨d.b, 0, none⟩)) rfl rfl (by kernel_rfl) (by kernel_rfl) (by kernel_rfl) rfl (fun W hW => by obtain ⟨h0, h1, h2, h3⟩ := hW; go_simp) eH0 ?_
  simp only [Act.put, List.setIfInBounds_toArray, List.set_cons_zero, List.set_cons_succ]
  refine hr_take_w 13 (some 64) (.pointer (some ⟨d.b, 0, none⟩)) rfl rfl (by kernel_rfl) (by kernel_rfl) (by kernel_rfl) rfl (fun W hW => by obtain ⟨h0, h1, h2, h3⟩ := hW; go_simp) eH0 ?_
  simp only [Act.put, List.setIfInBounds_toArray, List.set_cons_zero, List.set_cons_succ]
  refine hr_take_w 14 (some 65) (.pointer (some ⟨d.b, 2, none⟩)) rfl rfl (by kernel_rfl) (by kernel_rfl) (by kernel_rfl) rfl (fun W hW => by obtain ⟨h0, h1, h2, h3⟩ := hW; go_simp) eH0 ?_
  simp only [Act.put, List.setIfInBounds_toArray, List.set_cons_zero, List.set_cons_succ]
  refine hr_take_w 15 (some 66) (.slice d.vo d.vs.length d.vc) rfl rfl (by kernel_rfl) (by kernel_rfl) (by kernel_rfl) rfl (fun W hW => by obtain ⟨h0, h1, h2, h3⟩ := hW; go_simp) eH0 ?_
  simp only [Act.put, List.setIfInBounds_toArray, List.set_cons_zero, List.set_cons_succ]
  refine hr_take_w 16 (some 67) (.int .i64 i) rfl rfl (by kernel_rfl) (by kernel_rfl) (by kernel_rfl) rfl (fun W hW => by obtain ⟨h0, h1, h2, h3⟩ := hW; go_simp) eH0 ?_
  simp only [Act.put, List.setIfInBounds_toArray, List.set_cons_zero, List.set_cons_succ]
  refine hr_take_w 17 (some 68) (.int .i64 i) rfl rfl (by kernel_rfl) (by kernel_rfl) (by kernel_rfl) rfl (fun W hW => by obtain ⟨h0, h1, h2, h3⟩ := hW; go_simp) eH0 ?_
  simp only [Act.put, List.setIfInBounds_toArray, List.set_cons_zero, List.set_cons_succ]
  refine hr_take_w 18 (some 69) (.int .i64 ((i + 1 : Nat) : Int)) rfl rfl (by kernel_rfl) (by kernel_rfl) (by kernel_rfl) rfl (fun W hW => by obtain ⟨h0, h1, h2, h3⟩ := hW; go_simp) eH0 ?_
  simp only [Act.put, List.setIfInBounds_toArray, List.set_cons_zero, List.set_cons_succ]
  refine hr_take_w 20 (some 71) (.pointer (some ⟨d.b, 0, none⟩)) rfl rfl (by kernel_rfl) (by kernel_rfl) (by kernel_rfl) rfl (fun W hW => by obtain ⟨h0, h1, h2, h3⟩ := hW; go_simp) eH0 ?_
  simp only [Act.put, List.setIfInBounds_toArray, List.set_cons_zero, List.set_cons_succ]
  refine hr_take_w 21 (some 72) (.pointer (some ⟨d.b, 0, none⟩)) rfl rfl (by kernel_rfl) (by kernel_rfl) (by kernel_rfl) rfl (fun W hW => by obtain ⟨h0, h1, h2, h3⟩ := hW; go_simp) eH0 ?_
  simp only [Act.put, List.setIfInBounds_toArray, List.set_cons_zero, List.set_cons_succ]
  refine hr_take_w 22 (some 73) (.pointer (some ⟨d.b, 3, none⟩)) rfl rfl (by kernel_rfl) (by kernel_rfl) (by kernel_rfl) rfl (fun W hW => by obtain ⟨h0, h1, h2, h3⟩ := hW; go_simp) eH0 ?_
  simp only [Act.put, List.setIfInBounds_toArray, List.set_cons_zero, List.set_cons_succ]
  refine hr_take_w 23 (some 74) (.slice d.co d.cs.length d.cc) rfl rfl (by kernel_rfl) (by kernel_rfl) (by kernel_rfl) rfl (fun W hW => by obtain ⟨h0, h1, h2, h3⟩ := hW; go_simp) eH0 ?_
  simp only [Act.put, List.setIfInBounds_toArray, List.set_cons_zero, List.set_cons_succ]
  refine hr_take_w 24 (some 75) (.int .i64 i) rfl rfl (by kernel_rfl) (by kernel_rfl) (by kernel_rfl) rfl (fun W hW => by obtain ⟨h0, h1, h2, h3⟩ := hW; go_simp) eH0 ?_
  simp only [Act.put, List.setIfInBounds_toArray, List.set_cons_zero, List.set_cons_succ]
  refine hr_take_w 25 (some 76) (.int .i64 i) rfl rfl (by kernel_rfl) (by kernel_rfl) (by kernel_rfl) rfl (fun W hW => by obtain ⟨h0, h1, h2, h3⟩ := hW; go_simp) eH0 ?_
  simp only [Act.put, List.setIfInBounds_toArray, List.set_cons_zero, List.set_cons_succ]
  refine hr_take_w 26 (some 77) (.int .i64 ((i + 2 : Nat) : Int)) rfl rfl (by kernel_rfl) (by kernel_rfl) (by kernel_rfl) rfl (fun W hW => by obtain ⟨h0, h1, h2, h3⟩ := hW; go_simp) eH0 ?_
  simp only [Act.put, List.setIfInBounds_toArray, List.set_cons_zero, List.set_cons_succ]
  refine hr_take_w 27 (some 78) (.pointer z) rfl rfl (by kernel_rfl) (by kernel_rfl) (by kernel_rfl) rfl (fun W hW => by obtain ⟨h0, h1, h2, h3⟩ := hW; go_simp) eH0 ?_
  simp only [Act.put, List.setIfInBounds_toArray, List.set_cons_zero, List.set_cons_succ]
  refine wpAnyH_effs (fun zi zv zw => (zi = 11 → ∃ ro rc, zv = .slice ro (i + 0 + (d.ks.length - (i + 1))) rc ∧ VL zw ro (i + 0 + (d.ks.length - (i + 1))) rc ((d.ks.map Part.val).take i ++ [] ++ (d.ks.map Part.val).drop (i + 1))) ∧ (zi = 19 → ∃ ro rc, zv = .slice ro (i + 0 + (d.vs.length - (i + 1))) rc ∧ VL zw ro (i + 0 + (d.vs.length - (i + 1))) rc ((d.vs.map Part.val).take i ++ [] ++ (d.vs.map Part.val).drop (i + 1))) ∧ (zi = 28 → ∃ g, zv = .slice (some ⟨g, 0, none⟩) 1 1 ∧ VL zw (some ⟨g, 0, none⟩) 1 1 [.pointer z]) ∧ (zi = 29 → ∃ ro rc, zv = .slice ro (i + 1 + (d.cs.length - (i + 2))) rc ∧ VL zw ro (i + 1 + (d.cs.length - (i + 2))) rc (d.cs.take i ++ [.pointer z] ++ d.cs.drop (i + 2))) ∧ (zi = 30 → ∃ k1 k2 v1 v2 n1 n2, zv = .agg #[.int .i64 d.L, .slice k1 (i + 0 + (d.ks.length - (i + 1))) k2, .slice v1 (i + 0 + (d.vs.length - (i + 1))) v2, .slice n1 (i + 1 + (d.cs.length - (i + 2))) n2] ∧ VL zw k1 (i + 0 + (d.ks.length - (i + 1))) k2 ((d.ks.map Part.val).take i ++ [] ++ (d.ks.map Part.val).drop (i + 1)) ∧ VL zw v1 (i + 0 + (d.vs.length - (i + 1))) v2 ((d.vs.map Part.val).take i ++ [] ++ (d.vs.map Part.val).drop (i + 1)) ∧ VL zw n1 (i + 1 + (d.cs.length - (i + 2))) n2 (d.cs.take i ++ [.pointer z] ++ d.cs.drop (i + 2))) ∧ (zi = 31 → T zw zv (del l key)) ∧ (zi = 32 → T zw zv (del l key))) [11, 19, 28, 29, 30, 31, 32] 83 (by kernel_rfl) (by kernel_rfl) (Nat.le_of_eq (by kernel_rfl)) rfl rfl ?_ (fun W hW => eHS.out W (eE0.trans (hW.mono eE0.size))) ?_ ?_
  · intro zi v w w' h hb
    refine ⟨fun e => ?_, fun e => ?_, fun e => ?_, fun e => ?_, fun e => ?_, fun e => ?_, fun e => ?_⟩
    · have h := h.1 e
      obtain ⟨ro, rc, h1, h2⟩ := h
      exact ⟨ro, rc, h1, h2.below hb⟩
    · have h := h.2.1 e
      obtain ⟨ro, rc, h1, h2⟩ := h
      exact ⟨ro, rc, h1, h2.below hb⟩
    · have h := h.2.2.1 e
      obtain ⟨g, h1, h2⟩ := h
      exact ⟨g, h1, h2.below hb⟩
    · have h := h.2.2.2.1 e
      obtain ⟨ro, rc, h1, h2⟩ := h
      exact ⟨ro, rc, h1, h2.below hb⟩
    · have h := h.2.2.2.2.1 e
      obtain ⟨k1, k2, v1, v2, n1, n2, h1, h2, h3, h4⟩ := h
      exact ⟨k1, k2, v1, v2, n1, n2, h1, h2.below hb, h3.below hb, h4.below hb⟩
    · have h := h.2.2.2.2.2.1 e
      exact h.below hb
    · have h := h.2.2.2.2.2.2 e
      exact h.below hb
  · intro zi zhi o a w ho hs hb hdep
    simp only [List.mem_cons, List.not_mem_nil, or_false] at zhi
    rcases zhi with rfl | rfl | rfl | rfl | rfl | rfl | rfl
    · obtain rfl : _ = o := Option.some.inj (show some _ = some o from ho)
      have t58 : a.tmps[58]? = some (.slice d.ko d.ks.length d.kc) := hs.get 58 (by kernel_rfl) rfl
      have t59 : a.tmps[59]? = some (.int .i64 i) := hs.get 59 (by kernel_rfl) rfl
      have t61 : a.tmps[61]? = some (.int .i64 ((i + 1 : Nat) : Int)) := hs.get 61 (by kernel_rfl) rfl
      have E1 := eE0.trans (hb.mono eE0.size)
      refine .inr ⟨134, #[.slice d.ko d.ks.length d.kc, .int .i64 i, .int .i64 ((i + 1 : Nat) : Int), .slice none 0 0], by go_simp, (chgK_any w d.ko none d.ks.length d.kc 0 0 i (i + 1) (d.ks.map Part.val) [] (Na.ok.kl.vl.below E1) (VL.nothing w) (part_one _) (by simp) (by omega) (by omega) (by omega)).mono ?_⟩
      rintro e w' ⟨ro, rc, rfl, h1, h2⟩
      exact ⟨_, rfl, ⟨fun _ => ⟨ro, rc, rfl, h1⟩, fun e => absurd e (by decide), fun e => absurd e (by decide), fun e => absurd e (by decide), fun e => absurd e (by decide), fun e => absurd e (by decide), fun e => absurd e (by decide)⟩, h2⟩
    · obtain rfl : _ = o := Option.some.inj (show some _ = some o from ho)
      have t66 : a.tmps[66]? = some (.slice d.vo d.vs.length d.vc) := hs.get 66 (by kernel_rfl) rfl
      have t67 : a.tmps[67]? = some (.int .i64 i) := hs.get 67 (by kernel_rfl) rfl
      have t69 : a.tmps[69]? = some (.int .i64 ((i + 1 : Nat) : Int)) := hs.get 69 (by kernel_rfl) rfl
      have E1 := eE0.trans (hb.mono eE0.size)
      refine .inr ⟨134, #[.slice d.vo d.vs.length d.vc, .int .i64 i, .int .i64 ((i + 1 : Nat) : Int), .slice none 0 0], by go_simp, (chgK_any w d.vo none d.vs.length d.vc 0 0 i (i + 1) (d.vs.map Part.val) [] (Na.ok.vl.vl.below E1) (VL.nothing w) (part_one _) (by simp) (by omega) (by omega) (by omega)).mono ?_⟩
      rintro e w' ⟨ro, rc, rfl, h1, h2⟩
      exact ⟨_, rfl, ⟨fun e => absurd e (by decide), fun _ => ⟨ro, rc, rfl, h1⟩, fun e => absurd e (by decide), fun e => absurd e (by decide), fun e => absurd e (by decide), fun e => absurd e (by decide), fun e => absurd e (by decide)⟩, h2⟩
    · obtain rfl : _ = o := Option.some.inj (show some _ = some o from ho)
      have t78 : a.tmps[78]? = some (.pointer z) := hs.get 78 (by kernel_rfl) rfl
      exact .inl ⟨_, _, by go_simp, ⟨fun e => absurd e (by decide), fun e => absurd e (by decide), fun _ => ⟨_, rfl, VL.new w [.pointer z] 85 (by simp [maxLen])⟩, fun e => absurd e (by decide), fun e => absurd e (by decide), fun e => absurd e (by decide), fun e => absurd e (by decide)⟩, (Below.refl _ _).alloc (Nat.le_refl _) _⟩
    · obtain rfl : _ = o := Option.some.inj (show some _ = some o from ho)
      have t74 : a.tmps[74]? = some (.slice d.co d.cs.length d.cc) := hs.get 74 (by kernel_rfl) rfl
      have t75 : a.tmps[75]? = some (.int .i64 i) := hs.get 75 (by kernel_rfl) rfl
      have t77 : a.tmps[77]? = some (.int .i64 ((i + 2 : Nat) : Int)) := hs.get 77 (by kernel_rfl) rfl
      obtain ⟨x79, t79, f79⟩ := (hdep 28 (by kernel_rfl) (by kernel_rfl)).at 79 (by kernel_rfl)
      replace f79 := f79.2.2.1 rfl
      obtain ⟨g1, rfl, G1⟩ := f79
      have E1 := eE0.trans (hb.mono eE0.size)
      refine .inr ⟨135, #[.slice d.co d.cs.length d.cc, .int .i64 i, .int .i64 ((i + 2 : Nat) : Int), .slice (some ⟨g1, 0, none⟩) 1 1], by go_simp, (chgN_any w d.co (some ⟨g1, 0, none⟩) d.cs.length d.cc 1 1 i (i + 2) d.cs [.pointer z] (Na.ok.cl.below E1) G1 Na.one (by intro y hy; rw [List.mem_singleton.1 hy]; rfl) (by omega) (by omega) (by omega)).mono ?_⟩
      rintro e w' ⟨ro, rc, rfl, h1, h2⟩
      exact ⟨_, rfl, ⟨fun e => absurd e (by decide), fun e => absurd e (by decide), fun e => absurd e (by decide), fun _ => ⟨ro, rc, rfl, h1⟩, fun e => absurd e (by decide), fun e => absurd e (by decide), fun e => absurd e (by decide)⟩, h2⟩
    · obtain rfl : _ = o := Option.some.inj (show some _ = some o from ho)
      have t54 : a.tmps[54]? = some (.int .i64 d.L) := hs.get 54 (by kernel_rfl) rfl
      obtain ⟨x62, t62, f62⟩ := (hdep 11 (by kernel_rfl) (by kernel_rfl)).at 62 (by kernel_rfl)
      replace f62 := f62.1 rfl
      obtain ⟨x70, t70, f70⟩ := (hdep 19 (by kernel_rfl) (by kernel_rfl)).at 70 (by kernel_rfl)
      replace f70 := f70.2.1 rfl
      obtain ⟨x80, t80, f80⟩ := (hdep 29 (by kernel_rfl) (by kernel_rfl)).at 80 (by kernel_rfl)
      replace f80 := f80.2.2.2.1 rfl
      obtain ⟨k1, k2, rfl, h1⟩ := f62
      obtain ⟨v1, v2, rfl, h2⟩ := f70
      obtain ⟨n1, n2, rfl, h3⟩ := f80
      exact .inl ⟨.agg #[.int .i64 d.L, .slice k1 (i + 0 + (d.ks.length - (i + 1))) k2, .slice v1 (i + 0 + (d.vs.length - (i + 1))) v2, .slice n1 (i + 1 + (d.cs.length - (i + 2))) n2], w, by go_simp, ⟨fun e => absurd e (by decide), fun e => absurd e (by decide), fun e => absurd e (by decide), fun e => absurd e (by decide), fun _ => ⟨k1, k2, v1, v2, n1, n2, rfl, h1, h2, h3⟩, fun e => absurd e (by decide), fun e => absurd e (by decide)⟩, Below.refl _ _⟩
    · obtain rfl : _ = o := Option.some.inj (show some _ = some o from ho)
      obtain ⟨x81, t81, f81⟩ := (hdep 30 (by kernel_rfl) (by kernel_rfl)).at 81 (by kernel_rfl)
      replace f81 := f81.2.2.2.2.1 rfl
      obtain ⟨k1, k2, v1, v2, n1, n2, rfl, h1, h2, h3⟩ := f81
      have E1 := eE0.trans (hb.mono eE0.size)
      have hA2 : Below w.heap.size w (w.alloc (.cells #[.int .i64 d.L, .slice k1 (i + 0 + (d.ks.length - (i + 1))) k2, .slice v1 (i + 0 + (d.vs.length - (i + 1))) v2, .slice n1 (i + 1 + (d.cs.length - (i + 2))) n2] 119)) := (Below.refl _ _).alloc (Nat.le_refl _) _
      refine .inl ⟨_, _, by go_simp, ⟨fun e => absurd e (by decide), fun e => absurd e (by decide), fun e => absurd e (by decide), fun e => absurd e (by decide), fun e => absurd e (by decide), fun _ => TF _ (E1.trans (hA2.mono E1.size)) _ _ _ _ _ _ _ (heap_alloc_new w _) (h1.below hA2) (h2.below hA2) (h3.below hA2), fun e => absurd e (by decide)⟩, hA2⟩
    · obtain rfl : _ = o := Option.some.inj (show some _ = some o from ho)
      obtain ⟨x82, t82, f82⟩ := (hdep 31 (by kernel_rfl) (by kernel_rfl)).at 82 (by kernel_rfl)
      replace f82 := f82.2.2.2.2.2.1 rfl
      exact .inl ⟨x82, w, by go_simp, ⟨fun e => absurd e (by decide), fun e => absurd e (by decide), fun e => absurd e (by decide), fun e => absurd e (by decide), fun e => absurd e (by decide), fun e => absurd e (by decide), fun _ => f82⟩, Below.refl _ _⟩
  · intro za zw hs hb hh
    obtain ⟨x4, t4, f4⟩ := (hh 32 (by simp)).at 4 (by kernel_rfl); replace f4 := f4.2.2.2.2.2.2 rfl
    have E1 := Ba.trans ((eE0.trans (hb.mono eE0.size)).mono Ba.size)
    have hde : za.defers = [] := hs.defers
    go_wp2
    refine bodyPost_ret (v := x4) (by rw [results_tmp rfl]; simp [t4]) hde ?_
    exact ⟨_, rfl, f4, E1⟩
theorem without_fuel : ∀ (N : Nat) (l : List It) (w : World) (v : Value) (key : List Int) (xo : Option Addr) (xn xc : Nat), l.length ≤ N → Sl w xo xn xc key → T w v l → Srt l → has key l → l.length ≤ 100000 →
    Calls Tryz.prog 127 #[v, .slice xo xn xc] w (RetT w (del l key)) := by
  intro N
  induction N with
  | zero =>
    intro l w v key xo xn xc hN hx hT hs hk hn
    obtain rfl : l = [] := List.eq_nil_of_length_eq_zero (by omega)
    obtain ⟨y, hy, -⟩ := hk
    simp at hy
  | succ N ih =>
    intro l w v key xo xn xc hN hx hT hs hk hn
    rcases hT.is with ⟨rfl, rfl⟩ | ⟨d, segs, xs, rfl, h⟩
    · obtain ⟨y, hy, -⟩ := hk
      simp at hy
    · exact without_node w key xo xn xc hx l d segs xs h hs hk hn (fun V u s hlt hV hu hss hks => ih s V u key xo xn xc (by omega) (hx.below hV) hu hss hks (by omega))
end Go.Proofs.YtnicnfjickknjaaGreatDoor

namespace Go.Proofs.YtnicnfjickknjaaGreatDoor
open Go.RowKit

theorem least (p : Nat → Prop) : ∀ n, p n → ∃ m, p m ∧ ∀ k, k < m → ¬ p k := by
  intro n
  induction n using Nat.strongRecOn with
  | ind n ih =>
    intro hn
    by_cases h : ∃ k, k < n ∧ p k
    · obtain ⟨k, hk, hp⟩ := h
      exact ih k hk hp
    · exact ⟨n, hn, fun k hk hp => h ⟨k, hk, hp⟩⟩
theorem wp_scope_dec {P : Program} {Q : Exit → Act → World → Prop} {a : Act} {w : World} {y : Code} (l : Nat) (J : Nat → Act → World → Prop) (n : Nat) (h0 : J n a w)
    (pass : ∀ n a w, J n a w → y.wp P (Exit.jump l (fun a' w' => ∃ m, m < n ∧ J m a' w') Q) a w) : (Code.scope ((Code.label l).seq y)).wp P Q a w := by
  have hex : ∀ p : Act × World, ∃ n, (∃ k, J k p.1 p.2) → (J n p.1 p.2 ∧ ∀ m, m < n → ¬ J m p.1 p.2) := by
    intro p
    by_cases h : ∃ k, J k p.1 p.2
    · obtain ⟨k, hk⟩ := h
      obtain ⟨m, h1, h2⟩ := least (fun k => J k p.1 p.2) k hk
      exact ⟨m, fun _ => ⟨h1, h2⟩⟩
    · exact ⟨0, fun h' => absurd h' h⟩
  obtain ⟨μ, hμ⟩ := Classical.axiomOfChoice hex
  refine wp_scope_label l (fun a w => ∃ n, J n a w) (fun a w => μ (a, w)) ⟨n, h0⟩ ?_
  intro a w hJ
  obtain ⟨h1, h2⟩ := hμ (a, w) hJ
  refine wp_mono (pass _ a w h1) ?_
  intro e a' w' h
  cases e with
  | goto l' =>
    obtain ⟨he, ⟨m, hm, hJm⟩⟩ := h
    refine ⟨he, ⟨m, hJm⟩, ?_⟩
    obtain ⟨h3, h4⟩ := hμ (a', w') ⟨m, hJm⟩
    have : ¬ m < μ (a', w') := fun hlt => h4 m hlt hJm
    show μ (a', w') < μ (a, w)
    have hm' : m < μ (a, w) := hm
    omega
  | _ => exact h
end Go.Proofs.YtnicnfjickknjaaGreatDoor

namespace Go.Proofs.YtnicnfjickknjaaGreatDoor
open Go.RowKit

/-- What a search for a key answers. -/
def FoundV (w : World) (l : List It) (key : List Int) (e : Ending) (w' : World) : Prop := ∃ (qo : Option Addr) (qn qc : Nat) (b : Bool), e = .returned (.tuple #[.slice qo qn qc, .bool b]) ∧
  (b = true → ∃ x ∈ l, x.k = key ∧ Sl w' qo qn qc x.v) ∧ (b = false → ¬ has key l ∧ qo = none ∧ qn = 0 ∧ qc = 0) ∧ Below w.heap.size w w'

/-- What holds at the label. -/
def FJ (w : World) (l : List It) (key : List Int) (xo : Option Addr) (m xc : Nat) (n : Nat) (a' : Act) (w' : World) : Prop := Below w.heap.size w w' ∧ ∃ (u u6 u7 u8 u9 u10 u11 u12 u13 u14 u15 u16 u17 u18 u19 u20 u21 u22 u23 u24 u25 u26 u27 u28 u29 u30 : Value) (l' : List It),
  a' = { tmps := #[u, .slice xo m xc, undef, undef, .slice none 0 0, .bool false, u6, u7, u8, u9, u10, u11, u12, u13, u14, u15, u16, u17, u18, u19, u20, u21, u22, u23, u24, u25, u26, u27, u28, u29, u30], defers := [] } ∧ T w' u l' ∧ Srt l' ∧ (∀ x ∈ l', x ∈ l) ∧ (has key l → has key l') ∧ l'.length = n ∧ n ≤ 100000

set_option maxHeartbeats 4000000 in
set_option maxRecDepth 100000 in
theorem find_any (w : World) (v : Value) (l : List It) (key : List Int) (xo : Option Addr) (m xc : Nat) (hT : T w v l) (hs : Srt l) (hx : Sl w xo m xc key) (hn : l.length ≤ 100000) :
    Calls Tryz.prog 126 #[v, .slice xo m xc] w (FoundV w l key) := by
  go_enter Tryz.func126, Tryz.ntmps126
  go_wp2
  refine wp_scope_dec 0 (FJ w l key xo m xc) l.length ?_ ?_
  · exact ⟨Below.refl _ _, v, _, _, _, _, _, _, _, _, _, _, _, _, _, _, _, _, _, _, _, _, _, _, _, _, _, l, rfl, hT, hs, fun x hx => hx, fun h => h, rfl, hn⟩
  · rintro n a' w' ⟨hB, u, u6, u7, u8, u9, u10, u11, u12, u13, u14, u15, u16, u17, u18, u19, u20, u21, u22, u23, u24, u25, u26, u27, u28, u29, u30, l', rfl, hT', hs', hsub, hhas, hlen, hn'⟩
    have HN : Hid (l'.length = n) := hlen
    have HH : Hid (has key l → has key l') := hhas
    have HU : Hid (∀ x ∈ l', x ∈ l) := hsub
    have hln : l'.length ≤ 100000 := by omega
    clear hlen hhas hsub hn'
    rcases hT'.is with ⟨rfl, rfl⟩ | ⟨d, segs, xs, rfl, h⟩
    · go_wp2
      simp only [Exit.jump]
      go_ret2
      refine ⟨none, 0, 0, false, rfl, by simp, fun _ => ⟨fun hk => ?_, rfl, rfl, rfl⟩, hB⟩
      obtain ⟨y, hy, -⟩ := HH.out hk
      simp at hy
    · have hm := h.many
      have hnk1 := Nat.le_of_eq h.nk
      have hnk2 := Nat.le_of_eq h.nk.symm
      have hnv1 := Nat.le_of_eq h.nv
      have hnv2 := Nat.le_of_eq h.nv.symm
      have hnc1 := Nat.le_of_eq h.nc
      have hnc2 := Nat.le_of_eq h.nc.symm
      have CP := place_any w' d h.ok xo m xc key (hx.below hB) (h.rise hs') (by omega)
      unfold Nd.ptr at CP ⊢
      go_wp2_with fail
      refine CP.mono ?_
      rintro e w1 ⟨i, b, rfl, hat, B1⟩
      have N1 := h.below B1
      have E1 : Below w.heap.size w w1 := hB.trans (B1.mono hB.size)
      obtain ⟨s, A, B, c, hA, hBB, hB2, hf⟩ := h.found hs' hat
      have hle := c.le
      clear CP
      cases b with
      | true =>
        obtain ⟨hi, he⟩ := hf rfl
        have hv : i < d.vs.length := by omega
        have hvi : (i : Int) < (d.vs.length : Int) := by omega
        have V1 := N1.ok.vl
        have c2 := N1.ok.c2
        obtain ⟨vb, vf, ev, hcell⟩ := V1.vl.at (by omega)
        have c1 := hcell i (by simpa using hv)
        have S1 := V1.sl d.vs[i] (List.getElem_mem hv)
        have hval := h.valAt i hv hi
        simp only [List.getElem_map] at c1
        rw [ev] at c2
        obtain ⟨q, hq⟩ : ∃ q, q = d.vs[i] := ⟨_, rfl⟩
        rw [← hq] at c1 S1 hval
        have HX : Hid (xs[i].k = key) := he
        have HV : Hid (q.xs = xs[i].v) := hval
        unfold Part.val at c1
        clear hq hcell he hval hf hB2 hat
        go_wp2
        simp only [Exit.jump]
        go_ret2
        refine ⟨q.ao, q.n, q.cap, true, rfl, fun _ => ⟨xs[i], HU.out _ (h.shp.key _ (List.getElem_mem hi)), HX.out, by rw [← HV.out]; exact S1⟩, by simp, E1⟩
      | false =>
        have hB3 := hB2 rfl
        obtain ⟨kb, ko, s', u', eco, hs1, hs2, hcell, hTk, hlen⟩ := N1.kidAt i hle
        obtain rfl : s = s' := Option.some.inj (c.seg.symm.trans hs1)
        have hss : Srt s := by
          have h1 := hs'
          rw [c.el] at h1
          exact h1.app.2.1.app.1
        have c3 := N1.ok.c3
        rw [eco] at c3
        have hii : (i : Int) < (d.cs.length : Int) := by omega
        obtain ⟨q, rfl⟩ := hTk.ptr
        have HK : Hid (has key l → has key s) := fun hk => by
          obtain ⟨y, hy, he⟩ := HH.out hk
          rw [c.el] at hy
          rcases List.mem_append.1 hy with hy | hy
          · exact absurd he (cmpL_lt_ne (hA y hy))
          · rcases List.mem_append.1 hy with hy | hy
            · exact ⟨y, hy, he⟩
            · exact absurd he.symm (cmpL_lt_ne (hB3 y hy))
        have HS : Hid (∀ x ∈ s, x ∈ l) := fun y hy => HU.out y (h.shp.seg _ (List.mem_of_getElem? c.seg) y hy)
        have hlN : s.length < n := by have := HN.out; omega
        clear hs1 hs2 hf hB2 hat eco HH HU
        go_wp2
        go_step3
        refine ⟨rfl, s.length, hlN, E1, _, _, _, _, _, _, _, _, _, _, _, _, _, _, _, _, _, _, _, _, _, _, _, _, _, _, s, rfl, hTk, hss, HS.out, HK.out, rfl, by omega⟩
end Go.Proofs.YtnicnfjickknjaaGreatDoor
