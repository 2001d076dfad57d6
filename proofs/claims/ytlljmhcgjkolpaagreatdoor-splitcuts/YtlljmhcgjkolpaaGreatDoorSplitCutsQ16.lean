/-
  Texts in one: PWithM.
-/
import Derived.Test.YtlljmhcgjkolpaaGreatDoorSplitCutsQFL
import Derived.Test.YtlljmhcgjkolpaaGreatDoorSplitCutsQ11
import Derived.Test.YtlljmhcgjkolpaaGreatDoorSplitCutsQ12
import Derived.Test.YtlljmhcgjkolpaaGreatDoorSplitCutsQ13
namespace Go.Proofs.YtlljmhcgjkolpaaGreatDoor
open Go.RowKit
set_option maxHeartbeats 4000000 in
set_option maxRecDepth 100000 in
theorem withM_any (w : World) (x : It) (xo yo : Option Addr) (xn xc yn yc : Nat) (hx : Sl w xo xn xc x.k) (hy : Sl w yo yn yc x.v) (l : List It) (d : Nd) (segs : List (List It)) (xs : List It) (h : Nod w l d segs xs) (hs : Srt l) (hn : l.length ≤ 100000) (hL : Hid (d.L = lev x.k)) (hh : ¬ has x.k l) :
    Calls Tryz.prog 104 #[d.ptr, .agg #[.int .i64 (lev x.k), .slice xo xn xc, .slice yo yn yc]] w (RetT w (ins l x)) := by
  have hl1 : lev x.k ≤ d.L := by have := hL.out; omega
  have hl2 : d.L ≤ lev x.k := by have := hL.out; omega
  have hm := h.many
  have hnk1 := Nat.le_of_eq h.nk
  have hnk2 := Nat.le_of_eq h.nk.symm
  have hnv1 := Nat.le_of_eq h.nv
  have hnv2 := Nat.le_of_eq h.nv.symm
  have hnc1 := Nat.le_of_eq h.nc
  have hnc2 := Nat.le_of_eq h.nc.symm
  have hpos := h.shp.pos
  have CP : ∀ V, Below w.heap.size w V → Calls Tryz.prog 136 #[d.ptr, .slice xo xn xc] V (Found V d.ks x.k) := fun V hV => place_any V d (h.ok.below hV) xo xn xc x.k (hx.below hV) (h.rise hs) (by omega)
  unfold Nd.ptr at CP ⊢
  go_enter Tryz.func104, Tryz.ntmps104
  go_wp2_with fail
  obtain ⟨w0, hw0⟩ : ∃ V, V = (w.alloc (.cells #[.int .i64 (lev x.k), .slice xo xn xc, .slice yo yn yc] 150)) := ⟨_, rfl⟩
  have L0 : Lf w0 w.heap.size (lev x.k) (.slice xo xn xc) (.slice yo yn yc) := by rw [hw0]; exact Lf.new ..
  have B0 : Below w.heap.size w w0 := by rw [hw0]; exact (Below.refl _ w).alloc (Nat.le_refl _) _
  rw [← hw0]
  obtain ⟨g, hg⟩ : ∃ g, g = w.heap.size := ⟨_, rfl⟩
  rw [← hg] at L0 ⊢
  clear hw0 hg
  have N0 := h.below B0
  have aHS : Hid (∀ V, Below w0.heap.size w0 V → V.cell? ⟨d.b, 0, none⟩ = some (.int .i64 d.L) ∧ V.cell? ⟨d.b, 1, none⟩ = some (.slice d.ko d.ks.length d.kc) ∧ V.cell? ⟨d.b, 2, none⟩ = some (.slice d.vo d.vs.length d.vc) ∧ V.cell? ⟨d.b, 3, none⟩ = some (.slice d.co d.cs.length d.cc) ∧ V.cell? ⟨g, 0, none⟩ = some (.int .i64 (lev x.k)) ∧ V.cell? ⟨g, 1, none⟩ = some (.slice xo xn xc) ∧ V.cell? ⟨g, 2, none⟩ = some (.slice yo yn yc)) := fun V hV => ⟨(N0.ok.below hV).c0, (N0.ok.below hV).c1, (N0.ok.below hV).c2, (N0.ok.below hV).c3, (L0.below hV).c0, (L0.below hV).c1, (L0.below hV).c2⟩
  have aE0 : Below w0.heap.size w0 w0.drew := (Below.refl _ _).drew
  refine wp_region_noPanic ?_
  refine wp_region_held_drew (S := fun V => V.cell? ⟨d.b, 0, none⟩ = some (.int .i64 d.L) ∧ V.cell? ⟨d.b, 1, none⟩ = some (.slice d.ko d.ks.length d.kc) ∧ V.cell? ⟨d.b, 2, none⟩ = some (.slice d.vo d.vs.length d.vc) ∧ V.cell? ⟨d.b, 3, none⟩ = some (.slice d.co d.cs.length d.cc) ∧ V.cell? ⟨g, 0, none⟩ = some (.int .i64 (lev x.k)) ∧ V.cell? ⟨g, 1, none⟩ = some (.slice xo xn xc) ∧ V.cell? ⟨g, 2, none⟩ = some (.slice yo yn yc)) (by kernel_rfl) (aHS.out _ aE0) (fun aH0 => ?_)
  obtain ⟨av0, hv0⟩ : ∃ v, v = w0.drew := ⟨_, rfl⟩
  rw [← hv0] at aH0 aE0 ⊢
  clear hv0
  refine hr_take_w 0 (some 11) (.pointer (some ⟨d.b, 0, none⟩)) rfl rfl (by kernel_rfl) (by kernel_rfl) (by kernel_rfl) rfl (fun W hW => by obtain ⟨h0, h1, h2, h3, h4, h5, h6⟩ := hW; go_simp) aH0 ?_
  simp only [FL]
  refine hr_take_w 1 (some 12) (.bool false) rfl rfl (by kernel_rfl) (by kernel_rfl) (by kernel_rfl) rfl (fun W hW => by obtain ⟨h0, h1, h2, h3, h4, h5, h6⟩ := hW; go_simp) aH0 ?_
  simp only [FL]
  refine hr_take_w 2 (some 13) (.bool false) rfl rfl (by kernel_rfl) (by kernel_rfl) (by kernel_rfl) rfl (fun W hW => by obtain ⟨h0, h1, h2, h3, h4, h5, h6⟩ := hW; go_simp) aH0 ?_
  simp only [FL]
  refine hr_take_w 3 (some 14) (.pointer (some ⟨d.b, 0, none⟩)) rfl rfl (by kernel_rfl) (by kernel_rfl) (by kernel_rfl) rfl (fun W hW => by obtain ⟨h0, h1, h2, h3, h4, h5, h6⟩ := hW; go_simp) aH0 ?_
  simp only [FL]
  refine hr_take_w 4 (some 15) (.pointer (some ⟨d.b, 0, none⟩)) rfl rfl (by kernel_rfl) (by kernel_rfl) (by kernel_rfl) rfl (fun W hW => by obtain ⟨h0, h1, h2, h3, h4, h5, h6⟩ := hW; go_simp) aH0 ?_
  simp only [FL]
  refine hr_take_w 5 (some 16) (.pointer (some ⟨d.b, 0, none⟩)) rfl rfl (by kernel_rfl) (by kernel_rfl) (by kernel_rfl) rfl (fun W hW => by obtain ⟨h0, h1, h2, h3, h4, h5, h6⟩ := hW; go_simp) aH0 ?_
  simp only [FL]
  refine hr_take_w 6 (some 17) (.int .i64 d.L) rfl rfl (by kernel_rfl) (by kernel_rfl) (by kernel_rfl) rfl (fun W hW => by obtain ⟨h0, h1, h2, h3, h4, h5, h6⟩ := hW; go_simp) aH0 ?_
  simp only [FL]
  refine hr_take_w 7 (some 18) (.pointer (some ⟨g, 0, none⟩)) rfl rfl (by kernel_rfl) (by kernel_rfl) (by kernel_rfl) rfl (fun W hW => by obtain ⟨h0, h1, h2, h3, h4, h5, h6⟩ := hW; go_simp) aH0 ?_
  simp only [FL]
  refine hr_take_w 8 (some 19) (.int .i64 (lev x.k)) rfl rfl (by kernel_rfl) (by kernel_rfl) (by kernel_rfl) rfl (fun W hW => by obtain ⟨h0, h1, h2, h3, h4, h5, h6⟩ := hW; go_simp) aH0 ?_
  simp only [FL]
  refine hr_take_w 9 (some 20) (.bool false) rfl rfl (by kernel_rfl) (by kernel_rfl) (by kernel_rfl) rfl (fun W hW => by obtain ⟨h0, h1, h2, h3, h4, h5, h6⟩ := hW; go_simp) aH0 ?_
  simp only [FL]
  refine hr_take_w 10 (some 21) (.bool false) rfl rfl (by kernel_rfl) (by kernel_rfl) (by kernel_rfl) rfl (fun W hW => by obtain ⟨h0, h1, h2, h3, h4, h5, h6⟩ := hW; go_simp) aH0 ?_
  simp only [FL]
  refine wpAnyH_done (by kernel_rfl) ?_ _
  refine NoPanic.normal ?_
  have Ba : Below w.heap.size w av0 := B0.trans (aE0.mono B0.size)
  have La := L0.below aE0
  have lc1 := La.c1
  have CPa := CP av0 Ba
  clear CP
  go_wp2_with fail
  refine CPa.mono ?_
  rintro e w1 ⟨i, b, rfl, hat, B1'⟩
  have B1 : Below w.heap.size w w1 := Ba.trans (B1'.mono Ba.size)
  have N1 := h.below B1
  have L1 := La.below B1'
  clear CPa lc1
  obtain ⟨s, A, B, c, hA, hB, hB2, hf⟩ := h.found hs hat
  have hle := c.le
  have hw : IntKind.i64.wrap ((i : Int) + 1) = (i : Int) + 1 := by have := wrap_nat (k := i + 1) (by omega); simpa using this
  cases b with
  | true =>
    exfalso
    obtain ⟨hi, he⟩ := hf rfl
    exact hh ⟨xs[i], h.shp.key _ (List.getElem_mem hi), he⟩
  | false =>
  have hB3 := hB2 rfl
  have HI : Hid (ins l x = A ++ (ins s x ++ B)) := by show _ = _; rw [c.el]; exact ins_mid hA hB3
  have hii : (i : Int) < (d.cs.length : Int) := by omega
  clear hf hB2
  go_wp2_with fail
  have bHS : Hid (∀ V, Below w1.heap.size w1 V → V.cell? ⟨d.b, 0, none⟩ = some (.int .i64 d.L) ∧ V.cell? ⟨d.b, 1, none⟩ = some (.slice d.ko d.ks.length d.kc) ∧ V.cell? ⟨d.b, 2, none⟩ = some (.slice d.vo d.vs.length d.vc) ∧ V.cell? ⟨d.b, 3, none⟩ = some (.slice d.co d.cs.length d.cc) ∧ V.cell? ⟨g, 0, none⟩ = some (.int .i64 (lev x.k)) ∧ V.cell? ⟨g, 1, none⟩ = some (.slice xo xn xc) ∧ V.cell? ⟨g, 2, none⟩ = some (.slice yo yn yc)) := fun V hV => ⟨(N1.ok.below hV).c0, (N1.ok.below hV).c1, (N1.ok.below hV).c2, (N1.ok.below hV).c3, (L1.below hV).c0, (L1.below hV).c1, (L1.below hV).c2⟩
  have bE0 : Below w1.heap.size w1 w1.drew := (Below.refl _ _).drew
  refine wp_region_noPanic ?_
  refine wp_region_held_drew (S := fun V => V.cell? ⟨d.b, 0, none⟩ = some (.int .i64 d.L) ∧ V.cell? ⟨d.b, 1, none⟩ = some (.slice d.ko d.ks.length d.kc) ∧ V.cell? ⟨d.b, 2, none⟩ = some (.slice d.vo d.vs.length d.vc) ∧ V.cell? ⟨d.b, 3, none⟩ = some (.slice d.co d.cs.length d.cc) ∧ V.cell? ⟨g, 0, none⟩ = some (.int .i64 (lev x.k)) ∧ V.cell? ⟨g, 1, none⟩ = some (.slice xo xn xc) ∧ V.cell? ⟨g, 2, none⟩ = some (.slice yo yn yc)) (by kernel_rfl) (bHS.out _ bE0) (fun bH0 => ?_)
  obtain ⟨bv0, hv0⟩ : ∃ v, v = w1.drew := ⟨_, rfl⟩
  rw [← hv0] at bH0 bE0 ⊢
  clear hv0
  refine hr_take_w 0 (some 49) (.pointer (some ⟨d.b, 0, none⟩)) rfl rfl (by kernel_rfl) (by kernel_rfl) (by kernel_rfl) rfl (fun W hW => by obtain ⟨h0, h1, h2, h3, h4, h5, h6⟩ := hW; go_simp) bH0 ?_
  simp only [FL]
  refine hr_take_w 1 (some 50) (.pointer (some ⟨d.b, 0, none⟩)) rfl rfl (by kernel_rfl) (by kernel_rfl) (by kernel_rfl) rfl (fun W hW => by obtain ⟨h0, h1, h2, h3, h4, h5, h6⟩ := hW; go_simp) bH0 ?_
  simp only [FL]
  refine hr_take_w 2 (some 51) (.pointer (some ⟨d.b, 0, none⟩)) rfl rfl (by kernel_rfl) (by kernel_rfl) (by kernel_rfl) rfl (fun W hW => by obtain ⟨h0, h1, h2, h3, h4, h5, h6⟩ := hW; go_simp) bH0 ?_
  simp only [FL]
  refine hr_take_w 3 (some 52) (.int .i64 d.L) rfl rfl (by kernel_rfl) (by kernel_rfl) (by kernel_rfl) rfl (fun W hW => by obtain ⟨h0, h1, h2, h3, h4, h5, h6⟩ := hW; go_simp) bH0 ?_
  simp only [FL]
  refine hr_take_w 4 (some 53) (.pointer (some ⟨g, 0, none⟩)) rfl rfl (by kernel_rfl) (by kernel_rfl) (by kernel_rfl) rfl (fun W hW => by obtain ⟨h0, h1, h2, h3, h4, h5, h6⟩ := hW; go_simp) bH0 ?_
  simp only [FL]
  refine hr_take_w 5 (some 54) (.int .i64 (lev x.k)) rfl rfl (by kernel_rfl) (by kernel_rfl) (by kernel_rfl) rfl (fun W hW => by obtain ⟨h0, h1, h2, h3, h4, h5, h6⟩ := hW; go_simp) bH0 ?_
  simp only [FL]
  refine hr_take_w 6 (some 55) (.bool false) rfl rfl (by kernel_rfl) (by kernel_rfl) (by kernel_rfl) rfl (fun W hW => by obtain ⟨h0, h1, h2, h3, h4, h5, h6⟩ := hW; go_simp) bH0 ?_
  simp only [FL]
  refine wpAnyH_done (by kernel_rfl) ?_ _
  refine NoPanic.normal ?_
  have Bb : Below w.heap.size w bv0 := B1.trans (bE0.mono B1.size)
  have Nb := h.below Bb
  have Lb := L1.below bE0
  obtain ⟨kb, ko, s', u, eco, hs1, hs2, hcell, hTk, hlen⟩ := Nb.kidAt i hle
  obtain rfl : s = s' := Option.some.inj (c.seg.symm.trans hs1)
  have hss : Srt s := by rw [c.el] at hs; exact hs.app.2.1.app.1
  obtain ⟨q, rfl⟩ := hTk.ptr
  have CI : ∀ V, Below bv0.heap.size bv0 V → Calls Tryz.prog 135 #[.pointer q, .slice xo xn xc] V fun e w' => ∃ p1 p2, e = .returned (.tuple #[.pointer p1, .pointer p2]) ∧ (T w' (.pointer p1) (lo x.k s) ∧ T w' (.pointer p2) (hi x.k s)) ∧ Below V.heap.size V w' := by
    intro V hV
    refine (cut_fuel s.length V (.pointer q) s xo xn xc x.k (Nat.le_refl _) (hTk.below hV) hss (fun ⟨y, hy, he⟩ => hh ⟨y, h.shp.seg _ (List.mem_of_getElem? c.seg) y hy, he⟩) (hx.below (Bb.trans (hV.mono Bb.size))) (by omega)).mono ?_
    rintro e w' ⟨y1, y2, rfl, T1, T2, hb⟩
    obtain ⟨p1, rfl⟩ := T1.ptr
    obtain ⟨p2, rfl⟩ := T2.ptr
    exact ⟨p1, p2, rfl, ⟨T1, T2⟩, hb⟩
  clear hs1 hs2 hTk
  go_wp2_with fail
  have cHS : Hid (∀ V, Below bv0.heap.size bv0 V → V.cell? ⟨d.b, 3, none⟩ = some (.slice (some ⟨kb, ko, none⟩) d.cs.length d.cc) ∧ V.cell? ⟨kb, ko + i, none⟩ = some (.pointer q) ∧ V.cell? ⟨g, 0, none⟩ = some (.int .i64 (lev x.k)) ∧ V.cell? ⟨g, 1, none⟩ = some (.slice xo xn xc) ∧ V.cell? ⟨g, 2, none⟩ = some (.slice yo yn yc)) := fun V hV => ⟨by rw [← eco]; exact (Nb.ok.below hV).c3, (hV.cell (World.block_lt_of_cell? _ _ hcell)).trans hcell, (Lb.below hV).c0, (Lb.below hV).c1, (Lb.below hV).c2⟩
  have cE0 : Below bv0.heap.size bv0 bv0.drew := (Below.refl _ _).drew
  refine wp_region_noPanic ?_
  refine wp_region_held_drew (S := fun V => V.cell? ⟨d.b, 3, none⟩ = some (.slice (some ⟨kb, ko, none⟩) d.cs.length d.cc) ∧ V.cell? ⟨kb, ko + i, none⟩ = some (.pointer q) ∧ V.cell? ⟨g, 0, none⟩ = some (.int .i64 (lev x.k)) ∧ V.cell? ⟨g, 1, none⟩ = some (.slice xo xn xc) ∧ V.cell? ⟨g, 2, none⟩ = some (.slice yo yn yc)) (by kernel_rfl) (cHS.out _ cE0) (fun cH0 => ?_)
  obtain ⟨cv0, hv0⟩ : ∃ v, v = bv0.drew := ⟨_, rfl⟩
  rw [← hv0] at cH0 cE0 ⊢
  clear hv0
  refine hr_take_w 0 (some 95) (.pointer (some ⟨d.b, 0, none⟩)) rfl rfl (by kernel_rfl) (by kernel_rfl) (by kernel_rfl) rfl (fun W hW => by obtain ⟨h0, h1, h2, h3, h4⟩ := hW; go_simp) cH0 ?_
  simp only [FL]
  refine hr_take_w 1 (some 96) (.pointer (some ⟨d.b, 0, none⟩)) rfl rfl (by kernel_rfl) (by kernel_rfl) (by kernel_rfl) rfl (fun W hW => by obtain ⟨h0, h1, h2, h3, h4⟩ := hW; go_simp) cH0 ?_
  simp only [FL]
  refine hr_take_w 2 (some 97) (.pointer (some ⟨d.b, 3, none⟩)) rfl rfl (by kernel_rfl) (by kernel_rfl) (by kernel_rfl) rfl (fun W hW => by obtain ⟨h0, h1, h2, h3, h4⟩ := hW; go_simp) cH0 ?_
  simp only [FL]
  refine hr_take_w 3 (some 98) (.slice (some ⟨kb, ko, none⟩) d.cs.length d.cc) rfl rfl (by kernel_rfl) (by kernel_rfl) (by kernel_rfl) rfl (fun W hW => by obtain ⟨h0, h1, h2, h3, h4⟩ := hW; go_simp) cH0 ?_
  simp only [FL]
  refine hr_take_w 4 (some 99) (.int .i64 i) rfl rfl (by kernel_rfl) (by kernel_rfl) (by kernel_rfl) rfl (fun W hW => by obtain ⟨h0, h1, h2, h3, h4⟩ := hW; go_simp) cH0 ?_
  simp only [FL]
  refine hr_take_w 5 (some 100) (.pointer (some ⟨kb, ko + i, none⟩)) rfl rfl (by kernel_rfl) (by kernel_rfl) (by kernel_rfl) rfl (fun W hW => by obtain ⟨h0, h1, h2, h3, h4⟩ := hW; go_simp) cH0 ?_
  simp only [FL]
  refine hr_take_w 6 (some 101) (.pointer q) rfl rfl (by kernel_rfl) (by kernel_rfl) (by kernel_rfl) rfl (fun W hW => by obtain ⟨h0, h1, h2, h3, h4⟩ := hW; go_simp) cH0 ?_
  simp only [FL]
  refine hr_take_w 7 (some 102) (.pointer (some ⟨g, 1, none⟩)) rfl rfl (by kernel_rfl) (by kernel_rfl) (by kernel_rfl) rfl (fun W hW => by obtain ⟨h0, h1, h2, h3, h4⟩ := hW; go_simp) cH0 ?_
  simp only [FL]
  refine hr_take_w 8 (some 103) (.slice xo xn xc) rfl rfl (by kernel_rfl) (by kernel_rfl) (by kernel_rfl) rfl (fun W hW => by obtain ⟨h0, h1, h2, h3, h4⟩ := hW; go_simp) cH0 ?_
  simp only [FL]
  refine hr_call_w 9 (some 104) 135 #[.pointer q, .slice xo xn xc] rfl rfl (by kernel_rfl) rfl (by go_simp) (fun v w' => ∃ p1 p2, v = .tuple #[.pointer p1, .pointer p2] ∧ (T w' (.pointer p1) (lo x.k s) ∧ T w' (.pointer p2) (hi x.k s)) ∧ Below cv0.heap.size cv0 w') ((CI _ cE0).mono (by
    rintro e w' ⟨p1, p2, rfl, F, C⟩
    exact ⟨_, rfl, p1, p2, rfl, F, C⟩)) ?_
  rintro v cv1 ⟨p1, p2, rfl, cF0, cC0⟩
  have cE1 := cE0.trans (cC0.mono cE0.size)
  have cH1 := cHS.out cv1 cE1
  refine ⟨cH1, ?_⟩
  simp only [FL]
  refine hr_take_w 10 (some 94) (.tuple #[.pointer p1, .pointer p2]) rfl rfl (by kernel_rfl) (by kernel_rfl) (by kernel_rfl) rfl (fun W hW => by obtain ⟨h0, h1, h2, h3, h4⟩ := hW; go_simp) cH1 ?_
  simp only [FL]
  refine hr_take_w 11 (some 105) (.pointer p1) rfl rfl (by kernel_rfl) (by kernel_rfl) (by kernel_rfl) rfl (fun W hW => by obtain ⟨h0, h1, h2, h3, h4⟩ := hW; go_simp) cH1 ?_
  simp only [FL]
  refine hr_take_w 12 (some 106) (.pointer p2) rfl rfl (by kernel_rfl) (by kernel_rfl) (by kernel_rfl) rfl (fun W hW => by obtain ⟨h0, h1, h2, h3, h4⟩ := hW; go_simp) cH1 ?_
  simp only [FL]
  refine hr_take_w 13 (some 9) (.pointer p1) rfl rfl (by kernel_rfl) (by kernel_rfl) (by kernel_rfl) rfl (fun W hW => by obtain ⟨h0, h1, h2, h3, h4⟩ := hW; go_simp) cH1 ?_
  simp only [FL]
  refine hr_take_w 14 (some 10) (.pointer p2) rfl rfl (by kernel_rfl) (by kernel_rfl) (by kernel_rfl) rfl (fun W hW => by obtain ⟨h0, h1, h2, h3, h4⟩ := hW; go_simp) cH1 ?_
  simp only [FL]
  refine wpAnyH_done (by kernel_rfl) ?_ _
  refine NoPanic.normal ?_
  have Bc : Below w.heap.size w cv1 := Bb.trans (cE1.mono Bb.size)
  have Nc := h.below Bc
  have Lc := Lb.below cE1
  have T1 := cF0.1
  have T2 := cF0.2
  have TF : ∀ (V : World), Below cv1.heap.size cv1 V → ∀ (gn : Nat) (k1 : Option Addr) (k2 : Nat) (v1 : Option Addr) (v2 : Nat) (n1 : Option Addr) (n2 : Nat), V.heap[gn]? = some (.cells #[.int .i64 d.L, .slice k1 (i + 1 + (d.ks.length - i)) k2, .slice v1 (i + 1 + (d.vs.length - i)) v2, .slice n1 (i + 2 + (d.cs.length - (i + 1))) n2] 176) →
      VL V k1 (i + 1 + (d.ks.length - i)) k2 ((d.ks.map Part.val).take i ++ [.slice xo xn xc] ++ (d.ks.map Part.val).drop i) → VL V v1 (i + 1 + (d.vs.length - i)) v2 ((d.vs.map Part.val).take i ++ [.slice yo yn yc] ++ (d.vs.map Part.val).drop i) → VL V n1 (i + 2 + (d.cs.length - (i + 1))) n2 (d.cs.take i ++ [.pointer p1, .pointer p2] ++ d.cs.drop (i + 1)) →
      T V (.pointer (some ⟨gn, 0, none⟩)) (ins l x) := by
    intro V hV gn k1 k2 v1 v2 n1 n2 hgn h1 h2 h3
    have Bv := Bc.trans (hV.mono Bc.size)
    have Nv := h.below Bv
    have e : ins l x = A ++ (lo x.k s ++ x :: (hi x.k s ++ B)) := by rw [HI.out]; simp [ins]
    have kd := (Nv.kids.take i).app (Kids.cons (T1.below hV) (Kids.cons (T2.below hV) (Nv.kids.drop (i + 1))))
    rw [e]
    refine T.make hgn (KL.of (ps := d.ks.take i ++ (⟨xo, xn, xc, x.k⟩ : Part) :: d.ks.drop i) h1 (by simp [Part.val, List.map_take, List.map_drop]) ?_) (KL.of (ps := d.vs.take i ++ (⟨yo, yn, yc, x.v⟩ : Part) :: d.vs.drop i) h2 (by simp [Part.val, List.map_take, List.map_drop]) ?_) h3 (c.more (x := x) (by rw [← hL.out]) (fun y hy => c.ls y (mem_lo.1 hy).1) (fun y hy => c.ls y (mem_hi.1 hy).1)) ?_ ?_ ?_
    · intro q hq
      rcases List.mem_append.1 hq with hq | hq
      · exact Nv.ok.kl.sl q (List.mem_of_mem_take hq)
      · rcases List.mem_cons.1 hq with rfl | hq
        · exact hx.below Bv
        · exact Nv.ok.kl.sl q (List.mem_of_mem_drop hq)
    · intro q hq
      rcases List.mem_append.1 hq with hq | hq
      · exact Nv.ok.vl.sl q (List.mem_of_mem_take hq)
      · rcases List.mem_cons.1 hq with rfl | hq
        · exact hy.below Bv
        · exact Nv.ok.vl.sl q (List.mem_of_mem_drop hq)
    · simp [List.map_take, List.map_drop, Nv.ek]
    · simp [List.map_take, List.map_drop, Nv.ev]
    · simpa using kd
  clear T1 T2 cF0 HI
  go_wp2_with fail
  have eHS : Hid (∀ V, Below cv1.heap.size cv1 V → V.cell? ⟨d.b, 0, none⟩ = some (.int .i64 d.L) ∧ V.cell? ⟨d.b, 1, none⟩ = some (.slice d.ko d.ks.length d.kc) ∧ V.cell? ⟨d.b, 2, none⟩ = some (.slice d.vo d.vs.length d.vc) ∧ V.cell? ⟨d.b, 3, none⟩ = some (.slice d.co d.cs.length d.cc) ∧ V.cell? ⟨g, 0, none⟩ = some (.int .i64 (lev x.k)) ∧ V.cell? ⟨g, 1, none⟩ = some (.slice xo xn xc) ∧ V.cell? ⟨g, 2, none⟩ = some (.slice yo yn yc)) := fun V hV => ⟨(Nc.ok.below hV).c0, (Nc.ok.below hV).c1, (Nc.ok.below hV).c2, (Nc.ok.below hV).c3, (Lc.below hV).c0, (Lc.below hV).c1, (Lc.below hV).c2⟩
  have eE0 : Below cv1.heap.size cv1 cv1.drew := (Below.refl _ _).drew
  refine wp_region_noPanic ?_
  refine wp_region_held_drew (S := fun V => V.cell? ⟨d.b, 0, none⟩ = some (.int .i64 d.L) ∧ V.cell? ⟨d.b, 1, none⟩ = some (.slice d.ko d.ks.length d.kc) ∧ V.cell? ⟨d.b, 2, none⟩ = some (.slice d.vo d.vs.length d.vc) ∧ V.cell? ⟨d.b, 3, none⟩ = some (.slice d.co d.cs.length d.cc) ∧ V.cell? ⟨g, 0, none⟩ = some (.int .i64 (lev x.k)) ∧ V.cell? ⟨g, 1, none⟩ = some (.slice xo xn xc) ∧ V.cell? ⟨g, 2, none⟩ = some (.slice yo yn yc)) (by kernel_rfl) (eHS.out _ eE0) (fun eH0 => ?_)
  obtain ⟨ev0, hv0⟩ : ∃ v, v = cv1.drew := ⟨_, rfl⟩
  rw [← hv0] at eH0 eE0 ⊢
  clear hv0
  refine hr_take_w 0 (some 107) (.pointer (some ⟨d.b, 0, none⟩)) rfl rfl (by kernel_rfl) (by kernel_rfl) (by kernel_rfl) rfl (fun W hW => by obtain ⟨h0, h1, h2, h3, h4, h5, h6⟩ := hW; go_simp) eH0 ?_
  simp only [FL]
  refine hr_take_w 1 (some 108) (.pointer (some ⟨d.b, 0, none⟩)) rfl rfl (by kernel_rfl) (by kernel_rfl) (by kernel_rfl) rfl (fun W hW => by obtain ⟨h0, h1, h2, h3, h4, h5, h6⟩ := hW; go_simp) eH0 ?_
  simp only [FL]
  refine hr_take_w 2 (some 109) (.pointer (some ⟨d.b, 0, none⟩)) rfl rfl (by kernel_rfl) (by kernel_rfl) (by kernel_rfl) rfl (fun W hW => by obtain ⟨h0, h1, h2, h3, h4, h5, h6⟩ := hW; go_simp) eH0 ?_
  simp only [FL]
  refine hr_take_w 3 (some 110) (.int .i64 d.L) rfl rfl (by kernel_rfl) (by kernel_rfl) (by kernel_rfl) rfl (fun W hW => by obtain ⟨h0, h1, h2, h3, h4, h5, h6⟩ := hW; go_simp) eH0 ?_
  simp only [FL]
  refine hr_take_w 4 (some 111) (.pointer (some ⟨d.b, 0, none⟩)) rfl rfl (by kernel_rfl) (by kernel_rfl) (by kernel_rfl) rfl (fun W hW => by obtain ⟨h0, h1, h2, h3, h4, h5, h6⟩ := hW; go_simp) eH0 ?_
  simp only [FL]
  refine hr_take_w 5 (some 112) (.pointer (some ⟨d.b, 0, none⟩)) rfl rfl (by kernel_rfl) (by kernel_rfl) (by kernel_rfl) rfl (fun W hW => by obtain ⟨h0, h1, h2, h3, h4, h5, h6⟩ := hW; go_simp) eH0 ?_
  simp only [FL]
  refine hr_take_w 6 (some 113) (.pointer (some ⟨d.b, 1, none⟩)) rfl rfl (by kernel_rfl) (by kernel_rfl) (by kernel_rfl) rfl (fun W hW => by obtain ⟨h0, h1, h2, h3, h4, h5, h6⟩ := hW; go_simp) eH0 ?_
  simp only [FL]
  refine hr_take_w 7 (some 114) (.slice d.ko d.ks.length d.kc) rfl rfl (by kernel_rfl) (by kernel_rfl) (by kernel_rfl) rfl (fun W hW => by obtain ⟨h0, h1, h2, h3, h4, h5, h6⟩ := hW; go_simp) eH0 ?_
  simp only [FL]
  refine hr_take_w 8 (some 115) (.int .i64 i) rfl rfl (by kernel_rfl) (by kernel_rfl) (by kernel_rfl) rfl (fun W hW => by obtain ⟨h0, h1, h2, h3, h4, h5, h6⟩ := hW; go_simp) eH0 ?_
  simp only [FL]
  refine hr_take_w 9 (some 116) (.int .i64 i) rfl rfl (by kernel_rfl) (by kernel_rfl) (by kernel_rfl) rfl (fun W hW => by obtain ⟨h0, h1, h2, h3, h4, h5, h6⟩ := hW; go_simp) eH0 ?_
  simp only [FL]
  refine hr_take_w 10 (some 117) (.pointer (some ⟨g, 1, none⟩)) rfl rfl (by kernel_rfl) (by kernel_rfl) (by kernel_rfl) rfl (fun W hW => by obtain ⟨h0, h1, h2, h3, h4, h5, h6⟩ := hW; go_simp) eH0 ?_
  simp only [FL]
  refine hr_take_w 11 (some 118) (.slice xo xn xc) rfl rfl (by kernel_rfl) (by kernel_rfl) (by kernel_rfl) rfl (fun W hW => by obtain ⟨h0, h1, h2, h3, h4, h5, h6⟩ := hW; go_simp) eH0 ?_
  simp only [FL]
  refine hr_take_w 14 (some 121) (.pointer (some ⟨d.b, 0, none⟩)) rfl rfl (by kernel_rfl) (by kernel_rfl) (by kernel_rfl) rfl (fun W hW => by obtain ⟨h0, h1, h2, h3, h4, h5, h6⟩ := hW; go_simp) eH0 ?_
  simp only [FL]
  refine hr_take_w 15 (some 122) (.pointer (some ⟨d.b, 0, none⟩)) rfl rfl (by kernel_rfl) (by kernel_rfl) (by kernel_rfl) rfl (fun W hW => by obtain ⟨h0, h1, h2, h3, h4, h5, h6⟩ := hW; go_simp) eH0 ?_
  simp only [FL]
  refine hr_take_w 16 (some 123) (.pointer (some ⟨d.b, 2, none⟩)) rfl rfl (by kernel_rfl) (by kernel_rfl) (by kernel_rfl) rfl (fun W hW => by obtain ⟨h0, h1, h2, h3, h4, h5, h6⟩ := hW; go_simp) eH0 ?_
  simp only [FL]
  refine hr_take_w 17 (some 124) (.slice d.vo d.vs.length d.vc) rfl rfl (by kernel_rfl) (by kernel_rfl) (by kernel_rfl) rfl (fun W hW => by obtain ⟨h0, h1, h2, h3, h4, h5, h6⟩ := hW; go_simp) eH0 ?_
  simp only [FL]
  refine hr_take_w 18 (some 125) (.int .i64 i) rfl rfl (by kernel_rfl) (by kernel_rfl) (by kernel_rfl) rfl (fun W hW => by obtain ⟨h0, h1, h2, h3, h4, h5, h6⟩ := hW; go_simp) eH0 ?_
  simp only [FL]
  refine hr_take_w 19 (some 126) (.int .i64 i) rfl rfl (by kernel_rfl) (by kernel_rfl) (by kernel_rfl) rfl (fun W hW => by obtain ⟨h0, h1, h2, h3, h4, h5, h6⟩ := hW; go_simp) eH0 ?_
  simp only [FL]
  refine hr_take_w 20 (some 127) (.pointer (some ⟨g, 2, none⟩)) rfl rfl (by kernel_rfl) (by kernel_rfl) (by kernel_rfl) rfl (fun W hW => by obtain ⟨h0, h1, h2, h3, h4, h5, h6⟩ := hW; go_simp) eH0 ?_
  simp only [FL]
  refine hr_take_w 21 (some 128) (.slice yo yn yc) rfl rfl (by kernel_rfl) (by kernel_rfl) (by kernel_rfl) rfl (fun W hW => by obtain ⟨h0, h1, h2, h3, h4, h5, h6⟩ := hW; go_simp) eH0 ?_
  simp only [FL]
  refine hr_take_w 24 (some 131) (.pointer (some ⟨d.b, 0, none⟩)) rfl rfl (by kernel_rfl) (by kernel_rfl) (by kernel_rfl) rfl (fun W hW => by obtain ⟨h0, h1, h2, h3, h4, h5, h6⟩ := hW; go_simp) eH0 ?_
  simp only [FL]
  refine hr_take_w 25 (some 132) (.pointer (some ⟨d.b, 0, none⟩)) rfl rfl (by kernel_rfl) (by kernel_rfl) (by kernel_rfl) rfl (fun W hW => by obtain ⟨h0, h1, h2, h3, h4, h5, h6⟩ := hW; go_simp) eH0 ?_
  simp only [FL]
  refine hr_take_w 26 (some 133) (.pointer (some ⟨d.b, 3, none⟩)) rfl rfl (by kernel_rfl) (by kernel_rfl) (by kernel_rfl) rfl (fun W hW => by obtain ⟨h0, h1, h2, h3, h4, h5, h6⟩ := hW; go_simp) eH0 ?_
  simp only [FL]
  refine hr_take_w 27 (some 134) (.slice d.co d.cs.length d.cc) rfl rfl (by kernel_rfl) (by kernel_rfl) (by kernel_rfl) rfl (fun W hW => by obtain ⟨h0, h1, h2, h3, h4, h5, h6⟩ := hW; go_simp) eH0 ?_
  simp only [FL]
  refine hr_take_w 28 (some 135) (.int .i64 i) rfl rfl (by kernel_rfl) (by kernel_rfl) (by kernel_rfl) rfl (fun W hW => by obtain ⟨h0, h1, h2, h3, h4, h5, h6⟩ := hW; go_simp) eH0 ?_
  simp only [FL]
  refine hr_take_w 29 (some 136) (.int .i64 i) rfl rfl (by kernel_rfl) (by kernel_rfl) (by kernel_rfl) rfl (fun W hW => by obtain ⟨h0, h1, h2, h3, h4, h5, h6⟩ := hW; go_simp) eH0 ?_
  simp only [FL]
  refine hr_take_w 30 (some 137) (.int .i64 ((i + 1 : Nat) : Int)) rfl rfl (by kernel_rfl) (by kernel_rfl) (by kernel_rfl) rfl (fun W hW => by obtain ⟨h0, h1, h2, h3, h4, h5, h6⟩ := hW; go_simp) eH0 ?_
  simp only [FL]
  refine hr_take_w 31 (some 138) (.pointer p1) rfl rfl (by kernel_rfl) (by kernel_rfl) (by kernel_rfl) rfl (fun W hW => by obtain ⟨h0, h1, h2, h3, h4, h5, h6⟩ := hW; go_simp) eH0 ?_
  simp only [FL]
  refine hr_take_w 32 (some 139) (.pointer p2) rfl rfl (by kernel_rfl) (by kernel_rfl) (by kernel_rfl) rfl (fun W hW => by obtain ⟨h0, h1, h2, h3, h4, h5, h6⟩ := hW; go_simp) eH0 ?_
  simp only [FL]
  refine wpAnyH_effs (fun zi zv zw => (zi = 12 → ∃ g, zv = .slice (some ⟨g, 0, none⟩) 1 1 ∧ VL zw (some ⟨g, 0, none⟩) 1 1 [.slice xo xn xc]) ∧ (zi = 13 → ∃ ro rc, zv = .slice ro (i + 1 + (d.ks.length - i)) rc ∧ VL zw ro (i + 1 + (d.ks.length - i)) rc ((d.ks.map Part.val).take i ++ [.slice xo xn xc] ++ (d.ks.map Part.val).drop i)) ∧ (zi = 22 → ∃ g, zv = .slice (some ⟨g, 0, none⟩) 1 1 ∧ VL zw (some ⟨g, 0, none⟩) 1 1 [.slice yo yn yc]) ∧ (zi = 23 → ∃ ro rc, zv = .slice ro (i + 1 + (d.vs.length - i)) rc ∧ VL zw ro (i + 1 + (d.vs.length - i)) rc ((d.vs.map Part.val).take i ++ [.slice yo yn yc] ++ (d.vs.map Part.val).drop i)) ∧ (zi = 33 → ∃ g, zv = .slice (some ⟨g, 0, none⟩) 2 2 ∧ VL zw (some ⟨g, 0, none⟩) 2 2 [.pointer p1, .pointer p2]) ∧ (zi = 34 → ∃ ro rc, zv = .slice ro (i + 2 + (d.cs.length - (i + 1))) rc ∧ VL zw ro (i + 2 + (d.cs.length - (i + 1))) rc (d.cs.take i ++ [.pointer p1, .pointer p2] ++ d.cs.drop (i + 1))) ∧ (zi = 35 → ∃ k1 k2 v1 v2 n1 n2, zv = .agg #[.int .i64 d.L, .slice k1 (i + 1 + (d.ks.length - i)) k2, .slice v1 (i + 1 + (d.vs.length - i)) v2, .slice n1 (i + 2 + (d.cs.length - (i + 1))) n2] ∧ VL zw k1 (i + 1 + (d.ks.length - i)) k2 ((d.ks.map Part.val).take i ++ [.slice xo xn xc] ++ (d.ks.map Part.val).drop i) ∧ VL zw v1 (i + 1 + (d.vs.length - i)) v2 ((d.vs.map Part.val).take i ++ [.slice yo yn yc] ++ (d.vs.map Part.val).drop i) ∧ VL zw n1 (i + 2 + (d.cs.length - (i + 1))) n2 (d.cs.take i ++ [.pointer p1, .pointer p2] ++ d.cs.drop (i + 1))) ∧ (zi = 36 → T zw zv (ins l x)) ∧ (zi = 37 → T zw zv (ins l x))) [12, 13, 22, 23, 33, 34, 35, 36, 37] 144 (by kernel_rfl) (by kernel_rfl) (Nat.le_of_eq (by kernel_rfl)) rfl rfl ?_ (fun W hW => eHS.out W (eE0.trans (hW.mono eE0.size))) ?_ ?_
  · intro zi v w w' h hb
    refine ⟨fun e => ?_, fun e => ?_, fun e => ?_, fun e => ?_, fun e => ?_, fun e => ?_, fun e => ?_, fun e => ?_, fun e => ?_⟩
    · have h := h.1 e
      obtain ⟨g, h1, h2⟩ := h
      exact ⟨g, h1, h2.below hb⟩
    · have h := h.2.1 e
      obtain ⟨ro, rc, h1, h2⟩ := h
      exact ⟨ro, rc, h1, h2.below hb⟩
    · have h := h.2.2.1 e
      obtain ⟨g, h1, h2⟩ := h
      exact ⟨g, h1, h2.below hb⟩
    · have h := h.2.2.2.1 e
      obtain ⟨ro, rc, h1, h2⟩ := h
      exact ⟨ro, rc, h1, h2.below hb⟩
    · have h := h.2.2.2.2.1 e
      obtain ⟨g, h1, h2⟩ := h
      exact ⟨g, h1, h2.below hb⟩
    · have h := h.2.2.2.2.2.1 e
      obtain ⟨ro, rc, h1, h2⟩ := h
      exact ⟨ro, rc, h1, h2.below hb⟩
    · have h := h.2.2.2.2.2.2.1 e
      obtain ⟨k1, k2, v1, v2, n1, n2, h1, h2, h3, h4⟩ := h
      exact ⟨k1, k2, v1, v2, n1, n2, h1, h2.below hb, h3.below hb, h4.below hb⟩
    · have h := h.2.2.2.2.2.2.2.1 e
      exact h.below hb
    · have h := h.2.2.2.2.2.2.2.2 e
      exact h.below hb
  · intro zi zhi o a w ho hs hb hdep
    simp only [List.mem_cons, List.not_mem_nil, or_false] at zhi
    rcases zhi with rfl | rfl | rfl | rfl | rfl | rfl | rfl | rfl | rfl
    · obtain rfl : _ = o := Option.some.inj (show some _ = some o from ho)
      have t118 : a.tmps[118]? = some (.slice xo xn xc) := hs.get 118 (by kernel_rfl) rfl
      exact .inl ⟨_, _, by go_simp, ⟨fun _ => ⟨_, rfl, VL.new w [.slice xo xn xc] 25 (by simp [maxLen])⟩, fun e => absurd e (by decide), fun e => absurd e (by decide), fun e => absurd e (by decide), fun e => absurd e (by decide), fun e => absurd e (by decide), fun e => absurd e (by decide), fun e => absurd e (by decide), fun e => absurd e (by decide)⟩, (Below.refl _ _).alloc (Nat.le_refl _) _⟩
    · obtain rfl : _ = o := Option.some.inj (show some _ = some o from ho)
      have t114 : a.tmps[114]? = some (.slice d.ko d.ks.length d.kc) := hs.get 114 (by kernel_rfl) rfl
      have t115 : a.tmps[115]? = some (.int .i64 i) := hs.get 115 (by kernel_rfl) rfl
      have t116 : a.tmps[116]? = some (.int .i64 i) := hs.get 116 (by kernel_rfl) rfl
      obtain ⟨x119, t119, f119⟩ := (hdep 12 (by kernel_rfl) (by kernel_rfl)).at 119 (by kernel_rfl)
      replace f119 := f119.1 rfl
      obtain ⟨g1, rfl, G1⟩ := f119
      have E1 := eE0.trans (hb.mono eE0.size)
      refine .inr ⟨138, #[.slice d.ko d.ks.length d.kc, .int .i64 i, .int .i64 i, .slice (some ⟨g1, 0, none⟩) 1 1], by go_simp, (chgK_any w d.ko (some ⟨g1, 0, none⟩) d.ks.length d.kc 1 1 i i (d.ks.map Part.val) [.slice xo xn xc] (Nc.ok.kl.vl.below E1) G1 (part_one _) (by intro y hy; rw [List.mem_singleton.1 hy]; rfl) (Nat.le_refl _) (by omega) (by omega)).mono ?_⟩
      rintro e w' ⟨ro, rc, rfl, h1, h2⟩
      exact ⟨_, rfl, ⟨fun e => absurd e (by decide), fun _ => ⟨ro, rc, rfl, h1⟩, fun e => absurd e (by decide), fun e => absurd e (by decide), fun e => absurd e (by decide), fun e => absurd e (by decide), fun e => absurd e (by decide), fun e => absurd e (by decide), fun e => absurd e (by decide)⟩, h2⟩
    · obtain rfl : _ = o := Option.some.inj (show some _ = some o from ho)
      have t128 : a.tmps[128]? = some (.slice yo yn yc) := hs.get 128 (by kernel_rfl) rfl
      exact .inl ⟨_, _, by go_simp, ⟨fun e => absurd e (by decide), fun e => absurd e (by decide), fun _ => ⟨_, rfl, VL.new w [.slice yo yn yc] 25 (by simp [maxLen])⟩, fun e => absurd e (by decide), fun e => absurd e (by decide), fun e => absurd e (by decide), fun e => absurd e (by decide), fun e => absurd e (by decide), fun e => absurd e (by decide)⟩, (Below.refl _ _).alloc (Nat.le_refl _) _⟩
    · obtain rfl : _ = o := Option.some.inj (show some _ = some o from ho)
      have t124 : a.tmps[124]? = some (.slice d.vo d.vs.length d.vc) := hs.get 124 (by kernel_rfl) rfl
      have t125 : a.tmps[125]? = some (.int .i64 i) := hs.get 125 (by kernel_rfl) rfl
      have t126 : a.tmps[126]? = some (.int .i64 i) := hs.get 126 (by kernel_rfl) rfl
      obtain ⟨x129, t129, f129⟩ := (hdep 22 (by kernel_rfl) (by kernel_rfl)).at 129 (by kernel_rfl)
      replace f129 := f129.2.2.1 rfl
      obtain ⟨g1, rfl, G1⟩ := f129
      have E1 := eE0.trans (hb.mono eE0.size)
      refine .inr ⟨138, #[.slice d.vo d.vs.length d.vc, .int .i64 i, .int .i64 i, .slice (some ⟨g1, 0, none⟩) 1 1], by go_simp, (chgK_any w d.vo (some ⟨g1, 0, none⟩) d.vs.length d.vc 1 1 i i (d.vs.map Part.val) [.slice yo yn yc] (Nc.ok.vl.vl.below E1) G1 (part_one _) (by intro y hy; rw [List.mem_singleton.1 hy]; rfl) (Nat.le_refl _) (by omega) (by omega)).mono ?_⟩
      rintro e w' ⟨ro, rc, rfl, h1, h2⟩
      exact ⟨_, rfl, ⟨fun e => absurd e (by decide), fun e => absurd e (by decide), fun e => absurd e (by decide), fun _ => ⟨ro, rc, rfl, h1⟩, fun e => absurd e (by decide), fun e => absurd e (by decide), fun e => absurd e (by decide), fun e => absurd e (by decide), fun e => absurd e (by decide)⟩, h2⟩
    · obtain rfl : _ = o := Option.some.inj (show some _ = some o from ho)
      have t138 : a.tmps[138]? = some (.pointer p1) := hs.get 138 (by kernel_rfl) rfl
      have t139 : a.tmps[139]? = some (.pointer p2) := hs.get 139 (by kernel_rfl) rfl
      exact .inl ⟨_, _, by go_simp, ⟨fun e => absurd e (by decide), fun e => absurd e (by decide), fun e => absurd e (by decide), fun e => absurd e (by decide), fun _ => ⟨_, rfl, VL.new w [.pointer p1, .pointer p2] 136 (by simp [maxLen])⟩, fun e => absurd e (by decide), fun e => absurd e (by decide), fun e => absurd e (by decide), fun e => absurd e (by decide)⟩, (Below.refl _ _).alloc (Nat.le_refl _) _⟩
    · obtain rfl : _ = o := Option.some.inj (show some _ = some o from ho)
      have t134 : a.tmps[134]? = some (.slice d.co d.cs.length d.cc) := hs.get 134 (by kernel_rfl) rfl
      have t135 : a.tmps[135]? = some (.int .i64 i) := hs.get 135 (by kernel_rfl) rfl
      have t137 : a.tmps[137]? = some (.int .i64 ((i + 1 : Nat) : Int)) := hs.get 137 (by kernel_rfl) rfl
      obtain ⟨x140, t140, f140⟩ := (hdep 33 (by kernel_rfl) (by kernel_rfl)).at 140 (by kernel_rfl)
      replace f140 := f140.2.2.2.2.1 rfl
      obtain ⟨g1, rfl, G1⟩ := f140
      have E1 := eE0.trans (hb.mono eE0.size)
      refine .inr ⟨139, #[.slice d.co d.cs.length d.cc, .int .i64 i, .int .i64 ((i + 1 : Nat) : Int), .slice (some ⟨g1, 0, none⟩) 2 2], by go_simp, (chgN_any w d.co (some ⟨g1, 0, none⟩) d.cs.length d.cc 2 2 i (i + 1) d.cs [.pointer p1, .pointer p2] (Nc.ok.cl.below E1) G1 Nc.one (by intro y hy; rcases List.mem_cons.1 hy with rfl | hy; rfl; rw [List.mem_singleton.1 hy]; rfl) (by omega) (by omega) (by omega)).mono ?_⟩
      rintro e w' ⟨ro, rc, rfl, h1, h2⟩
      exact ⟨_, rfl, ⟨fun e => absurd e (by decide), fun e => absurd e (by decide), fun e => absurd e (by decide), fun e => absurd e (by decide), fun e => absurd e (by decide), fun _ => ⟨ro, rc, rfl, h1⟩, fun e => absurd e (by decide), fun e => absurd e (by decide), fun e => absurd e (by decide)⟩, h2⟩
    · obtain rfl : _ = o := Option.some.inj (show some _ = some o from ho)
      have t110 : a.tmps[110]? = some (.int .i64 d.L) := hs.get 110 (by kernel_rfl) rfl
      obtain ⟨x120, t120, f120⟩ := (hdep 13 (by kernel_rfl) (by kernel_rfl)).at 120 (by kernel_rfl)
      replace f120 := f120.2.1 rfl
      obtain ⟨x130, t130, f130⟩ := (hdep 23 (by kernel_rfl) (by kernel_rfl)).at 130 (by kernel_rfl)
      replace f130 := f130.2.2.2.1 rfl
      obtain ⟨x141, t141, f141⟩ := (hdep 34 (by kernel_rfl) (by kernel_rfl)).at 141 (by kernel_rfl)
      replace f141 := f141.2.2.2.2.2.1 rfl
      obtain ⟨k1, k2, rfl, h1⟩ := f120
      obtain ⟨v1, v2, rfl, h2⟩ := f130
      obtain ⟨n1, n2, rfl, h3⟩ := f141
      exact .inl ⟨.agg #[.int .i64 d.L, .slice k1 (i + 1 + (d.ks.length - i)) k2, .slice v1 (i + 1 + (d.vs.length - i)) v2, .slice n1 (i + 2 + (d.cs.length - (i + 1))) n2], w, by go_simp, ⟨fun e => absurd e (by decide), fun e => absurd e (by decide), fun e => absurd e (by decide), fun e => absurd e (by decide), fun e => absurd e (by decide), fun e => absurd e (by decide), fun _ => ⟨k1, k2, v1, v2, n1, n2, rfl, h1, h2, h3⟩, fun e => absurd e (by decide), fun e => absurd e (by decide)⟩, Below.refl _ _⟩
    · obtain rfl : _ = o := Option.some.inj (show some _ = some o from ho)
      obtain ⟨x142, t142, f142⟩ := (hdep 35 (by kernel_rfl) (by kernel_rfl)).at 142 (by kernel_rfl)
      replace f142 := f142.2.2.2.2.2.2.1 rfl
      obtain ⟨k1, k2, v1, v2, n1, n2, rfl, h1, h2, h3⟩ := f142
      have E1 := eE0.trans (hb.mono eE0.size)
      have hA2 : Below w.heap.size w (w.alloc (.cells #[.int .i64 d.L, .slice k1 (i + 1 + (d.ks.length - i)) k2, .slice v1 (i + 1 + (d.vs.length - i)) v2, .slice n1 (i + 2 + (d.cs.length - (i + 1))) n2] 176)) := (Below.refl _ _).alloc (Nat.le_refl _) _
      refine .inl ⟨_, _, by go_simp, ⟨fun e => absurd e (by decide), fun e => absurd e (by decide), fun e => absurd e (by decide), fun e => absurd e (by decide), fun e => absurd e (by decide), fun e => absurd e (by decide), fun e => absurd e (by decide), fun _ => TF _ (E1.trans (hA2.mono E1.size)) _ _ _ _ _ _ _ (heap_alloc_new w _) (h1.below hA2) (h2.below hA2) (h3.below hA2), fun e => absurd e (by decide)⟩, hA2⟩
    · obtain rfl : _ = o := Option.some.inj (show some _ = some o from ho)
      obtain ⟨x143, t143, f143⟩ := (hdep 36 (by kernel_rfl) (by kernel_rfl)).at 143 (by kernel_rfl)
      replace f143 := f143.2.2.2.2.2.2.2.1 rfl
      exact .inl ⟨x143, w, by go_simp, ⟨fun e => absurd e (by decide), fun e => absurd e (by decide), fun e => absurd e (by decide), fun e => absurd e (by decide), fun e => absurd e (by decide), fun e => absurd e (by decide), fun e => absurd e (by decide), fun e => absurd e (by decide), fun _ => f143⟩, Below.refl _ _⟩
  · intro za zw hs hb hh
    obtain ⟨x4, t4, f4⟩ := (hh 37 (by simp)).at 4 (by kernel_rfl); replace f4 := f4.2.2.2.2.2.2.2.2 rfl
    have E1 := Bc.trans ((eE0.trans (hb.mono eE0.size)).mono Bc.size)
    have hde : za.defers = [] := hs.defers
    go_wp2
    refine bodyPost_ret (v := x4) (by rw [results_tmp rfl]; simp [t4]) hde ?_
    exact ⟨_, rfl, f4, E1⟩
end Go.Proofs.YtlljmhcgjkolpaaGreatDoor
