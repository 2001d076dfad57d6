/-
  Texts in one: PWithV.
-/
import Derived.Test.YtlljmhcgjkolpaaGreatDoorSplitCutsQFL
import Derived.Test.YtlljmhcgjkolpaaGreatDoorSplitCutsQ11
import Derived.Test.YtlljmhcgjkolpaaGreatDoorSplitCutsQ12
import Derived.Test.YtlljmhcgjkolpaaGreatDoorSplitCutsQ13
namespace Go.Proofs.YtlljmhcgjkolpaaGreatDoor
open Go.RowKit
set_option maxHeartbeats 4000000 in
set_option maxRecDepth 100000 in
theorem withV_any (w : World) (x : It) (xo yo : Option Addr) (xn xc yn yc : Nat) (hx : Sl w xo xn xc x.k) (hy : Sl w yo yn yc x.v) (l : List It) (d : Nd) (segs : List (List It)) (xs : List It) (h : Nod w l d segs xs) (hs : Srt l) (hn : l.length ≤ 100000) (hL : Hid (d.L = lev x.k)) (hh : Hid (∃ y ∈ xs, y.k = x.k)) :
    Calls Tryz.prog 104 #[d.ptr, .agg #[.int .i64 (lev x.k), .slice xo xn xc, .slice yo yn yc]] w (RetT w (ins l x)) := by
  have hl1 : lev x.k ≤ d.L := by have := hL.out; omega
  have hl2 : d.L ≤ lev x.k := by have := hL.out; omega
  have hm := h.many
  have hnk1 := Nat.le_of_eq h.nk
  have hnk2 := Nat.le_of_eq h.nk.symm
  have hnv1 := Nat.le_of_eq h.nv
  have hnv2 := Nat.le_of_eq h.nv.symm
  have hnc1 := Nat.le_of_eq h.nc
  have hnc2 := Nat.le_of_eq h.nc.symm
  have hpos := h.shp.pos
  have CP : ∀ V, Below w.heap.size w V → Calls Tryz.prog 136 #[d.ptr, .slice xo xn xc] V (Found V d.ks x.k) := fun V hV => place_any V d (h.ok.below hV) xo xn xc x.k (hx.below hV) (h.rise hs) (by omega)
  unfold Nd.ptr at CP ⊢
  go_enter Tryz.func104, Tryz.ntmps104
  go_wp2_with fail
  obtain ⟨w0, hw0⟩ : ∃ V, V = (w.alloc (.cells #[.int .i64 (lev x.k), .slice xo xn xc, .slice yo yn yc] 150)) := ⟨_, rfl⟩
  have L0 : Lf w0 w.heap.size (lev x.k) (.slice xo xn xc) (.slice yo yn yc) := by rw [hw0]; exact Lf.new ..
  have B0 : Below w.heap.size w w0 := by rw [hw0]; exact (Below.refl _ w).alloc (Nat.le_refl _) _
  rw [← hw0]
  obtain ⟨g, hg⟩ : ∃ g, g = w.heap.size := ⟨_, rfl⟩
  rw [← hg] at L0 ⊢
  clear hw0 hg
  have N0 := h.below B0
  have aHS : Hid (∀ V, Below w0.heap.size w0 V → V.cell? ⟨d.b, 0, none⟩ = some (.int .i64 d.L) ∧ V.cell? ⟨d.b, 1, none⟩ = some (.slice d.ko d.ks.length d.kc) ∧ V.cell? ⟨d.b, 2, none⟩ = some (.slice d.vo d.vs.length d.vc) ∧ V.cell? ⟨d.b, 3, none⟩ = some (.slice d.co d.cs.length d.cc) ∧ V.cell? ⟨g, 0, none⟩ = some (.int .i64 (lev x.k)) ∧ V.cell? ⟨g, 1, none⟩ = some (.slice xo xn xc) ∧ V.cell? ⟨g, 2, none⟩ = some (.slice yo yn yc)) := fun V hV => ⟨(N0.ok.below hV).c0, (N0.ok.below hV).c1, (N0.ok.below hV).c2, (N0.ok.below hV).c3, (L0.below hV).c0, (L0.below hV).c1, (L0.below hV).c2⟩
  have aE0 : Below w0.heap.size w0 w0.drew := (Below.refl _ _).drew
  refine wp_region_noPanic ?_
  refine wp_region_held_drew (S := fun V => V.cell? ⟨d.b, 0, none⟩ = some (.int .i64 d.L) ∧ V.cell? ⟨d.b, 1, none⟩ = some (.slice d.ko d.ks.length d.kc) ∧ V.cell? ⟨d.b, 2, none⟩ = some (.slice d.vo d.vs.length d.vc) ∧ V.cell? ⟨d.b, 3, none⟩ = some (.slice d.co d.cs.length d.cc) ∧ V.cell? ⟨g, 0, none⟩ = some (.int .i64 (lev x.k)) ∧ V.cell? ⟨g, 1, none⟩ = some (.slice xo xn xc) ∧ V.cell? ⟨g, 2, none⟩ = some (.slice yo yn yc)) (by kernel_rfl) (aHS.out _ aE0) (fun aH0 => ?_)
  obtain ⟨av0, hv0⟩ : ∃ v, v = w0.drew := ⟨_, rfl⟩
  rw [← hv0] at aH0 aE0 ⊢
  clear hv0
  refine hr_take_w 0 (some 11) (.pointer (some ⟨d.b, 0, none⟩)) rfl rfl (by kernel_rfl) (by kernel_rfl) (by kernel_rfl) rfl (fun W hW => by obtain ⟨h0, h1, h2, h3, h4, h5, h6⟩ := hW; go_simp) aH0 ?_
  simp only [FL]
  refine hr_take_w 1 (some 12) (.bool false) rfl rfl (by kernel_rfl) (by kernel_rfl) (by kernel_rfl) rfl (fun W hW => by obtain ⟨h0, h1, h2, h3, h4, h5, h6⟩ := hW; go_simp) aH0 ?_
  simp only [FL]
  refine hr_take_w 2 (some 13) (.bool false) rfl rfl (by kernel_rfl) (by kernel_rfl) (by kernel_rfl) rfl (fun W hW => by obtain ⟨h0, h1, h2, h3, h4, h5, h6⟩ := hW; go_simp) aH0 ?_
  simp only [FL]
  refine hr_take_w 3 (some 14) (.pointer (some ⟨d.b, 0, none⟩)) rfl rfl (by kernel_rfl) (by kernel_rfl) (by kernel_rfl) rfl (fun W hW => by obtain ⟨h0, h1, h2, h3, h4, h5, h6⟩ := hW; go_simp) aH0 ?_
  simp only [FL]
  refine hr_take_w 4 (some 15) (.pointer (some ⟨d.b, 0, none⟩)) rfl rfl (by kernel_rfl) (by kernel_rfl) (by kernel_rfl) rfl (fun W hW => by obtain ⟨h0, h1, h2, h3, h4, h5, h6⟩ := hW; go_simp) aH0 ?_
  simp only [FL]
  refine hr_take_w 5 (some 16) (.pointer (some ⟨d.b, 0, none⟩)) rfl rfl (by kernel_rfl) (by kernel_rfl) (by kernel_rfl) rfl (fun W hW => by obtain ⟨h0, h1, h2, h3, h4, h5, h6⟩ := hW; go_simp) aH0 ?_
  simp only [FL]
  refine hr_take_w 6 (some 17) (.int .i64 d.L) rfl rfl (by kernel_rfl) (by kernel_rfl) (by kernel_rfl) rfl (fun W hW => by obtain ⟨h0, h1, h2, h3, h4, h5, h6⟩ := hW; go_simp) aH0 ?_
  simp only [FL]
  refine hr_take_w 7 (some 18) (.pointer (some ⟨g, 0, none⟩)) rfl rfl (by kernel_rfl) (by kernel_rfl) (by kernel_rfl) rfl (fun W hW => by obtain ⟨h0, h1, h2, h3, h4, h5, h6⟩ := hW; go_simp) aH0 ?_
  simp only [FL]
  refine hr_take_w 8 (some 19) (.int .i64 (lev x.k)) rfl rfl (by kernel_rfl) (by kernel_rfl) (by kernel_rfl) rfl (fun W hW => by obtain ⟨h0, h1, h2, h3, h4, h5, h6⟩ := hW; go_simp) aH0 ?_
  simp only [FL]
  refine hr_take_w 9 (some 20) (.bool false) rfl rfl (by kernel_rfl) (by kernel_rfl) (by kernel_rfl) rfl (fun W hW => by obtain ⟨h0, h1, h2, h3, h4, h5, h6⟩ := hW; go_simp) aH0 ?_
  simp only [FL]
  refine hr_take_w 10 (some 21) (.bool false) rfl rfl (by kernel_rfl) (by kernel_rfl) (by kernel_rfl) rfl (fun W hW => by obtain ⟨h0, h1, h2, h3, h4, h5, h6⟩ := hW; go_simp) aH0 ?_
  simp only [FL]
  refine wpAnyH_done (by kernel_rfl) ?_ _
  refine NoPanic.normal ?_
  have Ba : Below w.heap.size w av0 := B0.trans (aE0.mono B0.size)
  have La := L0.below aE0
  have lc1 := La.c1
  have CPa := CP av0 Ba
  clear CP
  go_wp2_with fail
  refine CPa.mono ?_
  rintro e w1 ⟨i, b, rfl, hat, B1'⟩
  have B1 : Below w.heap.size w w1 := Ba.trans (B1'.mono Ba.size)
  have N1 := h.below B1
  have L1 := La.below B1'
  clear CPa lc1
  obtain ⟨s, A, B, c, hA, hB, hB2, hf⟩ := h.found hs hat
  have hle := c.le
  have hw : IntKind.i64.wrap ((i : Int) + 1) = (i : Int) + 1 := by have := wrap_nat (k := i + 1) (by omega); simpa using this
  cases b with
  | false =>
    exfalso
    obtain ⟨y, hym, hyk⟩ := hh.out
    have hyl := h.shp.key y hym
    rw [c.el] at hyl
    rcases List.mem_append.1 hyl with hm1 | hm1
    · exact cmpL_lt_ne (hA y hm1) hyk
    · rcases List.mem_append.1 hm1 with hm1 | hm1
      · have h1 := c.ls y hm1
        rw [hyk, ← hL.out] at h1
        omega
      · exact cmpL_lt_ne (hB2 rfl y hm1) hyk.symm
  | true =>
  obtain ⟨hi, he⟩ := hf rfl
  have HE : Hid (xs[i].k = x.k) := he
  have hii : (i : Int) < (d.vs.length : Int) := by omega
  clear hf he hB2 hh
  go_wp2_with fail
  have bHS : Hid (∀ V, Below w1.heap.size w1 V → V.cell? ⟨d.b, 0, none⟩ = some (.int .i64 d.L) ∧ V.cell? ⟨d.b, 1, none⟩ = some (.slice d.ko d.ks.length d.kc) ∧ V.cell? ⟨d.b, 2, none⟩ = some (.slice d.vo d.vs.length d.vc) ∧ V.cell? ⟨d.b, 3, none⟩ = some (.slice d.co d.cs.length d.cc) ∧ V.cell? ⟨g, 0, none⟩ = some (.int .i64 (lev x.k)) ∧ V.cell? ⟨g, 1, none⟩ = some (.slice xo xn xc) ∧ V.cell? ⟨g, 2, none⟩ = some (.slice yo yn yc)) := fun V hV => ⟨(N1.ok.below hV).c0, (N1.ok.below hV).c1, (N1.ok.below hV).c2, (N1.ok.below hV).c3, (L1.below hV).c0, (L1.below hV).c1, (L1.below hV).c2⟩
  have bE0 : Below w1.heap.size w1 w1.drew := (Below.refl _ _).drew
  refine wp_region_noPanic ?_
  refine wp_region_held_drew (S := fun V => V.cell? ⟨d.b, 0, none⟩ = some (.int .i64 d.L) ∧ V.cell? ⟨d.b, 1, none⟩ = some (.slice d.ko d.ks.length d.kc) ∧ V.cell? ⟨d.b, 2, none⟩ = some (.slice d.vo d.vs.length d.vc) ∧ V.cell? ⟨d.b, 3, none⟩ = some (.slice d.co d.cs.length d.cc) ∧ V.cell? ⟨g, 0, none⟩ = some (.int .i64 (lev x.k)) ∧ V.cell? ⟨g, 1, none⟩ = some (.slice xo xn xc) ∧ V.cell? ⟨g, 2, none⟩ = some (.slice yo yn yc)) (by kernel_rfl) (bHS.out _ bE0) (fun bH0 => ?_)
  obtain ⟨bv0, hv0⟩ : ∃ v, v = w1.drew := ⟨_, rfl⟩
  rw [← hv0] at bH0 bE0 ⊢
  clear hv0
  refine hr_take_w 0 (some 49) (.pointer (some ⟨d.b, 0, none⟩)) rfl rfl (by kernel_rfl) (by kernel_rfl) (by kernel_rfl) rfl (fun W hW => by obtain ⟨h0, h1, h2, h3, h4, h5, h6⟩ := hW; go_simp) bH0 ?_
  simp only [FL]
  refine hr_take_w 1 (some 50) (.pointer (some ⟨d.b, 0, none⟩)) rfl rfl (by kernel_rfl) (by kernel_rfl) (by kernel_rfl) rfl (fun W hW => by obtain ⟨h0, h1, h2, h3, h4, h5, h6⟩ := hW; go_simp) bH0 ?_
  simp only [FL]
  refine hr_take_w 2 (some 51) (.pointer (some ⟨d.b, 0, none⟩)) rfl rfl (by kernel_rfl) (by kernel_rfl) (by kernel_rfl) rfl (fun W hW => by obtain ⟨h0, h1, h2, h3, h4, h5, h6⟩ := hW; go_simp) bH0 ?_
  simp only [FL]
  refine hr_take_w 3 (some 52) (.int .i64 d.L) rfl rfl (by kernel_rfl) (by kernel_rfl) (by kernel_rfl) rfl (fun W hW => by obtain ⟨h0, h1, h2, h3, h4, h5, h6⟩ := hW; go_simp) bH0 ?_
  simp only [FL]
  refine hr_take_w 4 (some 53) (.pointer (some ⟨g, 0, none⟩)) rfl rfl (by kernel_rfl) (by kernel_rfl) (by kernel_rfl) rfl (fun W hW => by obtain ⟨h0, h1, h2, h3, h4, h5, h6⟩ := hW; go_simp) bH0 ?_
  simp only [FL]
  refine hr_take_w 5 (some 54) (.int .i64 (lev x.k)) rfl rfl (by kernel_rfl) (by kernel_rfl) (by kernel_rfl) rfl (fun W hW => by obtain ⟨h0, h1, h2, h3, h4, h5, h6⟩ := hW; go_simp) bH0 ?_
  simp only [FL]
  refine hr_take_w 6 (some 55) (.bool false) rfl rfl (by kernel_rfl) (by kernel_rfl) (by kernel_rfl) rfl (fun W hW => by obtain ⟨h0, h1, h2, h3, h4, h5, h6⟩ := hW; go_simp) bH0 ?_
  simp only [FL]
  refine wpAnyH_done (by kernel_rfl) ?_ _
  refine NoPanic.normal ?_
  have Bb : Below w.heap.size w bv0 := B1.trans (bE0.mono B1.size)
  have Nb := h.below Bb
  have Lb := L1.below bE0
  go_wp2_with fail
  have cHS : Hid (∀ V, Below bv0.heap.size bv0 V → V.cell? ⟨d.b, 0, none⟩ = some (.int .i64 d.L) ∧ V.cell? ⟨d.b, 1, none⟩ = some (.slice d.ko d.ks.length d.kc) ∧ V.cell? ⟨d.b, 2, none⟩ = some (.slice d.vo d.vs.length d.vc) ∧ V.cell? ⟨d.b, 3, none⟩ = some (.slice d.co d.cs.length d.cc) ∧ V.cell? ⟨g, 0, none⟩ = some (.int .i64 (lev x.k)) ∧ V.cell? ⟨g, 1, none⟩ = some (.slice xo xn xc) ∧ V.cell? ⟨g, 2, none⟩ = some (.slice yo yn yc)) := fun V hV => ⟨(Nb.ok.below hV).c0, (Nb.ok.below hV).c1, (Nb.ok.below hV).c2, (Nb.ok.below hV).c3, (Lb.below hV).c0, (Lb.below hV).c1, (Lb.below hV).c2⟩
  have cE0 : Below bv0.heap.size bv0 bv0.drew := (Below.refl _ _).drew
  refine wp_region_noPanic ?_
  refine wp_region_held_drew (S := fun V => V.cell? ⟨d.b, 0, none⟩ = some (.int .i64 d.L) ∧ V.cell? ⟨d.b, 1, none⟩ = some (.slice d.ko d.ks.length d.kc) ∧ V.cell? ⟨d.b, 2, none⟩ = some (.slice d.vo d.vs.length d.vc) ∧ V.cell? ⟨d.b, 3, none⟩ = some (.slice d.co d.cs.length d.cc) ∧ V.cell? ⟨g, 0, none⟩ = some (.int .i64 (lev x.k)) ∧ V.cell? ⟨g, 1, none⟩ = some (.slice xo xn xc) ∧ V.cell? ⟨g, 2, none⟩ = some (.slice yo yn yc)) (by kernel_rfl) (cHS.out _ cE0) (fun cH0 => ?_)
  obtain ⟨cv0, hv0⟩ : ∃ v, v = bv0.drew := ⟨_, rfl⟩
  rw [← hv0] at cH0 cE0 ⊢
  clear hv0
  refine hr_take_w 0 (some 69) (.pointer (some ⟨d.b, 0, none⟩)) rfl rfl (by kernel_rfl) (by kernel_rfl) (by kernel_rfl) rfl (fun W hW => by obtain ⟨h0, h1, h2, h3, h4, h5, h6⟩ := hW; go_simp) cH0 ?_
  simp only [FL]
  refine hr_take_w 1 (some 70) (.pointer (some ⟨d.b, 0, none⟩)) rfl rfl (by kernel_rfl) (by kernel_rfl) (by kernel_rfl) rfl (fun W hW => by obtain ⟨h0, h1, h2, h3, h4, h5, h6⟩ := hW; go_simp) cH0 ?_
  simp only [FL]
  refine hr_take_w 2 (some 71) (.pointer (some ⟨d.b, 0, none⟩)) rfl rfl (by kernel_rfl) (by kernel_rfl) (by kernel_rfl) rfl (fun W hW => by obtain ⟨h0, h1, h2, h3, h4, h5, h6⟩ := hW; go_simp) cH0 ?_
  simp only [FL]
  refine hr_take_w 3 (some 72) (.int .i64 d.L) rfl rfl (by kernel_rfl) (by kernel_rfl) (by kernel_rfl) rfl (fun W hW => by obtain ⟨h0, h1, h2, h3, h4, h5, h6⟩ := hW; go_simp) cH0 ?_
  simp only [FL]
  refine hr_take_w 4 (some 73) (.pointer (some ⟨d.b, 0, none⟩)) rfl rfl (by kernel_rfl) (by kernel_rfl) (by kernel_rfl) rfl (fun W hW => by obtain ⟨h0, h1, h2, h3, h4, h5, h6⟩ := hW; go_simp) cH0 ?_
  simp only [FL]
  refine hr_take_w 5 (some 74) (.pointer (some ⟨d.b, 0, none⟩)) rfl rfl (by kernel_rfl) (by kernel_rfl) (by kernel_rfl) rfl (fun W hW => by obtain ⟨h0, h1, h2, h3, h4, h5, h6⟩ := hW; go_simp) cH0 ?_
  simp only [FL]
  refine hr_take_w 6 (some 75) (.pointer (some ⟨d.b, 1, none⟩)) rfl rfl (by kernel_rfl) (by kernel_rfl) (by kernel_rfl) rfl (fun W hW => by obtain ⟨h0, h1, h2, h3, h4, h5, h6⟩ := hW; go_simp) cH0 ?_
  simp only [FL]
  refine hr_take_w 7 (some 76) (.slice d.ko d.ks.length d.kc) rfl rfl (by kernel_rfl) (by kernel_rfl) (by kernel_rfl) rfl (fun W hW => by obtain ⟨h0, h1, h2, h3, h4, h5, h6⟩ := hW; go_simp) cH0 ?_
  simp only [FL]
  refine hr_take_w 8 (some 77) (.pointer (some ⟨d.b, 0, none⟩)) rfl rfl (by kernel_rfl) (by kernel_rfl) (by kernel_rfl) rfl (fun W hW => by obtain ⟨h0, h1, h2, h3, h4, h5, h6⟩ := hW; go_simp) cH0 ?_
  simp only [FL]
  refine hr_take_w 9 (some 78) (.pointer (some ⟨d.b, 0, none⟩)) rfl rfl (by kernel_rfl) (by kernel_rfl) (by kernel_rfl) rfl (fun W hW => by obtain ⟨h0, h1, h2, h3, h4, h5, h6⟩ := hW; go_simp) cH0 ?_
  simp only [FL]
  refine hr_take_w 10 (some 79) (.pointer (some ⟨d.b, 2, none⟩)) rfl rfl (by kernel_rfl) (by kernel_rfl) (by kernel_rfl) rfl (fun W hW => by obtain ⟨h0, h1, h2, h3, h4, h5, h6⟩ := hW; go_simp) cH0 ?_
  simp only [FL]
  refine hr_take_w 11 (some 80) (.slice d.vo d.vs.length d.vc) rfl rfl (by kernel_rfl) (by kernel_rfl) (by kernel_rfl) rfl (fun W hW => by obtain ⟨h0, h1, h2, h3, h4, h5, h6⟩ := hW; go_simp) cH0 ?_
  simp only [FL]
  refine hr_take_w 12 (some 81) (.int .i64 i) rfl rfl (by kernel_rfl) (by kernel_rfl) (by kernel_rfl) rfl (fun W hW => by obtain ⟨h0, h1, h2, h3, h4, h5, h6⟩ := hW; go_simp) cH0 ?_
  simp only [FL]
  refine hr_take_w 13 (some 82) (.int .i64 i) rfl rfl (by kernel_rfl) (by kernel_rfl) (by kernel_rfl) rfl (fun W hW => by obtain ⟨h0, h1, h2, h3, h4, h5, h6⟩ := hW; go_simp) cH0 ?_
  simp only [FL]
  refine hr_take_w 14 (some 83) (.int .i64 ((i + 1 : Nat) : Int)) rfl rfl (by kernel_rfl) (by kernel_rfl) (by kernel_rfl) rfl (fun W hW => by obtain ⟨h0, h1, h2, h3, h4, h5, h6⟩ := hW; go_simp) cH0 ?_
  simp only [FL]
  refine hr_take_w 15 (some 84) (.pointer (some ⟨g, 2, none⟩)) rfl rfl (by kernel_rfl) (by kernel_rfl) (by kernel_rfl) rfl (fun W hW => by obtain ⟨h0, h1, h2, h3, h4, h5, h6⟩ := hW; go_simp) cH0 ?_
  simp only [FL]
  refine hr_take_w 16 (some 85) (.slice yo yn yc) rfl rfl (by kernel_rfl) (by kernel_rfl) (by kernel_rfl) rfl (fun W hW => by obtain ⟨h0, h1, h2, h3, h4, h5, h6⟩ := hW; go_simp) cH0 ?_
  simp only [FL]
  refine hr_take_w 19 (some 88) (.pointer (some ⟨d.b, 0, none⟩)) rfl rfl (by kernel_rfl) (by kernel_rfl) (by kernel_rfl) rfl (fun W hW => by obtain ⟨h0, h1, h2, h3, h4, h5, h6⟩ := hW; go_simp) cH0 ?_
  simp only [FL]
  refine hr_take_w 20 (some 89) (.pointer (some ⟨d.b, 0, none⟩)) rfl rfl (by kernel_rfl) (by kernel_rfl) (by kernel_rfl) rfl (fun W hW => by obtain ⟨h0, h1, h2, h3, h4, h5, h6⟩ := hW; go_simp) cH0 ?_
  simp only [FL]
  refine hr_take_w 21 (some 90) (.pointer (some ⟨d.b, 3, none⟩)) rfl rfl (by kernel_rfl) (by kernel_rfl) (by kernel_rfl) rfl (fun W hW => by obtain ⟨h0, h1, h2, h3, h4, h5, h6⟩ := hW; go_simp) cH0 ?_
  simp only [FL]
  refine hr_take_w 22 (some 91) (.slice d.co d.cs.length d.cc) rfl rfl (by kernel_rfl) (by kernel_rfl) (by kernel_rfl) rfl (fun W hW => by obtain ⟨h0, h1, h2, h3, h4, h5, h6⟩ := hW; go_simp) cH0 ?_
  simp only [FL]
  refine hr_ex 17 (some 86) rfl rfl (by kernel_rfl) rfl (R := fun v w' => ∃ g, v = .slice (some ⟨g, 0, none⟩) 1 1 ∧ VL w' (some ⟨g, 0, none⟩) 1 1 [.slice yo yn yc] ∧ Below cv0.heap.size cv0 w') (⟨_, _, by go_simp, _, rfl, VL.new cv0 [.slice yo yn yc] 25 (by simp [maxLen]), (Below.refl _ _).alloc (Nat.le_refl _) _⟩) ?_
  rintro v cv1 ⟨cg0, rfl, cG0, cC0⟩
  have cE1 := cE0.trans (cC0.mono cE0.size)
  have cH1 := cHS.out cv1 cE1
  refine ⟨cH1, ?_⟩
  simp only [FL]
  refine hr_call_w 18 (some 87) 138 #[.slice d.vo d.vs.length d.vc, .int .i64 i, .int .i64 ((i + 1 : Nat) : Int), .slice (some ⟨cg0, 0, none⟩) 1 1] rfl rfl (by kernel_rfl) rfl (by go_simp) (fun v w' => ∃ ro rc, v = .slice ro (i + 1 + (d.vs.length - (i + 1))) rc ∧ VL w' ro (i + 1 + (d.vs.length - (i + 1))) rc ((d.vs.map Part.val).take i ++ [.slice yo yn yc] ++ (d.vs.map Part.val).drop (i + 1)) ∧ Below cv1.heap.size cv1 w') ((chgK_any cv1 d.vo (some ⟨cg0, 0, none⟩) d.vs.length d.vc 1 1 i (i + 1) (d.vs.map Part.val) [.slice yo yn yc] (Nb.ok.vl.vl.below cE1) cG0 (part_one _) (by intro y hy; rw [List.mem_singleton.1 hy]; rfl) (by omega) (by omega) (by omega)).mono (by
    rintro e w' ⟨ro, rc, rfl, F, C⟩
    exact ⟨_, rfl, ro, rc, rfl, F, C⟩)) ?_
  rintro v cv2 ⟨ro, rc, rfl, cF1, cC1⟩
  have cE2 := cE1.trans (cC1.mono cE1.size)
  have cH2 := cHS.out cv2 cE2
  clear cG0
  refine ⟨cH2, ?_⟩
  simp only [FL]
  refine hr_take_w 23 (some 92) (.agg #[.int .i64 d.L, .slice d.ko d.ks.length d.kc, .slice ro (i + 1 + (d.vs.length - (i + 1))) rc, .slice d.co d.cs.length d.cc]) rfl rfl (by kernel_rfl) (by kernel_rfl) (by kernel_rfl) rfl (fun W hW => by obtain ⟨h0, h1, h2, h3, h4, h5, h6⟩ := hW; go_simp) cH2 ?_
  simp only [FL]
  refine hr_ex 24 (some 93) rfl rfl (by kernel_rfl) rfl (R := fun v w' => ∃ g, v = .pointer (some ⟨g, 0, none⟩) ∧ w'.heap[g]? = some (.cells #[.int .i64 d.L, .slice d.ko d.ks.length d.kc, .slice ro (i + 1 + (d.vs.length - (i + 1))) rc, .slice d.co d.cs.length d.cc] 176) ∧ Below cv2.heap.size cv2 w') (⟨_, _, by go_simp, _, rfl, heap_alloc_new cv2 _, (Below.refl _ _).alloc (Nat.le_refl _) _⟩) ?_
  rintro v cv3 ⟨cg2, rfl, cG2, cC2⟩
  have cE3 := cE2.trans (cC2.mono cE2.size)
  have cH3 := cHS.out cv3 cE3
  refine ⟨cH3, ?_⟩
  simp only [FL]
  refine hr_take_w 25 (some 4) (.pointer (some ⟨cg2, 0, none⟩)) rfl rfl (by kernel_rfl) (by kernel_rfl) (by kernel_rfl) rfl (fun W hW => by obtain ⟨h0, h1, h2, h3, h4, h5, h6⟩ := hW; go_simp) cH3 ?_
  simp only [FL]
  refine wpAnyH_done (by kernel_rfl) ?_ _
  refine NoPanic.normal ?_
  have Bc : Below w.heap.size w cv3 := Bb.trans (cE3.mono Bb.size)
  have Nc := h.below Bc
  have k3 := cF1.below cC2
  obtain ⟨B', hBB, hshp⟩ := c.swap hi (x := x) (by rw [← hL.out])
  have V1 := KL.of (ps := d.vs.take i ++ (⟨yo, yn, yc, x.v⟩ : Part) :: d.vs.drop (i + 1)) k3 (by simp [Part.val, List.map_take, List.map_drop]) (by
    intro q hq
    rcases List.mem_append.1 hq with hq | hq
    · exact Nc.ok.vl.sl q (List.mem_of_mem_take hq)
    · rcases List.mem_cons.1 hq with rfl | hq
      · exact hy.below Bc
      · exact Nc.ok.vl.sl q (List.mem_of_mem_drop hq))
  have TT : T cv3 (.pointer (some ⟨cg2, 0, none⟩)) (ins l x) := by
    have e : ins l x = A ++ (s ++ x :: B') := by
      rw [ins_at (A := A ++ s) (B := B') (y := xs[i]) hs (by rw [c.el, hBB]; simp) HE.out]
      simp
    rw [e]
    refine T.make cG2 Nc.ok.kl V1 Nc.ok.cl hshp ?_ ?_ Nc.kids
    · have e2 : (xs.map It.k).drop i = x.k :: (xs.map It.k).drop (i + 1) := by
        rw [List.drop_eq_getElem_cons (by simpa using hi)]
        simp [HE.out]
      rw [Nc.ek, List.map_append, List.map_cons, List.map_take, List.map_drop, ← e2, List.take_append_drop]
    · simp [List.map_take, List.map_drop, Nc.ev]
  clear k3 V1 hshp hBB
  go_wp2
  go_ret
  exact ⟨_, rfl, TT, Bc⟩
end Go.Proofs.YtlljmhcgjkolpaaGreatDoor
