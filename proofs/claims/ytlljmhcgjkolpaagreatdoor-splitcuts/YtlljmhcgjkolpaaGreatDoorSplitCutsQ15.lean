/-
  Texts in one: PWithK.
-/
import Derived.Test.YtlljmhcgjkolpaaGreatDoorSplitCutsQFL
import Derived.Test.YtlljmhcgjkolpaaGreatDoorSplitCutsQ12
import Derived.Test.YtlljmhcgjkolpaaGreatDoorSplitCutsQ13
namespace Go.Proofs.YtlljmhcgjkolpaaGreatDoor
open Go.RowKit
set_option maxHeartbeats 4000000 in
set_option maxRecDepth 100000 in
theorem withK_any (w : World) (x : It) (xo yo : Option Addr) (xn xc yn yc : Nat) (hx : Sl w xo xn xc x.k) (l : List It) (d : Nd) (segs : List (List It)) (xs : List It) (h : Nod w l d segs xs) (hs : Srt l) (hn : l.length ≤ 100000) (hL : lev x.k < d.L)
    (ih : ∀ (V : World) (u : Value) (s : List It), s.length < l.length → Below w.heap.size w V → T V u s → Srt s → Calls Tryz.prog 104 #[u, .agg #[.int .i64 (lev x.k), .slice xo xn xc, .slice yo yn yc]] V (RetT V (ins s x))) :
    Calls Tryz.prog 104 #[d.ptr, .agg #[.int .i64 (lev x.k), .slice xo xn xc, .slice yo yn yc]] w (RetT w (ins l x)) := by
  have hl1 : lev x.k ≤ d.L := by omega
  have hWK : ∀ (i : Nat) (s A B : List It) (V : World) (z : Option Addr), Cut lev l d.L segs xs i s A B → Below w.heap.size w V → T V (.pointer z) (ins s x) → Calls Tryz.prog 137 #[d.ptr, .int .i64 i, .pointer z] V (RetT V (A ++ (ins s x ++ B))) := fun i s A B V z c hV hz => withKid_any V l d segs xs (h.below hV) i s A B (ins s x) c (.pointer z) hz (ins_lev c.ls hL) hn
  unfold Nd.ptr at hWK
  have hm := h.many
  have hnk1 := Nat.le_of_eq h.nk
  have hnk2 := Nat.le_of_eq h.nk.symm
  have hnv1 := Nat.le_of_eq h.nv
  have hnv2 := Nat.le_of_eq h.nv.symm
  have hnc1 := Nat.le_of_eq h.nc
  have hnc2 := Nat.le_of_eq h.nc.symm
  have hpos := h.shp.pos
  have CP : ∀ V, Below w.heap.size w V → Calls Tryz.prog 136 #[d.ptr, .slice xo xn xc] V (Found V d.ks x.k) := fun V hV => place_any V d (h.ok.below hV) xo xn xc x.k (hx.below hV) (h.rise hs) (by omega)
  unfold Nd.ptr at CP ⊢
  go_enter Tryz.func104, Tryz.ntmps104
  go_wp2_with fail
  obtain ⟨w0, hw0⟩ : ∃ V, V = (w.alloc (.cells #[.int .i64 (lev x.k), .slice xo xn xc, .slice yo yn yc] 150)) := ⟨_, rfl⟩
  have L0 : Lf w0 w.heap.size (lev x.k) (.slice xo xn xc) (.slice yo yn yc) := by rw [hw0]; exact Lf.new ..
  have B0 : Below w.heap.size w w0 := by rw [hw0]; exact (Below.refl _ w).alloc (Nat.le_refl _) _
  rw [← hw0]
  obtain ⟨g, hg⟩ : ∃ g, g = w.heap.size := ⟨_, rfl⟩
  rw [← hg] at L0 ⊢
  clear hw0 hg
  have N0 := h.below B0
  have aHS : Hid (∀ V, Below w0.heap.size w0 V → V.cell? ⟨d.b, 0, none⟩ = some (.int .i64 d.L) ∧ V.cell? ⟨d.b, 1, none⟩ = some (.slice d.ko d.ks.length d.kc) ∧ V.cell? ⟨d.b, 2, none⟩ = some (.slice d.vo d.vs.length d.vc) ∧ V.cell? ⟨d.b, 3, none⟩ = some (.slice d.co d.cs.length d.cc) ∧ V.cell? ⟨g, 0, none⟩ = some (.int .i64 (lev x.k)) ∧ V.cell? ⟨g, 1, none⟩ = some (.slice xo xn xc) ∧ V.cell? ⟨g, 2, none⟩ = some (.slice yo yn yc)) := fun V hV => ⟨(N0.ok.below hV).c0, (N0.ok.below hV).c1, (N0.ok.below hV).c2, (N0.ok.below hV).c3, (L0.below hV).c0, (L0.below hV).c1, (L0.below hV).c2⟩
  have aE0 : Below w0.heap.size w0 w0.drew := (Below.refl _ _).drew
  refine wp_region_noPanic ?_
  refine wp_region_held_drew (S := fun V => V.cell? ⟨d.b, 0, none⟩ = some (.int .i64 d.L) ∧ V.cell? ⟨d.b, 1, none⟩ = some (.slice d.ko d.ks.length d.kc) ∧ V.cell? ⟨d.b, 2, none⟩ = some (.slice d.vo d.vs.length d.vc) ∧ V.cell? ⟨d.b, 3, none⟩ = some (.slice d.co d.cs.length d.cc) ∧ V.cell? ⟨g, 0, none⟩ = some (.int .i64 (lev x.k)) ∧ V.cell? ⟨g, 1, none⟩ = some (.slice xo xn xc) ∧ V.cell? ⟨g, 2, none⟩ = some (.slice yo yn yc)) (by kernel_rfl) (aHS.out _ aE0) (fun aH0 => ?_)
  obtain ⟨av0, hv0⟩ : ∃ v, v = w0.drew := ⟨_, rfl⟩
  rw [← hv0] at aH0 aE0 ⊢
  clear hv0
  refine hr_take_w 0 (some 11) (.pointer (some ⟨d.b, 0, none⟩)) rfl rfl (by kernel_rfl) (by kernel_rfl) (by kernel_rfl) rfl (fun W hW => by obtain ⟨h0, h1, h2, h3, h4, h5, h6⟩ := hW; go_simp) aH0 ?_
  simp only [FL]
  refine hr_take_w 1 (some 12) (.bool false) rfl rfl (by kernel_rfl) (by kernel_rfl) (by kernel_rfl) rfl (fun W hW => by obtain ⟨h0, h1, h2, h3, h4, h5, h6⟩ := hW; go_simp) aH0 ?_
  simp only [FL]
  refine hr_take_w 2 (some 13) (.bool false) rfl rfl (by kernel_rfl) (by kernel_rfl) (by kernel_rfl) rfl (fun W hW => by obtain ⟨h0, h1, h2, h3, h4, h5, h6⟩ := hW; go_simp) aH0 ?_
  simp only [FL]
  refine hr_take_w 3 (some 14) (.pointer (some ⟨d.b, 0, none⟩)) rfl rfl (by kernel_rfl) (by kernel_rfl) (by kernel_rfl) rfl (fun W hW => by obtain ⟨h0, h1, h2, h3, h4, h5, h6⟩ := hW; go_simp) aH0 ?_
  simp only [FL]
  refine hr_take_w 4 (some 15) (.pointer (some ⟨d.b, 0, none⟩)) rfl rfl (by kernel_rfl) (by kernel_rfl) (by kernel_rfl) rfl (fun W hW => by obtain ⟨h0, h1, h2, h3, h4, h5, h6⟩ := hW; go_simp) aH0 ?_
  simp only [FL]
  refine hr_take_w 5 (some 16) (.pointer (some ⟨d.b, 0, none⟩)) rfl rfl (by kernel_rfl) (by kernel_rfl) (by kernel_rfl) rfl (fun W hW => by obtain ⟨h0, h1, h2, h3, h4, h5, h6⟩ := hW; go_simp) aH0 ?_
  simp only [FL]
  refine hr_take_w 6 (some 17) (.int .i64 d.L) rfl rfl (by kernel_rfl) (by kernel_rfl) (by kernel_rfl) rfl (fun W hW => by obtain ⟨h0, h1, h2, h3, h4, h5, h6⟩ := hW; go_simp) aH0 ?_
  simp only [FL]
  refine hr_take_w 7 (some 18) (.pointer (some ⟨g, 0, none⟩)) rfl rfl (by kernel_rfl) (by kernel_rfl) (by kernel_rfl) rfl (fun W hW => by obtain ⟨h0, h1, h2, h3, h4, h5, h6⟩ := hW; go_simp) aH0 ?_
  simp only [FL]
  refine hr_take_w 8 (some 19) (.int .i64 (lev x.k)) rfl rfl (by kernel_rfl) (by kernel_rfl) (by kernel_rfl) rfl (fun W hW => by obtain ⟨h0, h1, h2, h3, h4, h5, h6⟩ := hW; go_simp) aH0 ?_
  simp only [FL]
  refine hr_take_w 9 (some 20) (.bool false) rfl rfl (by kernel_rfl) (by kernel_rfl) (by kernel_rfl) rfl (fun W hW => by obtain ⟨h0, h1, h2, h3, h4, h5, h6⟩ := hW; go_simp) aH0 ?_
  simp only [FL]
  refine hr_take_w 10 (some 21) (.bool false) rfl rfl (by kernel_rfl) (by kernel_rfl) (by kernel_rfl) rfl (fun W hW => by obtain ⟨h0, h1, h2, h3, h4, h5, h6⟩ := hW; go_simp) aH0 ?_
  simp only [FL]
  refine wpAnyH_done (by kernel_rfl) ?_ _
  refine NoPanic.normal ?_
  have Ba : Below w.heap.size w av0 := B0.trans (aE0.mono B0.size)
  have La := L0.below aE0
  have lc1 := La.c1
  have CPa := CP av0 Ba
  clear CP
  go_wp2_with fail
  refine CPa.mono ?_
  rintro e w1 ⟨i, b, rfl, hat, B1'⟩
  have B1 : Below w.heap.size w w1 := Ba.trans (B1'.mono Ba.size)
  have N1 := h.below B1
  have L1 := La.below B1'
  clear CPa lc1
  obtain ⟨s, A, B, c, hA, hB, hB2, hf⟩ := h.found hs hat
  have hle := c.le
  have hw : IntKind.i64.wrap ((i : Int) + 1) = (i : Int) + 1 := by have := wrap_nat (k := i + 1) (by omega); simpa using this
  cases b with
  | true =>
    exfalso
    obtain ⟨hi, he⟩ := hf rfl
    have := h.shp.top xs[i] (List.getElem_mem hi)
    rw [he] at this
    omega
  | false =>
  have hB3 := hB2 rfl
  have HI : Hid (ins l x = A ++ (ins s x ++ B)) := by show _ = _; rw [c.el]; exact ins_mid hA hB3
  have hii : (i : Int) < (d.cs.length : Int) := by omega
  clear hf hB2
  go_wp2_with fail
  have bHS : Hid (∀ V, Below w1.heap.size w1 V → V.cell? ⟨d.b, 0, none⟩ = some (.int .i64 d.L) ∧ V.cell? ⟨d.b, 1, none⟩ = some (.slice d.ko d.ks.length d.kc) ∧ V.cell? ⟨d.b, 2, none⟩ = some (.slice d.vo d.vs.length d.vc) ∧ V.cell? ⟨d.b, 3, none⟩ = some (.slice d.co d.cs.length d.cc) ∧ V.cell? ⟨g, 0, none⟩ = some (.int .i64 (lev x.k)) ∧ V.cell? ⟨g, 1, none⟩ = some (.slice xo xn xc) ∧ V.cell? ⟨g, 2, none⟩ = some (.slice yo yn yc)) := fun V hV => ⟨(N1.ok.below hV).c0, (N1.ok.below hV).c1, (N1.ok.below hV).c2, (N1.ok.below hV).c3, (L1.below hV).c0, (L1.below hV).c1, (L1.below hV).c2⟩
  have bE0 : Below w1.heap.size w1 w1.drew := (Below.refl _ _).drew
  refine wp_region_noPanic ?_
  refine wp_region_held_drew (S := fun V => V.cell? ⟨d.b, 0, none⟩ = some (.int .i64 d.L) ∧ V.cell? ⟨d.b, 1, none⟩ = some (.slice d.ko d.ks.length d.kc) ∧ V.cell? ⟨d.b, 2, none⟩ = some (.slice d.vo d.vs.length d.vc) ∧ V.cell? ⟨d.b, 3, none⟩ = some (.slice d.co d.cs.length d.cc) ∧ V.cell? ⟨g, 0, none⟩ = some (.int .i64 (lev x.k)) ∧ V.cell? ⟨g, 1, none⟩ = some (.slice xo xn xc) ∧ V.cell? ⟨g, 2, none⟩ = some (.slice yo yn yc)) (by kernel_rfl) (bHS.out _ bE0) (fun bH0 => ?_)
  obtain ⟨bv0, hv0⟩ : ∃ v, v = w1.drew := ⟨_, rfl⟩
  rw [← hv0] at bH0 bE0 ⊢
  clear hv0
  refine hr_take_w 0 (some 49) (.pointer (some ⟨d.b, 0, none⟩)) rfl rfl (by kernel_rfl) (by kernel_rfl) (by kernel_rfl) rfl (fun W hW => by obtain ⟨h0, h1, h2, h3, h4, h5, h6⟩ := hW; go_simp) bH0 ?_
  simp only [FL]
  refine hr_take_w 1 (some 50) (.pointer (some ⟨d.b, 0, none⟩)) rfl rfl (by kernel_rfl) (by kernel_rfl) (by kernel_rfl) rfl (fun W hW => by obtain ⟨h0, h1, h2, h3, h4, h5, h6⟩ := hW; go_simp) bH0 ?_
  simp only [FL]
  refine hr_take_w 2 (some 51) (.pointer (some ⟨d.b, 0, none⟩)) rfl rfl (by kernel_rfl) (by kernel_rfl) (by kernel_rfl) rfl (fun W hW => by obtain ⟨h0, h1, h2, h3, h4, h5, h6⟩ := hW; go_simp) bH0 ?_
  simp only [FL]
  refine hr_take_w 3 (some 52) (.int .i64 d.L) rfl rfl (by kernel_rfl) (by kernel_rfl) (by kernel_rfl) rfl (fun W hW => by obtain ⟨h0, h1, h2, h3, h4, h5, h6⟩ := hW; go_simp) bH0 ?_
  simp only [FL]
  refine hr_take_w 4 (some 53) (.pointer (some ⟨g, 0, none⟩)) rfl rfl (by kernel_rfl) (by kernel_rfl) (by kernel_rfl) rfl (fun W hW => by obtain ⟨h0, h1, h2, h3, h4, h5, h6⟩ := hW; go_simp) bH0 ?_
  simp only [FL]
  refine hr_take_w 5 (some 54) (.int .i64 (lev x.k)) rfl rfl (by kernel_rfl) (by kernel_rfl) (by kernel_rfl) rfl (fun W hW => by obtain ⟨h0, h1, h2, h3, h4, h5, h6⟩ := hW; go_simp) bH0 ?_
  simp only [FL]
  refine hr_take_w 6 (some 55) (.bool true) rfl rfl (by kernel_rfl) (by kernel_rfl) (by kernel_rfl) rfl (fun W hW => by obtain ⟨h0, h1, h2, h3, h4, h5, h6⟩ := hW; go_simp) bH0 ?_
  simp only [FL]
  refine wpAnyH_done (by kernel_rfl) ?_ _
  refine NoPanic.normal ?_
  have Bb : Below w.heap.size w bv0 := B1.trans (bE0.mono B1.size)
  have Nb := h.below Bb
  have Lb := L1.below bE0
  obtain ⟨kb, ko, s', u, eco, hs1, hs2, hcell, hTk, hlen⟩ := Nb.kidAt i hle
  obtain rfl : s = s' := Option.some.inj (c.seg.symm.trans hs1)
  have hss : Srt s := by rw [c.el] at hs; exact hs.app.2.1.app.1
  obtain ⟨q, rfl⟩ := hTk.ptr
  have CI : ∀ V, Below bv0.heap.size bv0 V → Calls Tryz.prog 104 #[.pointer q, .agg #[.int .i64 (lev x.k), .slice xo xn xc, .slice yo yn yc]] V fun e w' => ∃ z, e = .returned (.pointer z) ∧ T w' (.pointer z) (ins s x) ∧ Below V.heap.size V w' := by
    intro V hV
    refine (ih V (.pointer q) s hlen (Bb.trans (hV.mono Bb.size)) (hTk.below hV) hss).mono ?_
    rintro e w' ⟨y, rfl, Ty, hb⟩
    obtain ⟨z, rfl⟩ := Ty.ptr
    exact ⟨z, rfl, Ty, hb⟩
  have CW : ∀ V z, Below bv0.heap.size bv0 V → T V (.pointer z) (ins s x) → Calls Tryz.prog 137 #[.pointer (some ⟨d.b, 0, none⟩), .int .i64 i, .pointer z] V fun e w' => ∃ y, e = .returned (.pointer y) ∧ T w' (.pointer y) (A ++ (ins s x ++ B)) ∧ Below V.heap.size V w' := by
    intro V z hV hz
    refine (hWK i s A B V z c (Bb.trans (hV.mono Bb.size)) hz).mono ?_
    rintro e w' ⟨y, rfl, Ty, hb⟩
    obtain ⟨z, rfl⟩ := Ty.ptr
    exact ⟨z, rfl, Ty, hb⟩
  clear hs1 hs2 hTk hWK ih
  go_wp2_with fail
  have cHS : Hid (∀ V, Below bv0.heap.size bv0 V → V.cell? ⟨d.b, 3, none⟩ = some (.slice (some ⟨kb, ko, none⟩) d.cs.length d.cc) ∧ V.cell? ⟨kb, ko + i, none⟩ = some (.pointer q) ∧ V.cell? ⟨g, 0, none⟩ = some (.int .i64 (lev x.k)) ∧ V.cell? ⟨g, 1, none⟩ = some (.slice xo xn xc) ∧ V.cell? ⟨g, 2, none⟩ = some (.slice yo yn yc)) := fun V hV => ⟨by rw [← eco]; exact (Nb.ok.below hV).c3, (hV.cell (World.block_lt_of_cell? _ _ hcell)).trans hcell, (Lb.below hV).c0, (Lb.below hV).c1, (Lb.below hV).c2⟩
  have cE0 : Below bv0.heap.size bv0 bv0.drew := (Below.refl _ _).drew
  refine wp_region_noPanic ?_
  refine wp_region_held_drew (S := fun V => V.cell? ⟨d.b, 3, none⟩ = some (.slice (some ⟨kb, ko, none⟩) d.cs.length d.cc) ∧ V.cell? ⟨kb, ko + i, none⟩ = some (.pointer q) ∧ V.cell? ⟨g, 0, none⟩ = some (.int .i64 (lev x.k)) ∧ V.cell? ⟨g, 1, none⟩ = some (.slice xo xn xc) ∧ V.cell? ⟨g, 2, none⟩ = some (.slice yo yn yc)) (by kernel_rfl) (cHS.out _ cE0) (fun cH0 => ?_)
  obtain ⟨cv0, hv0⟩ : ∃ v, v = bv0.drew := ⟨_, rfl⟩
  rw [← hv0] at cH0 cE0 ⊢
  clear hv0
  refine hr_take_w 0 (some 56) (.pointer (some ⟨d.b, 0, none⟩)) rfl rfl (by kernel_rfl) (by kernel_rfl) (by kernel_rfl) rfl (fun W hW => by obtain ⟨h0, h1, h2, h3, h4⟩ := hW; go_simp) cH0 ?_
  simp only [FL]
  refine hr_take_w 1 (some 57) (.int .i64 i) rfl rfl (by kernel_rfl) (by kernel_rfl) (by kernel_rfl) rfl (fun W hW => by obtain ⟨h0, h1, h2, h3, h4⟩ := hW; go_simp) cH0 ?_
  simp only [FL]
  refine hr_take_w 2 (some 58) (.pointer (some ⟨d.b, 0, none⟩)) rfl rfl (by kernel_rfl) (by kernel_rfl) (by kernel_rfl) rfl (fun W hW => by obtain ⟨h0, h1, h2, h3, h4⟩ := hW; go_simp) cH0 ?_
  simp only [FL]
  refine hr_take_w 3 (some 59) (.pointer (some ⟨d.b, 0, none⟩)) rfl rfl (by kernel_rfl) (by kernel_rfl) (by kernel_rfl) rfl (fun W hW => by obtain ⟨h0, h1, h2, h3, h4⟩ := hW; go_simp) cH0 ?_
  simp only [FL]
  refine hr_take_w 4 (some 60) (.pointer (some ⟨d.b, 3, none⟩)) rfl rfl (by kernel_rfl) (by kernel_rfl) (by kernel_rfl) rfl (fun W hW => by obtain ⟨h0, h1, h2, h3, h4⟩ := hW; go_simp) cH0 ?_
  simp only [FL]
  refine hr_take_w 5 (some 61) (.slice (some ⟨kb, ko, none⟩) d.cs.length d.cc) rfl rfl (by kernel_rfl) (by kernel_rfl) (by kernel_rfl) rfl (fun W hW => by obtain ⟨h0, h1, h2, h3, h4⟩ := hW; go_simp) cH0 ?_
  simp only [FL]
  refine hr_take_w 6 (some 62) (.int .i64 i) rfl rfl (by kernel_rfl) (by kernel_rfl) (by kernel_rfl) rfl (fun W hW => by obtain ⟨h0, h1, h2, h3, h4⟩ := hW; go_simp) cH0 ?_
  simp only [FL]
  refine hr_take_w 7 (some 63) (.pointer (some ⟨kb, ko + i, none⟩)) rfl rfl (by kernel_rfl) (by kernel_rfl) (by kernel_rfl) rfl (fun W hW => by obtain ⟨h0, h1, h2, h3, h4⟩ := hW; go_simp) cH0 ?_
  simp only [FL]
  refine hr_take_w 8 (some 64) (.pointer q) rfl rfl (by kernel_rfl) (by kernel_rfl) (by kernel_rfl) rfl (fun W hW => by obtain ⟨h0, h1, h2, h3, h4⟩ := hW; go_simp) cH0 ?_
  simp only [FL]
  refine hr_take_w 9 (some 65) (.agg #[.int .i64 (lev x.k), .slice xo xn xc, .slice yo yn yc]) rfl rfl (by kernel_rfl) (by kernel_rfl) (by kernel_rfl) rfl (fun W hW => by obtain ⟨h0, h1, h2, h3, h4⟩ := hW; go_simp) cH0 ?_
  simp only [FL]
  refine hr_call_w 10 (some 66) 104 #[.pointer q, .agg #[.int .i64 (lev x.k), .slice xo xn xc, .slice yo yn yc]] rfl rfl (by kernel_rfl) rfl (by go_simp) (fun v w' => ∃ z, v = .pointer z ∧ T w' (.pointer z) (ins s x) ∧ Below cv0.heap.size cv0 w') ((CI _ cE0).mono (by
    rintro e w' ⟨z, rfl, F, C⟩
    exact ⟨_, rfl, z, rfl, F, C⟩)) ?_
  rintro v cv1 ⟨z, rfl, cF0, cC0⟩
  have cE1 := cE0.trans (cC0.mono cE0.size)
  have cH1 := cHS.out cv1 cE1
  refine ⟨cH1, ?_⟩
  simp only [FL]
  refine hr_call_w 11 (some 67) 137 #[.pointer (some ⟨d.b, 0, none⟩), .int .i64 i, .pointer z] rfl rfl (by kernel_rfl) rfl (by go_simp) (fun v w' => ∃ y, v = .pointer y ∧ T w' (.pointer y) (A ++ (ins s x ++ B)) ∧ Below cv1.heap.size cv1 w') ((CW _ _ cE1 cF0).mono (by
    rintro e w' ⟨y, rfl, F, C⟩
    exact ⟨_, rfl, y, rfl, F, C⟩)) ?_
  rintro v cv2 ⟨y, rfl, cF1, cC1⟩
  have cE2 := cE1.trans (cC1.mono cE1.size)
  have cH2 := cHS.out cv2 cE2
  clear cF0
  refine ⟨cH2, ?_⟩
  simp only [FL]
  refine hr_take_w 12 (some 4) (.pointer y) rfl rfl (by kernel_rfl) (by kernel_rfl) (by kernel_rfl) rfl (fun W hW => by obtain ⟨h0, h1, h2, h3, h4⟩ := hW; go_simp) cH2 ?_
  simp only [FL]
  refine wpAnyH_done (by kernel_rfl) ?_ _
  refine NoPanic.normal ?_
  have Bc : Below w.heap.size w cv2 := Bb.trans (cE2.mono Bb.size)
  go_wp2
  go_ret
  refine ⟨_, rfl, ?_, Bc⟩
  rw [HI.out]
  exact cF1
end Go.Proofs.YtlljmhcgjkolpaaGreatDoor
