/-
  Texts in one: PWithN, PWith, PTrim, Hex, PLevel, PTree, HRegG.
-/
import Derived.Test.YtlljmhcgjkolpaaGreatDoorSplitCutsQFL
import Derived.Test.YtlljmhcgjkolpaaGreatDoorSplitCutsQ12
import Derived.Test.YtlljmhcgjkolpaaGreatDoorSplitCutsQ13
import Derived.Test.YtlljmhcgjkolpaaGreatDoorSplitCutsQ14
import Derived.Test.YtlljmhcgjkolpaaGreatDoorSplitCutsQ15
import Derived.Test.YtlljmhcgjkolpaaGreatDoorSplitCutsQ16
import Derived.Test.YtlljmhcgjkolpaaGreatDoorSplitCutsQ0
import Derived.Lib.Strings
import Derived.Test.YtlljmhcgjkolpaaGreatDoorSplitCutsQ3
import Derived.Laws.BytesArg
import Derived.Lib.SliceRun
import Derived.Test.YtlljmhcgjkolpaaGreatDoorSplitCutsQ11
import Derived.Test.YtlljmhcgjkolpaaGreatDoorSplitCutsQ5
namespace Go.Proofs.YtlljmhcgjkolpaaGreatDoor
open Go.RowKit
theorem leafNB (xo yo : Option Addr) (xn xc yn yc : Nat) (w : World) (p1 p2 : Option Addr) (n : Nat) : Below w.heap.size w ((((w.alloc (.cells #[.slice xo xn xc] 25)).alloc (.cells #[.slice yo yn yc] 25)).alloc (.cells #[.pointer p1, .pointer p2] 136)).alloc (.cells #[.int .i64 (n), .slice (some ⟨w.heap.size, 0, none⟩) 1 1, .slice (some ⟨w.heap.size + 1, 0, none⟩) 1 1, .slice (some ⟨w.heap.size + 2, 0, none⟩) 2 2] 176)) :=
  (((((Below.refl _ w).alloc (Nat.le_refl _) _).alloc (by simp) _).alloc (by simp; omega) _).alloc (by simp; omega) _)
theorem leafN (x : It) (xo yo : Option Addr) (xn xc yn yc : Nat) (l : List It) (w : World) (p1 p2 : Option Addr) (hx : Sl w xo xn xc x.k) (hy : Sl w yo yn yc x.v) (h1 : T w (.pointer p1) (lo x.k l)) (h2 : T w (.pointer p2) (hi x.k l)) (hlow : ∀ y ∈ l, lev y.k < lev x.k) :
    T ((((w.alloc (.cells #[.slice xo xn xc] 25)).alloc (.cells #[.slice yo yn yc] 25)).alloc (.cells #[.pointer p1, .pointer p2] 136)).alloc (.cells #[.int .i64 (lev x.k), .slice (some ⟨w.heap.size, 0, none⟩) 1 1, .slice (some ⟨w.heap.size + 1, 0, none⟩) 1 1, .slice (some ⟨w.heap.size + 2, 0, none⟩) 2 2] 176)) (.pointer (some ⟨w.heap.size + 3, 0, none⟩)) (ins l x) := by
  have BB := leafNB xo yo xn xc yn yc w p1 p2 (lev x.k)
  have b1 : Below w.heap.size w (w.alloc (.cells #[.slice xo xn xc] 25)) := (Below.refl _ w).alloc (Nat.le_refl _) _
  have v1 := VL.new w [.slice xo xn xc] 25 (by simp [maxLen])
  have b2 : Below (w.alloc (.cells #[.slice xo xn xc] 25)).heap.size (w.alloc (.cells #[.slice xo xn xc] 25)) ((w.alloc (.cells #[.slice xo xn xc] 25)).alloc (.cells #[.slice yo yn yc] 25)) := (Below.refl _ _).alloc (Nat.le_refl _) _
  have v2 := VL.new (w.alloc (.cells #[.slice xo xn xc] 25)) [.slice yo yn yc] 25 (by simp [maxLen])
  have b3 : Below ((w.alloc (.cells #[.slice xo xn xc] 25)).alloc (.cells #[.slice yo yn yc] 25)).heap.size ((w.alloc (.cells #[.slice xo xn xc] 25)).alloc (.cells #[.slice yo yn yc] 25)) (((w.alloc (.cells #[.slice xo xn xc] 25)).alloc (.cells #[.slice yo yn yc] 25)).alloc (.cells #[.pointer p1, .pointer p2] 136)) := (Below.refl _ _).alloc (Nat.le_refl _) _
  have v3 := VL.new ((w.alloc (.cells #[.slice xo xn xc] 25)).alloc (.cells #[.slice yo yn yc] 25)) [.pointer p1, .pointer p2] 136 (by simp [maxLen])
  have b4 : Below (((w.alloc (.cells #[.slice xo xn xc] 25)).alloc (.cells #[.slice yo yn yc] 25)).alloc (.cells #[.pointer p1, .pointer p2] 136)).heap.size (((w.alloc (.cells #[.slice xo xn xc] 25)).alloc (.cells #[.slice yo yn yc] 25)).alloc (.cells #[.pointer p1, .pointer p2] 136)) ((((w.alloc (.cells #[.slice xo xn xc] 25)).alloc (.cells #[.slice yo yn yc] 25)).alloc (.cells #[.pointer p1, .pointer p2] 136)).alloc (.cells #[.int .i64 (lev x.k), .slice (some ⟨w.heap.size, 0, none⟩) 1 1, .slice (some ⟨w.heap.size + 1, 0, none⟩) 1 1, .slice (some ⟨w.heap.size + 2, 0, none⟩) 2 2] 176)) := (Below.refl _ _).alloc (Nat.le_refl _) _
  have hg : ((((w.alloc (.cells #[.slice xo xn xc] 25)).alloc (.cells #[.slice yo yn yc] 25)).alloc (.cells #[.pointer p1, .pointer p2] 136)).alloc (.cells #[.int .i64 (lev x.k), .slice (some ⟨w.heap.size, 0, none⟩) 1 1, .slice (some ⟨w.heap.size + 1, 0, none⟩) 1 1, .slice (some ⟨w.heap.size + 2, 0, none⟩) 2 2] 176)).heap[w.heap.size + 3]? = some (.cells #[.int .i64 (lev x.k), .slice (some ⟨w.heap.size, 0, none⟩) 1 1, .slice (some ⟨w.heap.size + 1, 0, none⟩) 1 1, .slice (some ⟨w.heap.size + 2, 0, none⟩) 2 2] 176) := by
    have := heap_alloc_new (((w.alloc (.cells #[.slice xo xn xc] 25)).alloc (.cells #[.slice yo yn yc] 25)).alloc (.cells #[.pointer p1, .pointer p2] 136)) (.cells #[.int .i64 (lev x.k), .slice (some ⟨w.heap.size, 0, none⟩) 1 1, .slice (some ⟨w.heap.size + 1, 0, none⟩) 1 1, .slice (some ⟨w.heap.size + 2, 0, none⟩) 2 2] 176)
    simpa using this
  have s1 := (v1.below b2).below b3
  have s2 := v2.below b3
  simp only [World.size_alloc, List.length_cons, List.length_nil, Nat.zero_add] at s1 s2 v3
  refine T.make hg (KL.of (ps := [(⟨xo, xn, xc, x.k⟩ : Part)]) (s1.below b4) rfl ?_) (KL.of (ps := [(⟨yo, yn, yc, x.v⟩ : Part)]) (s2.below b4) rfl ?_) (v3.below b4) (Shp.single (x := x) rfl (fun y hy => hlow y (mem_lo.1 hy).1) (fun y hy => hlow y (mem_hi.1 hy).1)) rfl rfl (Kids.cons (h1.below BB) (Kids.one (h2.below BB)))
  · intro q hq
    rw [List.mem_singleton.1 hq]
    exact hx.below BB
  · intro q hq
    rw [List.mem_singleton.1 hq]
    exact hy.below BB
set_option maxHeartbeats 4000000 in
set_option maxRecDepth 100000 in
theorem withO_any (w : World) (x : It) (xo yo : Option Addr) (xn xc yn yc : Nat) (hx : Sl w xo xn xc x.k) (hy : Sl w yo yn yc x.v) :
    Calls Tryz.prog 104 #[.pointer none, .agg #[.int .i64 (lev x.k), .slice xo xn xc, .slice yo yn yc]] w (RetT w (ins [] x)) := by
  obtain ⟨l, hl⟩ : ∃ l : List It, l = [] := ⟨_, rfl⟩
  have hT : T w (.pointer none) l := by rw [hl]; exact T.nil w
  have hs : Srt l := by rw [hl]; exact List.Pairwise.nil
  have hlow : ∀ y ∈ l, lev y.k < lev x.k := by rw [hl]; simp
  have hk : ¬ has x.k l := by rw [hl]; rintro ⟨y, hy, -⟩; simp at hy
  have hn : l.length ≤ 100000 := by rw [hl]; simp
  rw [← hl]
  clear hl
  go_enter Tryz.func104, Tryz.ntmps104
  go_wp2_with fail
  obtain ⟨w0, hw0⟩ : ∃ V, V = (w.alloc (.cells #[.int .i64 (lev x.k), .slice xo xn xc, .slice yo yn yc] 150)) := ⟨_, rfl⟩
  have L0 : Lf w0 w.heap.size (lev x.k) (.slice xo xn xc) (.slice yo yn yc) := by rw [hw0]; exact Lf.new ..
  have B0 : Below w.heap.size w w0 := by rw [hw0]; exact (Below.refl _ w).alloc (Nat.le_refl _) _
  rw [← hw0]
  obtain ⟨g, hg⟩ : ∃ g, g = w.heap.size := ⟨_, rfl⟩
  rw [← hg] at L0 ⊢
  clear hw0 hg
  have aHS : Hid (∀ V, Below w0.heap.size w0 V → V.cell? ⟨g, 0, none⟩ = some (.int .i64 (lev x.k)) ∧ V.cell? ⟨g, 1, none⟩ = some (.slice xo xn xc) ∧ V.cell? ⟨g, 2, none⟩ = some (.slice yo yn yc)) := fun V hV => ⟨(L0.below hV).c0, (L0.below hV).c1, (L0.below hV).c2⟩
  have aE0 : Below w0.heap.size w0 w0.drew := (Below.refl _ _).drew
  refine wp_region_noPanic ?_
  refine wp_region_held_drew (S := fun V => V.cell? ⟨g, 0, none⟩ = some (.int .i64 (lev x.k)) ∧ V.cell? ⟨g, 1, none⟩ = some (.slice xo xn xc) ∧ V.cell? ⟨g, 2, none⟩ = some (.slice yo yn yc)) (by kernel_rfl) (aHS.out _ aE0) (fun aH0 => ?_)
  obtain ⟨av0, hv0⟩ : ∃ v, v = w0.drew := ⟨_, rfl⟩
  rw [← hv0] at aH0 aE0 ⊢
  clear hv0
  refine hr_take_w 0 (some 11) (.pointer none) rfl rfl (by kernel_rfl) (by kernel_rfl) (by kernel_rfl) rfl (fun W hW => by obtain ⟨h0, h1, h2⟩ := hW; go_simp) aH0 ?_
  simp only [FL]
  refine hr_take_w 1 (some 12) (.bool true) rfl rfl (by kernel_rfl) (by kernel_rfl) (by kernel_rfl) rfl (fun W hW => by obtain ⟨h0, h1, h2⟩ := hW; go_simp) aH0 ?_
  simp only [FL]
  refine hr_take_w 2 (some 13) (.bool true) rfl rfl (by kernel_rfl) (by kernel_rfl) (by kernel_rfl) rfl (fun W hW => by obtain ⟨h0, h1, h2⟩ := hW; go_simp) aH0 ?_
  simp only [FL]
  refine hr_none 3 (some 14) rfl rfl (by kernel_rfl) (by kernel_rfl) (by kernel_rfl) rfl aH0 ?_
  simp only [FL]
  refine hr_none 4 (some 15) rfl rfl (by kernel_rfl) (by kernel_rfl) (by kernel_rfl) rfl aH0 ?_
  simp only [FL]
  refine hr_none 5 (some 16) rfl rfl (by kernel_rfl) (by kernel_rfl) (by kernel_rfl) rfl aH0 ?_
  simp only [FL]
  refine hr_none 6 (some 17) rfl rfl (by kernel_rfl) (by kernel_rfl) (by kernel_rfl) rfl aH0 ?_
  simp only [FL]
  refine hr_none 7 (some 18) rfl rfl (by kernel_rfl) (by kernel_rfl) (by kernel_rfl) rfl aH0 ?_
  simp only [FL]
  refine hr_none 8 (some 19) rfl rfl (by kernel_rfl) (by kernel_rfl) (by kernel_rfl) rfl aH0 ?_
  simp only [FL]
  refine hr_none 9 (some 20) rfl rfl (by kernel_rfl) (by kernel_rfl) (by kernel_rfl) rfl aH0 ?_
  simp only [FL]
  refine hr_take_w 10 (some 21) (.bool true) rfl rfl (by kernel_rfl) (by kernel_rfl) (by kernel_rfl) rfl (fun W hW => by obtain ⟨h0, h1, h2⟩ := hW; go_simp) aH0 ?_
  simp only [FL]
  refine wpAnyH_done (by kernel_rfl) ?_ _
  refine NoPanic.normal ?_
  have Ba : Below w.heap.size w av0 := B0.trans (aE0.mono B0.size)
  have La := L0.below aE0
  have lc0 := La.c0
  have lc1 := La.c1
  have lc2 := La.c2
  have CC := cut_fuel l.length av0 (.pointer none) l xo xn xc x.k (Nat.le_refl _) (hT.below Ba) hs hk (hx.below Ba) hn
  go_wp2_with fail
  refine CC.mono ?_
  rintro e w1 ⟨u1, u2, rfl, T1, T2, B1'⟩
  have B1 : Below w.heap.size w w1 := Ba.trans (B1'.mono Ba.size)
  have L1 := La.below B1'
  have lc0 := L1.c0
  have lc1 := L1.c1
  have lc2 := (L1.below ((Below.refl _ w1).alloc (Nat.le_refl _) (.cells #[.slice xo xn xc] 25))).c2
  obtain ⟨p1, rfl⟩ := T1.ptr
  obtain ⟨p2, rfl⟩ := T2.ptr
  have TT := leafN x xo yo xn xc yn yc l w1 p1 p2 (hx.below B1) (hy.below B1) T1 T2 hlow
  have BB := leafNB xo yo xn xc yn yc w1 p1 p2 (lev x.k)
  clear CC T1 T2 B1' hT
  go_wp2
  go_ret
  exact ⟨_, rfl, TT, B1.trans (BB.mono B1.size)⟩
set_option maxHeartbeats 4000000 in
set_option maxRecDepth 100000 in
theorem withN_any (w : World) (x : It) (xo yo : Option Addr) (xn xc yn yc : Nat) (hx : Sl w xo xn xc x.k) (hy : Sl w yo yn yc x.v) (l : List It) (d : Nd) (segs : List (List It)) (xs : List It) (h : Nod w l d segs xs) (hs : Srt l) (hn : l.length ≤ 100000) (hL : d.L < lev x.k) :
    Calls Tryz.prog 104 #[d.ptr, .agg #[.int .i64 (lev x.k), .slice xo xn xc, .slice yo yn yc]] w (RetT w (ins l x)) := by
  have hT := T.of h
  have hlow : ∀ y ∈ l, lev y.k < lev x.k := fun y hy => by
    have := h.shp.le y hy
    omega
  have hk : ¬ has x.k l := fun ⟨y, hy, e⟩ => by
    have := hlow y hy
    rw [e] at this
    omega
  unfold Nd.ptr at hT ⊢
  go_enter Tryz.func104, Tryz.ntmps104
  go_wp2_with fail
  obtain ⟨w0, hw0⟩ : ∃ V, V = (w.alloc (.cells #[.int .i64 (lev x.k), .slice xo xn xc, .slice yo yn yc] 150)) := ⟨_, rfl⟩
  have L0 : Lf w0 w.heap.size (lev x.k) (.slice xo xn xc) (.slice yo yn yc) := by rw [hw0]; exact Lf.new ..
  have B0 : Below w.heap.size w w0 := by rw [hw0]; exact (Below.refl _ w).alloc (Nat.le_refl _) _
  rw [← hw0]
  obtain ⟨g, hg⟩ : ∃ g, g = w.heap.size := ⟨_, rfl⟩
  rw [← hg] at L0 ⊢
  clear hw0 hg
  have N0 := h.below B0
  have aHS : Hid (∀ V, Below w0.heap.size w0 V → V.cell? ⟨d.b, 0, none⟩ = some (.int .i64 d.L) ∧ V.cell? ⟨d.b, 1, none⟩ = some (.slice d.ko d.ks.length d.kc) ∧ V.cell? ⟨d.b, 2, none⟩ = some (.slice d.vo d.vs.length d.vc) ∧ V.cell? ⟨d.b, 3, none⟩ = some (.slice d.co d.cs.length d.cc) ∧ V.cell? ⟨g, 0, none⟩ = some (.int .i64 (lev x.k)) ∧ V.cell? ⟨g, 1, none⟩ = some (.slice xo xn xc) ∧ V.cell? ⟨g, 2, none⟩ = some (.slice yo yn yc)) := fun V hV => ⟨(N0.ok.below hV).c0, (N0.ok.below hV).c1, (N0.ok.below hV).c2, (N0.ok.below hV).c3, (L0.below hV).c0, (L0.below hV).c1, (L0.below hV).c2⟩
  have aE0 : Below w0.heap.size w0 w0.drew := (Below.refl _ _).drew
  refine wp_region_noPanic ?_
  refine wp_region_held_drew (S := fun V => V.cell? ⟨d.b, 0, none⟩ = some (.int .i64 d.L) ∧ V.cell? ⟨d.b, 1, none⟩ = some (.slice d.ko d.ks.length d.kc) ∧ V.cell? ⟨d.b, 2, none⟩ = some (.slice d.vo d.vs.length d.vc) ∧ V.cell? ⟨d.b, 3, none⟩ = some (.slice d.co d.cs.length d.cc) ∧ V.cell? ⟨g, 0, none⟩ = some (.int .i64 (lev x.k)) ∧ V.cell? ⟨g, 1, none⟩ = some (.slice xo xn xc) ∧ V.cell? ⟨g, 2, none⟩ = some (.slice yo yn yc)) (by kernel_rfl) (aHS.out _ aE0) (fun aH0 => ?_)
  obtain ⟨av0, hv0⟩ : ∃ v, v = w0.drew := ⟨_, rfl⟩
  rw [← hv0] at aH0 aE0 ⊢
  clear hv0
  refine hr_take_w 0 (some 11) (.pointer (some ⟨d.b, 0, none⟩)) rfl rfl (by kernel_rfl) (by kernel_rfl) (by kernel_rfl) rfl (fun W hW => by obtain ⟨h0, h1, h2, h3, h4, h5, h6⟩ := hW; go_simp) aH0 ?_
  simp only [FL]
  refine hr_take_w 1 (some 12) (.bool false) rfl rfl (by kernel_rfl) (by kernel_rfl) (by kernel_rfl) rfl (fun W hW => by obtain ⟨h0, h1, h2, h3, h4, h5, h6⟩ := hW; go_simp) aH0 ?_
  simp only [FL]
  refine hr_take_w 2 (some 13) (.bool false) rfl rfl (by kernel_rfl) (by kernel_rfl) (by kernel_rfl) rfl (fun W hW => by obtain ⟨h0, h1, h2, h3, h4, h5, h6⟩ := hW; go_simp) aH0 ?_
  simp only [FL]
  refine hr_take_w 3 (some 14) (.pointer (some ⟨d.b, 0, none⟩)) rfl rfl (by kernel_rfl) (by kernel_rfl) (by kernel_rfl) rfl (fun W hW => by obtain ⟨h0, h1, h2, h3, h4, h5, h6⟩ := hW; go_simp) aH0 ?_
  simp only [FL]
  refine hr_take_w 4 (some 15) (.pointer (some ⟨d.b, 0, none⟩)) rfl rfl (by kernel_rfl) (by kernel_rfl) (by kernel_rfl) rfl (fun W hW => by obtain ⟨h0, h1, h2, h3, h4, h5, h6⟩ := hW; go_simp) aH0 ?_
  simp only [FL]
  refine hr_take_w 5 (some 16) (.pointer (some ⟨d.b, 0, none⟩)) rfl rfl (by kernel_rfl) (by kernel_rfl) (by kernel_rfl) rfl (fun W hW => by obtain ⟨h0, h1, h2, h3, h4, h5, h6⟩ := hW; go_simp) aH0 ?_
  simp only [FL]
  refine hr_take_w 6 (some 17) (.int .i64 d.L) rfl rfl (by kernel_rfl) (by kernel_rfl) (by kernel_rfl) rfl (fun W hW => by obtain ⟨h0, h1, h2, h3, h4, h5, h6⟩ := hW; go_simp) aH0 ?_
  simp only [FL]
  refine hr_take_w 7 (some 18) (.pointer (some ⟨g, 0, none⟩)) rfl rfl (by kernel_rfl) (by kernel_rfl) (by kernel_rfl) rfl (fun W hW => by obtain ⟨h0, h1, h2, h3, h4, h5, h6⟩ := hW; go_simp) aH0 ?_
  simp only [FL]
  refine hr_take_w 8 (some 19) (.int .i64 (lev x.k)) rfl rfl (by kernel_rfl) (by kernel_rfl) (by kernel_rfl) rfl (fun W hW => by obtain ⟨h0, h1, h2, h3, h4, h5, h6⟩ := hW; go_simp) aH0 ?_
  simp only [FL]
  refine hr_take_w 9 (some 20) (.bool true) rfl rfl (by kernel_rfl) (by kernel_rfl) (by kernel_rfl) rfl (fun W hW => by obtain ⟨h0, h1, h2, h3, h4, h5, h6⟩ := hW; go_simp) aH0 ?_
  simp only [FL]
  refine hr_take_w 10 (some 21) (.bool true) rfl rfl (by kernel_rfl) (by kernel_rfl) (by kernel_rfl) rfl (fun W hW => by obtain ⟨h0, h1, h2, h3, h4, h5, h6⟩ := hW; go_simp) aH0 ?_
  simp only [FL]
  refine wpAnyH_done (by kernel_rfl) ?_ _
  refine NoPanic.normal ?_
  have Ba : Below w.heap.size w av0 := B0.trans (aE0.mono B0.size)
  have La := L0.below aE0
  have lc0 := La.c0
  have lc1 := La.c1
  have lc2 := La.c2
  have CC := cut_fuel l.length av0 (.pointer (some ⟨d.b, 0, none⟩)) l xo xn xc x.k (Nat.le_refl _) (hT.below Ba) hs hk (hx.below Ba) hn
  go_wp2_with fail
  refine CC.mono ?_
  rintro e w1 ⟨u1, u2, rfl, T1, T2, B1'⟩
  have B1 : Below w.heap.size w w1 := Ba.trans (B1'.mono Ba.size)
  have L1 := La.below B1'
  have lc0 := L1.c0
  have lc1 := L1.c1
  have lc2 := (L1.below ((Below.refl _ w1).alloc (Nat.le_refl _) (.cells #[.slice xo xn xc] 25))).c2
  obtain ⟨p1, rfl⟩ := T1.ptr
  obtain ⟨p2, rfl⟩ := T2.ptr
  have TT := leafN x xo yo xn xc yn yc l w1 p1 p2 (hx.below B1) (hy.below B1) T1 T2 hlow
  have BB := leafNB xo yo xn xc yn yc w1 p1 p2 (lev x.k)
  clear CC T1 T2 B1' hT
  go_wp2
  go_ret
  exact ⟨_, rfl, TT, B1.trans (BB.mono B1.size)⟩
open Go.RowKit
theorem with_fuel : ∀ (N : Nat) (l : List It) (w : World) (v : Value) (x : It) (xo yo : Option Addr) (xn xc yn yc : Nat), l.length ≤ N → Sl w xo xn xc x.k → Sl w yo yn yc x.v → T w v l → Srt l → l.length ≤ 100000 →
    Calls Tryz.prog 104 #[v, .agg #[.int .i64 (lev x.k), .slice xo xn xc, .slice yo yn yc]] w (RetT w (ins l x)) := by
  intro N
  induction N with
  | zero =>
    intro l w v x xo yo xn xc yn yc hN hx hy hT hs hn
    rcases hT.is with ⟨rfl, rfl⟩ | ⟨d, segs, xs, rfl, h⟩
    · exact withO_any w x xo yo xn xc yn yc hx hy
    · have h1 := h.shp.pos
      have h2 := h.many
      omega
  | succ N ih =>
    intro l w v x xo yo xn xc yn yc hN hx hy hT hs hn
    rcases hT.is with ⟨rfl, rfl⟩ | ⟨d, segs, xs, rfl, h⟩
    · exact withO_any w x xo yo xn xc yn yc hx hy
    · rcases Nat.lt_trichotomy d.L (lev x.k) with hL | hL | hL
      · exact withN_any w x xo yo xn xc yn yc hx hy l d segs xs h hs hn hL
      · by_cases hk : has x.k l
        · obtain ⟨y, hy1, hy2⟩ := hk
          have hyx : y ∈ xs := by
            rw [h.shp.eq] at hy1
            rcases mem_weave _ _ _ hy1 with h1 | ⟨s, hs1, h1⟩
            · exact h1
            · have := h.shp.low s hs1 y h1
              rw [hy2] at this
              omega
          exact withV_any w x xo yo xn xc yn yc hx hy l d segs xs h hs hn hL ⟨y, hyx, hy2⟩
        · exact withM_any w x xo yo xn xc yn yc hx hy l d segs xs h hs hn hL hk
      · exact withK_any w x xo yo xn xc yn yc hx l d segs xs h hs hn hL (fun V u s hlt hV hu hss => ih s V u x xo yo xn xc yn yc (by omega) (hx.below hV) (hy.below hV) hu hss (by omega))
theorem with_any (w : World) (v : Value) (l : List It) (x : It) (xo yo : Option Addr) (xn xc yn yc : Nat) (hx : Sl w xo xn xc x.k) (hy : Sl w yo yn yc x.v) (hT : T w v l) (hs : Srt l) (hn : l.length ≤ 100000) :
    Calls Tryz.prog 104 #[v, .agg #[.int .i64 (lev x.k), .slice xo xn xc, .slice yo yn yc]] w (RetT w (ins l x)) := with_fuel l.length l w v x xo yo xn xc yn yc (Nat.le_refl _) hx hy hT hs hn
open Go.RowKit
theorem sb_drop (t : ByteArray) : sb (t.extract 1 t.size) = (sb t).drop 1 := by
  unfold sb
  rw [ByteArray.data_extract, Array.toList_extract]
  simp
  refine List.take_of_length_le ?_
  rw [List.length_tail, List.length_map, Array.length_toList]
  exact Nat.le_refl _
set_option maxHeartbeats 1000000 in
set_option maxRecDepth 100000 in
theorem trimB_any (w : World) (s : ByteArray) (hs : s.size ≤ 1000000) :
    Calls Tryz.prog 159 #[.string s, .int .u8 48] w fun e w' => ∃ t, e = .returned (.string t) ∧ sb t = (sb s).dropWhile (fun c => c == 48) ∧ w' = w := by
  go_enter Tryz.func159, Tryz.ntmps159
  go_wp2
  go_loopw [0] (fun a wr => ∃ t : ByteArray, a = .string t ∧ t.size ≤ s.size ∧ wr = w ∧ (sb t).dropWhile (fun c => c == 48) = (sb s).dropWhile (fun c => c == 48)) (fun a _ => match a with | .string t => t.size | _ => 0)
  case atStart => exact ⟨s, rfl, Nat.le_refl _, rfl, rfl⟩
  case round =>
    obtain ⟨t, rfl, hle, rfl, hd⟩ := hrel
    have HD : Hid ((sb t).dropWhile (fun c => c == 48) = (sb s).dropWhile (fun c => c == 48)) := hd
    clear hd
    by_cases h0 : 0 < t.size
    · have h0' : (0 : Int) < (t.size : Int) := by omega
      have hat := sb_at t 0 h0
      rw [List.drop_zero, Nat.zero_add] at hat
      by_cases h1 : (t[0].toNat : Int) = 48
      · have hb : ((t[0].toNat : Int) == 48) = true := by simpa using h1
        have HE : Hid (sb t = (t[0].toNat : Int) :: (sb t).drop 1) := hat
        have H1 : Hid ((t[0].toNat : Int) = 48) := h1
        clear hat h1
        go_wp2
        refine ⟨⟨_, rfl, ?_, trivial, ?_⟩, ?_⟩
        · simp only [ByteArray.size_extract]
          omega
        · rw [sb_drop, ← HD.out]
          conv => rhs; rw [HE.out, H1.out]
          simp
        · simp only [ByteArray.size_extract]
          omega
      · have hb : ((t[0].toNat : Int) == 48) = false := by simpa using h1
        have HE : Hid ((sb t).dropWhile (fun c => c == 48) = sb t) := by
          show _ = _
          rw [hat, List.dropWhile_cons, hb]
          rfl
        clear hat h1
        go_wp2
        go_ret
        exact ⟨t, rfl, by rw [← HD.out, HE.out], rfl⟩
    · have h0' : ¬ (0 : Int) < (t.size : Int) := by omega
      have HE : Hid ((sb t).dropWhile (fun c => c == 48) = sb t) := by
        show _ = _
        have : sb t = [] := List.eq_nil_of_length_eq_zero (by rw [sb_len]; omega)
        rw [this]
        rfl
      go_wp2
      go_ret
      exact ⟨t, rfl, by rw [← HD.out, HE.out], rfl⟩
set_option maxHeartbeats 1000000 in
set_option maxRecDepth 100000 in
theorem trim_any (w : World) (s : ByteArray) (h0 : 0 < s.size) (hs : s.size ≤ 1000000) :
    Calls Tryz.prog 141 #[.string s, .string ⟨#[48]⟩] w fun e w' => ∃ t, e = .returned (.string t) ∧ sb t = (sb s).dropWhile (fun c => c == 48) ∧ w' = w := by
  have CT := trimB_any w s hs
  have he : s.toList.isEmpty = false := by
    rw [List.isEmpty_eq_false_iff]
    intro e
    have := congrArg List.length e
    rw [Lib.toList_data, Array.length_toList] at this
    have h2 : s.size = s.data.size := rfl
    simp at this
    rw [h2, this] at h0
    simp at h0
  have hz : (((⟨#[48]⟩ : ByteArray)[0]'(by decide)).toNat : Int) = 48 := rfl
  go_enter Tryz.func141, Tryz.ntmps141
  go_wp2_with fail
  refine CT.mono ?_
  rintro e w' ⟨t, rfl, ht, rfl⟩
  have HT : Hid (sb t = (sb s).dropWhile (fun c => c == 48)) := ht
  clear ht
  go_wp2
  go_ret
  exact ⟨t, rfl, HT.out, rfl⟩
open Go.RowKit Go.Shelf
attribute [local go_sem] Oper.semAt_some
theorem conv_own {w : World} {base : Nat} {v : Value} {k : Nat} {xs : List Int} (h : w.ownsRow base 5 1 v k (bv xs)) : (convert 25 9 v).run Tryz.prog w = .ok (.string (strOfNums xs)) w := by
  have hl : xs.length = k := by have := h.1; rw [bv_length] at this; omega
  rcases h.2 with ⟨rfl, rfl⟩ | ⟨g, cap, cur, rfl, hg, hh, hle, hmx, hcs, htk⟩
  · obtain rfl : xs = [] := List.eq_nil_of_length_eq_zero hl
    exact run_convert_bytes_nil w 25 5 Tryz.underlying25 Tryz.underlying5 0 0 9 Tryz.underlying9
  · refine run_convert_bytes_arg w 25 5 Tryz.underlying25 Tryz.underlying5 g 0 k cap xs hl (fun i hi => ?_) 9 Tryz.underlying9
    have := h.cells (g := g) rfl i _ (bv_get xs i (by omega))
    simpa [add_at] using this
set_option maxRecDepth 100000 in
set_option maxHeartbeats 2000000 in
theorem hex_in (F : Fence) (n : Nat) (h3 : F.fn 140) (h4 : F.fn 158) (h5 : F.fn 171) (hro : F.round = none) (hn : 3 ≤ n) (ao : Option Addr) (m cap : Nat) (xs : List Int) (w : World) (hL : Sl w ao m cap xs) (hm : m ≤ 70368744177664) :
    CallsIn F n Tryz.prog 140 #[.slice ao m cap] w fun e w' => e = .returned (.string (strOfNums (hexL xs))) ∧ Below w.heap.size w w' := by
  have h1 : 1 ≤ n := by omega
  obtain ⟨i0, hi, hz0, hz1, hz2⟩ := info_parts u8info
  have hln := hL.len
  have hlow := hL.lt
  have hxl := hexL_len xs
  refine callsIn_of_wp_marks Tryz.func140 rfl h3 ?_ hro
  simp only [Tryz.ntmps140, List.size_toArray, List.length_cons, List.length_nil, Nat.reduceAdd, Nat.reduceSub, Array.replicate_succ, Array.replicate_zero, List.push_toArray, List.append_toArray, List.nil_append, List.cons_append]
  gi_wp2_with (first
    | (gi_at_make; refine wpListIn_make_own _ rfl _ _ 25 rfl w.heap.size 5 i0 (.int .u8 0) 1 Tryz.underlying25 hi hz0 hz1 _ _ _ (2 * m) rfl rfl (by omega) (by rw [hz2]; omega) (by unfold maxLen; omega) (Nat.le_refl _) ?_; intro w1 own1 g1; have B1 : Below w.heap.size w w1 := (Below.refl _ w).grown g1 (Nat.le_refl _) (by simp); have s1 := g1.size; clear g1)
    | (gi_at_call 158; refine (digits_in F (n - 1) h4 hro _ ao m cap rfl _).mono ?_; rintro e w' ⟨rfl, rfl⟩))
  have bO := Boxed.new w1 25 (.slice (some ⟨w.heap.size, 0, none⟩) 0 (2 * m))
  have bN := Boxed.new (w1.alloc (.cells #[.slice (some ⟨w.heap.size, 0, none⟩) 0 (2 * m)] 25)) 25 (.slice ao m cap)
  rw [World.size_alloc] at bN
  have hB0 : Below w.heap.size w ((w1.alloc (.cells #[.slice (some ⟨w.heap.size, 0, none⟩) 0 (2 * m)] 25)).alloc (.cells #[.slice ao m cap] 25)) := (B1.alloc s1 _).alloc (by simp; omega) _
  refine wpIn_rangeFunc_ownG hro h1 (gf := 171) (lb := #[.pointer (some ⟨w1.heap.size + 1, 0, none⟩)]) rfl h5 (enters_of Tryz.func171 (by kernel_rfl) rfl)
    (digits_stops F (n - 1) h5 hro (by omega) (w1.heap.size + 1) w.heap.size ao m cap xs _ (by simp) bN.cell (hL.below hB0) hlow) belowK_t (belowK_b (by simp; omega)) (Below.refl _ _) (fun _ => rfl)
    (fun pre W => (∃ v, Boxed W w1.heap.size 25 v ∧ W.ownsRow w.heap.size 5 1 v pre.length (bv pre) ∧ True) ∧ Below w.heap.size w W)
    (fun _ _ _ => False)
    (OwnFrom.and (Own.from (holdsRow_own w.heap.size w1.heap.size 25 5 1 (fun pre => List.length pre) (fun pre => bv pre) (fun _ _ => True)) _) (ownFrom_below (Nat.le_refl _) (by simp; omega)))
    (fun _ _ _ _ _ hs _ _ => hs)
    ⟨⟨_, bO.alloc _, (own1.alloc _).alloc _, trivial⟩, hB0⟩
    (fun x => { tmps := #[.slice ao m cap, undef, .string ⟨#[]⟩, .pointer (some ⟨w1.heap.size, 0, none⟩), .int .u8 x, .slice ao m cap, .int .i64 m, .int .i64 (2 * m), .slice (some ⟨w.heap.size, 0, none⟩) 0 (2 * m), .slice ao m cap, .func (.func 171) #[] #[.pointer (some ⟨w1.heap.size + 1, 0, none⟩)], .int .u8 x, undef, undef, undef, undef, undef, undef], defers := [] }) ?assign ?body ?done ?stop
  case assign =>
    intro l x W K hK
    gi_wp2
    exact hK
  case body =>
    rintro l pre x W ⟨⟨v, hv, hrow, _⟩, hB⟩ hlt
    have hc := hv.cell
    gi_wp2_with (gi_at_builtin; refine wpListIn_append_own _ rfl _ _ 25 rfl w.heap.size 5 i0 (.int .u8 0) 1 1 Tryz.underlying25 hi hz0 hz1 hz2 rfl (by decide) _ _ _ rfl (hrow.alloc _) ⟨W.heap.size, 0, none⟩ 1 1 [.int .u8 x] rfl rfl (cell_one_new _ _ _) (by simp [Value.oneCell']) (by unfold maxLen; omega) (by omega) (by have := hB.size; simp; omega) ?_; intro v' w2 hown' hgrow _; obtain ⟨g', cap', rfl⟩ := ownsRow_succ hown'; obtain ⟨hv1, hv2, hr2, hk2, hb2⟩ := hv.appended (by decide) hrow hB.size s1 hown' hgrow; have hc1 := hv1.cell; have hf1 := hv1.frozen)
    exact ⟨hk2.from _, hb2, ⟨_, hv2, by rw [bv_append, List.length_append]; exact hr2, trivial⟩, hB.trans hb2⟩
  case done =>
    rintro D ys W hD rfl ⟨⟨v, hv, hrow, _⟩, hB⟩ hK
    have hc := hv.cell
    have hcv := conv_own hrow
    gi_wp2
    refine ⟨by simp, .inl ⟨_, _, rfl, run_takeDeferred hK, ?_⟩⟩
    exact ⟨_, results_tmp rfl _ _ _, rfl, hB.trans (belowK_b (w := w) (Nat.le_refl _) W D _ _ (by simp at hD; omega) hK rfl rfl)⟩
  case stop =>
    rintro D c pre W _ _ h _
    exact h.elim
theorem hex_any (w : World) (ao : Option Addr) (m cap : Nat) (xs : List Int) (hL : Sl w ao m cap xs) (hm : m ≤ 70368744177664) :
    Calls Tryz.prog 140 #[.slice ao m cap] w fun e w' => e = .returned (.string (strOfNums (hexL xs))) ∧ Below w.heap.size w w' :=
  (callsIn_wide (n := 3)).1 (hex_in Fence.wide 3 trivial trivial trivial rfl (Nat.le_refl _) ao m cap xs w hL hm)
open Go.RowKit
theorem dg_byte {x : Int} (h : 0 ≤ x ∧ x < 16) : 0 ≤ dg x ∧ dg x ≤ 255 := by
  unfold dg
  split <;> omega
theorem hexL_byte {xs : List Int} (h : Byt xs) : Byt (hexL xs) := by
  intro y hy
  simp only [hexL, List.mem_flatMap, List.mem_cons, List.not_mem_nil, or_false] at hy
  obtain ⟨x, hx, hy⟩ := hy
  have := h x hx
  rcases hy with rfl | rfl
  · exact dg_byte (by omega)
  · exact dg_byte (by omega)
theorem take_drop_while {α : Type} (p : α → Bool) : ∀ l : List α, (l.takeWhile p).length + (l.dropWhile p).length = l.length
  | [] => rfl
  | a :: l => by
    have := take_drop_while p l
    rw [List.takeWhile_cons, List.dropWhile_cons]
    split <;> simp only [List.length_cons, List.length_nil] <;> omega
theorem pl_one (w : World) (ao : Option Addr) (n cap : Nat) (xs : List Int) (h : Sl w ao n cap xs) (t : TypeId) : PL (w.alloc (.cells #[.slice ao n cap] t)) (some ⟨w.heap.size, 0, none⟩) 1 1 [⟨ao, n, cap, xs⟩] := by
  have B : Below w.heap.size w (w.alloc (.cells #[.slice ao n cap] t)) := (Below.refl _ w).alloc (Nat.le_refl _) _
  refine (KL.mk ?_ ?_).pl
  · exact VL.new w [.slice ao n cap] t (by simp [maxLen])
  · intro q hq
    rw [List.mem_singleton.1 hq]
    exact h.below B
theorem wrap_lev (k : List Int) : IntKind.i64.wrap (lev k : Int) = lev k := by
  have := lev_le k
  simp [IntKind.wrap, IntKind.bits, IntKind.signed]
  omega
set_option maxHeartbeats 1000000 in
set_option maxRecDepth 100000 in
theorem level_any (w : World) (ao : Option Addr) (n cap : Nat) (xs : List Int) (hT : Tabs w) (h : Sl w ao n cap xs) (hn : n ≤ 1000000) :
    Calls Tryz.prog 105 #[.slice ao n cap] w fun e w' => e = .returned (.int .i64 (lev xs)) ∧ Below w.heap.size w w' := by
  have h2 := hT.two
  have B0 : Below w.heap.size w (w.alloc (.cells #[.slice ao n cap] 25)) := (Below.refl _ w).alloc (Nat.le_refl _) _
  have P0 := pl_one w ao n cap xs h 25
  obtain ⟨D, hD⟩ : ∃ D, D = sumL (formL (sb lvS) [xs]) := ⟨_, rfl⟩
  have hDl : D.length = 32 := by rw [hD]; exact sumL_len _
  have hDb : Byt D := by rw [hD]; exact sumL_byte _
  have CO := of_any _ lvS (some ⟨w.heap.size, 0, none⟩) 1 1 [⟨ao, n, cap, xs⟩] P0 (hT.below B0 h2) (by decide) (by decide) (by intro q hq; rw [List.mem_singleton.1 hq]; exact hn)
  rw [show formL (sb lvS) (pxs [⟨ao, n, cap, xs⟩]) = formL (sb lvS) [xs] from rfl, ← hD] at CO
  have HL : Hid (lev xs = ((hexL D).takeWhile fun c => c == 48).length) := by show _ = _; rw [hD]; rfl
  clear hD
  go_enter Tryz.func105, Tryz.ntmps105
  go_wp2_with fail
  refine CO.mono ?_
  rintro e w1 ⟨v1, rfl, own1, C1⟩
  obtain ⟨fo, fc, rfl, S1, -⟩ := Sl.own own1 hDb
  have B1 : Below w.heap.size w w1 := B0.trans (C1.mono B0.size)
  clear own1 C1 CO P0 B0
  go_wp2_with fail
  refine (hex_any w1 fo 32 fc D S1 (by decide)).mono ?_
  rintro e w2 ⟨rfl, C2⟩
  have B2 : Below w.heap.size w w2 := B1.trans (C2.mono B1.size)
  obtain ⟨H, hH⟩ : ∃ H, H = strOfNums (hexL D) := ⟨_, rfl⟩
  have hs : H.size = 64 := by rw [hH, strOfNums_size, hexL_len, hDl]
  have hsb : Hid (sb H = hexL D) := by show _ = _; rw [hH]; exact sb_str (hexL_byte hDb)
  rw [← hH]
  clear hH C2 S1 B1
  have CT := trim_any w2 H (by omega) (by omega)
  have HS : Hid (H.size = 64) := hs
  clear hs
  go_wp2_with fail
  refine CT.mono ?_
  rintro e w3 ⟨t, rfl, ht, rfl⟩
  have htl := take_drop_while (fun c : Int => c == 48) (hexL D)
  rw [hsb.out] at ht
  rw [← ht, sb_len, ← hsb.out, sb_len, hsb.out, HS.out, ← HL.out] at htl
  have HZ : Hid ((H.size : Int) - t.size = lev xs) := by
    show _ = _
    rw [HS.out]
    omega
  have hw : IntKind.i64.wrap ((H.size : Int) - t.size) = (H.size : Int) - t.size := by
    rw [HZ.out]
    exact wrap_lev xs
  clear htl ht CT
  go_wp2
  go_ret
  refine ⟨?_, B2⟩
  show Ending.returned (.int .i64 ((H.size : Int) - t.size)) = _
  rw [HZ.out]
open Go.RowKit
def PutPost (w : World) (l : List It) (x : It) (kd : Int) (e : Ending) (w' : World) : Prop := ∃ u, e = .returned (.tuple #[.pointer u, .int .i64 kd]) ∧ (kd = 0 → TT w' (.pointer u) (ins l x)) ∧ (kd ≠ 0 → u = none) ∧ Below w.heap.size w w'
set_option maxHeartbeats 4000000 in
set_option maxRecDepth 100000 in
theorem tput_any (w : World) (v : Value) (l : List It) (x : It) (ko vo : Option Addr) (kn kc vn vc : Nat) (hT : Tabs w) (h : TT w v l) (hs : Srt l) (hk : Sl w ko kn kc x.k) (hv : Sl w vo vn vc x.v) (hkn : kn ≤ 1000000) (hvn : vn ≤ 1000000) (hn : l.length ≤ 50000) (kd : Int)
    (hkd : Hid (jL [⟨⟨ko, kn, kc, x.k⟩, ⟨vo, vn, vc, x.v⟩⟩] 0 = kd)) :
    Calls Tryz.prog 70 #[v, .slice ko kn kc, .slice vo vn vc] w (PutPost w l x kd) := by
  have h2 := hT.two
  obtain ⟨W0, hW0⟩ : ∃ W, W = w.alloc (.cells #[.slice ko kn kc, .slice vo vn vc] 105) := ⟨_, rfl⟩
  have B0 : Below w.heap.size w W0 := by rw [hW0]; exact (Below.refl _ w).alloc (Nat.le_refl _) _
  have I0 : IL W0 (some ⟨w.heap.size, 0, none⟩) 1 1 [⟨⟨ko, kn, kc, x.k⟩, ⟨vo, vn, vc, x.v⟩⟩] := by rw [hW0]; exact IL.one w ⟨⟨ko, kn, kc, x.k⟩, ⟨vo, vn, vc, x.v⟩⟩ ⟨hk, hv⟩ _
  have CJ := judge_any W0 _ 1 1 _ I0 (by omega) (by intro q hq; rw [List.mem_singleton.1 hq]; exact ⟨hkn, hvn⟩)
  rw [hkd.out] at CJ
  obtain ⟨po, rfl⟩ := h.ptr
  go_enter Tryz.func70, Tryz.ntmps70
  go_wp2_with fail
  rw [← hW0]
  clear hW0
  refine CJ.mono ?_
  rintro e w1 ⟨rfl, C1⟩
  have B1 : Below w.heap.size w w1 := B0.trans (C1.mono B0.size)
  clear CJ I0 C1 B0
  by_cases hz : kd = 0
  · have hzb : (kd != 0) = false := by simp [hz]
    have HZ : Hid (kd = 0) := hz
    clear hz
    have CS := shared_at w w1 (.pointer po) l h B1
    go_wp2_with fail
    refine CS.mono ?_
    rintro e w2 ⟨q, rfl, hq, hw2⟩
    obtain rfl := hw2.symm
    clear CS
    have CL := level_any w1 ko kn kc x.k (hT.below B1 h2) (hk.below B1) hkn
    go_wp2_with fail
    refine CL.mono ?_
    rintro e w3 ⟨rfl, C3⟩
    have B3 : Below w.heap.size w w3 := B1.trans (C3.mono B1.size)
    clear CL C3 B1
    have CO := own_any w3 ko kn kc x.k (hk.below B3) hkn
    go_wp2_with fail
    refine CO.mono ?_
    rintro e w4 ⟨xo, xc, rfl, S4, C4⟩
    have B4 : Below w.heap.size w w4 := B3.trans (C4.mono B3.size)
    clear CO C4 B3
    have CO := own_any w4 vo vn vc x.v (hv.below B4) hvn
    go_wp2_with fail
    refine CO.mono ?_
    rintro e w5 ⟨yo, yc, rfl, S5, C5⟩
    have B5 : Below w.heap.size w w5 := B4.trans (C5.mono B4.size)
    have S4 := S4.below C5
    clear CO C5 B4
    have CW := with_any w5 (.pointer q) l x xo yo kn xc vn yc S4 S5 (hq.below B5) hs (by omega)
    go_wp2_with fail
    refine CW.mono ?_
    rintro e w6 ⟨u, rfl, T6, C6⟩
    have B6 : Below w.heap.size w w6 := B5.trans (C6.mono B5.size)
    clear CW C6 B5 S4 S5
    obtain ⟨u6, rfl⟩ := T6.ptr
    have CT := treeOf_any w6 _ _ T6
    go_wp2_with fail
    refine CT.mono ?_
    rintro e w7 ⟨u, rfl, T7, C7⟩
    have B7 : Below w.heap.size w w7 := B6.trans (C7.mono B6.size)
    obtain ⟨u7, rfl⟩ := T7.ptr
    clear CT C7 B6 T6
    go_wp2
    go_ret2
    refine ⟨u7, ?_, fun _ => T7, fun hne => absurd HZ.out hne, B7⟩
    rw [HZ.out]
    rfl
  · have hzb : (kd != 0) = true := by simp [hz]
    have HZ : Hid (¬ kd = 0) := hz
    clear hz
    go_wp2
    go_ret2
    exact ⟨none, rfl, fun hz => absurd hz HZ.out, fun _ => rfl, B1⟩
end Go.Proofs.YtlljmhcgjkolpaaGreatDoor
namespace Go
open Go.RowKit
def setL (L : Array Bool) (is : List Nat) : Array Bool := is.foldl (fun L i => L.setIfInBounds i true) L
theorem setL_size (is : List Nat) : ∀ L : Array Bool, (setL L is).size = L.size := by
  induction is with
  | nil => intro L; rfl
  | cons i is ih => intro L; exact (ih _).trans (by simp)
theorem setL_get (is : List Nat) : ∀ (L : Array Bool) (j : Nat), j < L.size → (setL L is).getD j true = (L.getD j true || is.contains j) := by
  induction is with
  | nil => intro L j _; simp [setL]
  | cons i is ih =>
    intro L j hj
    have h := ih (L.setIfInBounds i true) j (by simpa using hj)
    show (setL (L.setIfInBounds i true) is).getD j true = _
    rw [h]
    by_cases hij : i = j
    · subst hij
      have : (L.setIfInBounds i true).getD i true = true := by simp [hj]
      rw [this]
      simp
    · rw [getD_set_ne true hij]
      have : (i :: is).contains j = is.contains j := by
        rw [List.contains_cons, show (j == i) = false by simpa using fun e => hij e.symm, Bool.false_or]
      rw [this]
theorem arr_ext {A B : Array Bool} (hs : A.size = B.size) (h : ∀ j, j < A.size → A.getD j true = B.getD j true) : A = B := by
  refine Array.ext hs fun j h1 h2 => ?_
  have := h j h1
  simpa [h1, h2] using this
def depOk (ops : Array Oper) (L : Array Bool) (i : Nat) : Bool := ((ops[i]?).map (·.after.all fun e => !Region.binds .any e || L.getD e.on false)).getD false
theorem depOk_of {ops : Array Oper} {L : Array Bool} {i : Nat} {o : Oper} (ho : ops[i]? = some o) (h : ∀ e ∈ o.after, Region.binds .any e = true → L.getD e.on false = true) : depOk ops L i = true := by
  simp only [depOk, ho, Option.map_some, Option.getD_some]
  refine Array.all_eq_true_iff_forall_mem.2 fun e he => ?_
  by_cases hb : Region.binds .any e = true
  · rw [h e he hb, Bool.or_true]
  · simp [hb]
theorem getD_set_on {L : Array Bool} {i j : Nat} (h : L.getD j false = true) : (L.setIfInBounds i true).getD j false = true := by
  by_cases hij : i = j
  · subst hij
    by_cases hlt : i < L.size
    · simp [hlt]
    · simp [hlt] at h
  · simp only [Array.getD_eq_getD_getElem?] at h ⊢
    rw [Array.getElem?_setIfInBounds_ne hij]
    exact h
theorem depOk_set {ops : Array Oper} {L : Array Bool} {i j : Nat} (h : depOk ops L i = true) : depOk ops (L.setIfInBounds j true) i = true := by
  cases ho : ops[i]? with
  | none => simp [depOk, ho] at h
  | some o =>
    refine depOk_of ho fun e he hb => ?_
    simp only [depOk, ho, Option.map_some, Option.getD_some] at h
    have := Array.all_eq_true_iff_forall_mem.1 h e he
    rw [hb, Bool.not_true, Bool.false_or] at this
    exact getD_set_on this
def effChk (ops : Array Oper) (all : List Nat) : List Nat → Array Bool → Bool → Bool
  | [], L, sk => !sk || !(all.all fun i => !L.getD i true || depOk ops L i) || (!(Region.ready .any ops L).isEmpty && (Region.ready .any ops L).all fun j => all.contains j)
  | i :: is, L, sk => effChk ops all is (L.setIfInBounds i true) sk && effChk ops all is L true
theorem effChk_spec {ops : Array Oper} {all : List Nat} (c : Nat → Bool) : ∀ (is : List Nat) (L : Array Bool) (sk : Bool), effChk ops all is L sk = true → (sk = true ∨ ∃ i ∈ is, c i = false) → (∀ i ∈ all, (setL L (is.filter c)).getD i true = true → depOk ops (setL L (is.filter c)) i = true) →
    Region.ready .any ops (setL L (is.filter c)) ≠ [] ∧ ∀ j ∈ Region.ready .any ops (setL L (is.filter c)), j ∈ all
  | [], L, sk, h, hs, hcl => by
    rcases hs with rfl | ⟨i, hi, _⟩
    · have hcl' : (all.all fun i => !L.getD i true || depOk ops L i) = true := List.all_eq_true.2 fun i hi => by
        by_cases hL : L.getD i true = true
        · have := hcl i hi hL
          have h2 : depOk ops L i = true := this
          rw [h2, Bool.or_true]
        · have h2 : L.getD i true = false := by simpa using hL
          rw [h2]
          rfl
      simp only [effChk, hcl', Bool.not_true, Bool.false_or, Bool.and_eq_true] at h
      refine ⟨fun e => ?_, fun j hj => ?_⟩
      · have : Region.ready .any ops L = [] := e
        rw [this] at h
        simp at h
      · have := List.all_eq_true.1 h.2 j hj
        simpa using this
    · simp at hi
  | i :: is, L, sk, h, hs, hcl => by
    simp only [effChk, Bool.and_eq_true] at h
    by_cases hc : c i = true
    · rw [List.filter_cons, if_pos hc] at hcl ⊢
      refine effChk_spec c is (L.setIfInBounds i true) sk h.1 ?_ hcl
      rcases hs with hs | ⟨j, hj, hf⟩
      · exact .inl hs
      · rcases List.mem_cons.1 hj with rfl | hj
        · rw [hc] at hf; simp at hf
        · exact .inr ⟨j, hj, hf⟩
    · rw [List.filter_cons, if_neg hc] at hcl ⊢
      exact effChk_spec c is L true h.2 (.inl rfl) hcl
def unC (c : Nat → Bool) : List Nat → Nat
  | [] => 0
  | i :: is => unC c is + (if c i then 0 else 1)
theorem unC_same {c d : Nat → Bool} : ∀ (is : List Nat), (∀ i ∈ is, c i = d i) → unC c is = unC d is
  | [], _ => rfl
  | i :: is, h => by rw [unC, unC, unC_same is (fun j hj => h j (List.mem_cons_of_mem _ hj)), h i (List.mem_cons_self ..)]
theorem unC_set {c : Nat → Bool} {i : Nat} (hc : c i = false) : ∀ (is : List Nat), is.Nodup → i ∈ is → unC c is = unC (fun j => c j || j == i) is + 1
  | [], _, h => by simp at h
  | j :: is, hn, h => by
    have hn' := List.nodup_cons.1 hn
    rw [unC, unC]
    by_cases hji : j = i
    · subst hji
      have := unC_same (c := c) (d := fun k => c k || k == j) is (fun k hk => by
        have hne : k ≠ j := fun e => hn'.1 (e ▸ hk)
        have : (k == j) = false := by simpa using hne
        simp [this])
      rw [← this, hc]
      simp
    · have hi : i ∈ is := by
        rcases List.mem_cons.1 h with h | h
        · exact absurd h.symm hji
        · exact h
      have ih := unC_set hc is hn'.2 hi
      have : (j == i) = false := by simpa using hji
      rw [ih]
      simp only [this, Bool.or_false]
      omega
theorem unC_zero {c : Nat → Bool} : ∀ (is : List Nat), unC c is = 0 → ∀ i ∈ is, c i = true
  | [], _, i, h => by simp at h
  | j :: is, h0, i, h => by
    rw [unC] at h0
    rcases List.mem_cons.1 h with rfl | h
    · by_cases hc : c i = true
      · exact hc
      · rw [if_neg hc] at h0; omega
    · exact unC_zero is (by omega) i h
theorem unC_none : ∀ (is : List Nat), unC (fun _ => false) is = is.length
  | [] => rfl
  | i :: is => by rw [unC, unC_none is]; simp
def putL (a : Act) (f : Nat → Value) (ids : List (Nat × Nat)) : Act := ids.foldl (fun a p => a.put (some p.2) (f p.1)) a
theorem putL_size (f : Nat → Value) (ids : List (Nat × Nat)) : ∀ a : Act, (putL a f ids).tmps.size = a.tmps.size := by
  induction ids with
  | nil => intro a; rfl
  | cons p ids ih => intro a; exact (ih _).trans (by simp [Act.put])
theorem putL_defers (f : Nat → Value) (ids : List (Nat × Nat)) : ∀ a : Act, (putL a f ids).defers = a.defers := by
  induction ids with
  | nil => intro a; rfl
  | cons p ids ih => intro a; exact (ih _).trans rfl
theorem putL_other (f : Nat → Value) (k : Nat) (ids : List (Nat × Nat)) : ∀ a : Act, (∀ p ∈ ids, p.2 ≠ k) → (putL a f ids).tmps[k]? = a.tmps[k]? := by
  induction ids with
  | nil => intro a _; rfl
  | cons p ids ih =>
    intro a h
    have h1 := ih (a.put (some p.2) (f p.1)) (fun q hq => h q (List.mem_cons_of_mem _ hq))
    refine h1.trans ?_
    have hne := h p (List.mem_cons_self ..)
    simp [Act.put, Array.getElem?_setIfInBounds_ne hne]
theorem putL_at (f : Nat → Value) : ∀ (ids : List (Nat × Nat)) (a : Act), (ids.map (·.2)).Nodup → ∀ p ∈ ids, p.2 < a.tmps.size → (putL a f ids).tmps[p.2]? = some (f p.1)
  | [], a, _, p, h, _ => by simp at h
  | q :: ids, a, hn, p, h, hlt => by
    have hn' := List.nodup_cons.1 hn
    rcases List.mem_cons.1 h with rfl | h
    · have h1 := putL_other f p.2 ids (a.put (some p.2) (f p.1)) (fun q hq e => hn'.1 (List.mem_map.2 ⟨q, hq, e⟩))
      refine h1.trans ?_
      simp [Act.put, hlt]
    · exact putL_at f ids (a.put (some q.2) (f q.1)) hn'.2 p h (by simpa [Act.put] using hlt)
def effTo (ops : Array Oper) (L0 : Array Bool) (ids : List (Nat × Nat)) (n : Nat) : Bool :=
  ids.all (fun p => decide (p.2 < n) && !L0.getD p.1 true && (match ops[p.1]? with | some o => o.dst == some p.2 && o.guard.isNone | none => false)) &&
  effChk ops (ids.map (·.1)) (ids.map (·.1)) L0 false && decide (L0.size = ops.size)
def EffGot (ids : List (Nat × Nat)) (F : Nat → Value → World → Prop) (a : Act) (w : World) (j : Nat) : Prop := ∀ p ∈ ids, p.1 = j → ∃ v, a.tmps[p.2]? = some v ∧ F j v w
structure EffKeep (ids : List (Nat × Nat)) (a0 a : Act) : Prop where
  defers : a.defers = a0.defers
  size : a.tmps.size = a0.tmps.size
  same : ∀ k, (∀ p ∈ ids, p.2 ≠ k) → a.tmps[k]? = a0.tmps[k]?
theorem EffKeep.get {ids : List (Nat × Nat)} {a0 a : Act} (h : EffKeep ids a0 a) (k : Nat) {v : Value} (hk : ids.all (fun p => p.2 != k) = true) (h0 : a0.tmps[k]? = some v) : a.tmps[k]? = some v := by
  rw [h.same k (fun p hp => by simpa using List.all_eq_true.1 hk p hp)]
  exact h0
theorem EffGot.at {ids : List (Nat × Nat)} {F : Nat → Value → World → Prop} {a : Act} {w : World} {j : Nat} (h : EffGot ids F a w j) (d : Nat) (hd : ids.contains (j, d) = true) : ∃ v, a.tmps[d]? = some v ∧ F j v w :=
  h (j, d) (by simpa using hd) rfl
theorem wpAnyH_effto {P : Program} {ops : Array Oper} {S : World → Prop} {Q : Exit → Act → World → Prop} {a0 : Act} {W0 : World} {L0 : Array Bool} (m : Nat) (F : Nat → Value → World → Prop) (ids : List (Nat × Nat)) (n : Nat)
    (hok : effTo ops L0 ids n = true) (hn1 : (ids.map (·.1)).Nodup) (hn2 : (ids.map (·.2)).Nodup) (hn : n = a0.tmps.size)
    (mono : ∀ i v w w', F i v w → Below w.heap.size w w' → F i v w')
    (hS : ∀ w, Below W0.heap.size W0 w → S w)
    (step : ∀ p ∈ ids, ∀ o a w, ops[p.1]? = some o → EffKeep ids a0 a → Below W0.heap.size W0 w → (∀ j, o.after.any (fun e => Region.binds .any e && e.on == j) = true → EffGot ids F a w j) → EffRun P o a w (fun v w' => F p.1 v w' ∧ Below w.heap.size w w'))
    (fin : ∀ (f : Nat → Value) w, Below W0.heap.size W0 w → (∀ p ∈ ids, F p.1 (f p.1) w) → wpAnyH P .any ops (NoPanic Q) S m (setL L0 (ids.map (·.1))) (putL a0 f ids) w) :
    wpAnyH P .any ops (NoPanic Q) S (ids.length + m) L0 a0 W0 := by
  simp only [effTo, Bool.and_eq_true, decide_eq_true_eq] at hok
  obtain ⟨⟨hok1, hok2⟩, hLs⟩ := hok
  have hat : ∀ p ∈ ids, p.2 < a0.tmps.size ∧ L0.getD p.1 true = false ∧ ∃ o, ops[p.1]? = some o ∧ o.dst = some p.2 ∧ o.guard = none := fun p hp => by
    have h := List.all_eq_true.1 hok1 p hp
    simp only [Bool.and_eq_true, decide_eq_true_eq, Bool.not_eq_true'] at h
    obtain ⟨⟨h1, h2⟩, h3⟩ := h
    refine ⟨hn ▸ h1, h2, ?_⟩
    cases ho : ops[p.1]? with
    | none => rw [ho] at h3; simp at h3
    | some o =>
      rw [ho] at h3
      simp only [Bool.and_eq_true, beq_iff_eq] at h3
      exact ⟨o, rfl, h3.1, Option.isNone_iff_eq_none.1 h3.2⟩
  have main : ∀ (k : Nat) (c : Nat → Bool) (a : Act) (w : World), unC c (ids.map (·.1)) = k → EffKeep ids a0 a → Below W0.heap.size W0 w → (∀ p ∈ ids, c p.1 = true → ∃ v, a.tmps[p.2]? = some v ∧ F p.1 v w) →
      (∀ i ∈ ids.map (·.1), (setL L0 ((ids.map (·.1)).filter c)).getD i true = true → depOk ops (setL L0 ((ids.map (·.1)).filter c)) i = true) →
      wpAnyH P .any ops (NoPanic Q) S (k + m) (setL L0 ((ids.map (·.1)).filter c)) a w := by
    intro k
    induction k with
    | zero =>
      intro c a w hu hs hb hh _
      have hz := unC_zero _ hu
      have hall : ∀ p ∈ ids, ∃ v, a.tmps[p.2]? = some v ∧ F p.1 v w := fun p hp => hh p hp (hz p.1 (List.mem_map_of_mem hp))
      have hLeq : setL L0 ((ids.map (·.1)).filter c) = setL L0 (ids.map (·.1)) := by rw [List.filter_eq_self.2 hz]
      obtain ⟨f, hf⟩ : ∃ f : Nat → Value, ∀ p ∈ ids, a.tmps[p.2]? = some (f p.1) ∧ F p.1 (f p.1) w := by
        have hch : ∀ j, ∃ v, ∀ p ∈ ids, p.1 = j → a.tmps[p.2]? = some v ∧ F p.1 v w := fun j => by
          by_cases hj : ∃ p ∈ ids, p.1 = j
          · obtain ⟨p, hp, rfl⟩ := hj
            obtain ⟨v, h1, h2⟩ := hall p hp
            refine ⟨v, fun q hq e => ?_⟩
            obtain ⟨-, -, o, ho, hd, -⟩ := hat p hp
            obtain ⟨-, -, o', ho', hd', -⟩ := hat q hq
            rw [e, ho] at ho'
            obtain rfl := Option.some.inj ho'
            have : p.2 = q.2 := Option.some.inj (hd.symm.trans hd')
            rw [← this, e]
            exact ⟨h1, h2⟩
          · exact ⟨undef, fun q hq e => absurd ⟨q, hq, e⟩ hj⟩
        exact ⟨fun j => Classical.choose (hch j), fun p hp => Classical.choose_spec (hch p.1) p hp rfl⟩
      have ha : a = putL a0 f ids := by
        have ht : a.tmps = (putL a0 f ids).tmps := by
          refine Array.ext (by rw [putL_size]; exact hs.size) fun j h1 h2 => ?_
          have : a.tmps[j]? = (putL a0 f ids).tmps[j]? := by
            by_cases hj : ∃ p ∈ ids, p.2 = j
            · obtain ⟨p, hp, rfl⟩ := hj
              rw [(hf p hp).1, putL_at f ids a0 hn2 p hp (hat p hp).1]
            · have hj' : ∀ p ∈ ids, p.2 ≠ j := fun p hp e => hj ⟨p, hp, e⟩
              rw [hs.same j hj', putL_other f j ids a0 hj']
          simpa [h1, h2] using this
        have hd : a.defers = (putL a0 f ids).defers := by rw [putL_defers]; exact hs.defers
        cases a
        cases hp : putL a0 f ids
        rw [hp] at ht hd
        simp only at ht hd
        rw [ht, hd]
      rw [hLeq, ha, Nat.zero_add]
      exact fin f w hb (fun p hp => (hf p hp).2)
    | succ k ih =>
      intro c a w hu hs hb hh hcl
      have hex : ∃ i ∈ ids.map (·.1), c i = false := by
        by_cases h : ∃ i ∈ ids.map (·.1), c i = false
        · exact h
        · exfalso
          have hz : ∀ i ∈ ids.map (·.1), c i = true := fun i hi => by
            by_cases hc : c i = true
            · exact hc
            · exact absurd ⟨i, hi, by simpa using hc⟩ h
          have : unC c (ids.map (·.1)) = unC (fun _ => true) (ids.map (·.1)) := unC_same _ (fun i hi => hz i hi)
          have h0 : ∀ l : List Nat, unC (fun _ => true) l = 0 := fun l => by
            induction l with
            | nil => rfl
            | cons x l ih => rw [unC, ih]; rfl
          rw [hu, h0] at this
          omega
      obtain ⟨hne, hsub⟩ := effChk_spec (ops := ops) (all := ids.map (·.1)) c (ids.map (·.1)) L0 false hok2 (.inr hex) hcl
      have hsz : (setL L0 ((ids.map (·.1)).filter c)).size = ops.size := by rw [setL_size]; exact hLs
      rw [show k + 1 + m = (k + m) + 1 by omega]
      refine ⟨fun h => absurd h hne, fun i hi => ?_⟩
      obtain ⟨p, hp, rfl⟩ := List.mem_map.1 (hsub i hi)
      obtain ⟨h1, o, ho, hdep⟩ := mem_ready.1 hi
      obtain ⟨hdl, hL0, o', ho', hdo, hg⟩ := hat p hp
      rw [ho] at ho'
      obtain rfl := Option.some.inj ho'
      have hlt := (Array.getElem?_eq_some_iff.1 ho).1
      have hci : c p.1 = false := by
        by_cases hc : c p.1 = true
        · exfalso
          rw [setL_get _ _ _ (by omega)] at h1
          have : ((ids.map (·.1)).filter c).contains p.1 = true := by
            simpa using ⟨⟨p.2, hp⟩, hc⟩
          rw [this] at h1
          simp at h1
        · simpa using hc
      have hw : Region.wanted o (yielded ops a.tmps) = true := by simp [Region.wanted, hg]
      have hrun := step p hp o a w ho hs hb (fun j hj q hq hqj => by
        obtain ⟨e, hem, hbj⟩ := Array.any_eq_true'.1 hj
        simp only [Bool.and_eq_true, beq_iff_eq] at hbj
        obtain ⟨hbi, rfl⟩ := hbj
        have h2 := hdep e hem hbi
        obtain ⟨-, hq0, oq, hoq, -⟩ := hat q hq
        have hqlt := (Array.getElem?_eq_some_iff.1 hoq).1
        have h4 : (setL L0 ((ids.map (·.1)).filter c)).getD q.1 true = true := by
          rw [hqj]
          have : e.on < (setL L0 ((ids.map (·.1)).filter c)).size := by rw [hsz, ← hqj]; exact hqlt
          simpa [this] using h2
        rw [setL_get _ _ _ (by omega), hq0, Bool.false_or] at h4
        have h5 : c q.1 = true := by
          have h6 : q.1 ∈ (ids.map (·.1)).filter c := by simpa using h4
          exact (List.mem_filter.1 h6).2
        have := hh q hq h5
        rw [hqj] at this
        exact this)
      have next : ∀ v w', F p.1 v w' ∧ Below w.heap.size w w' → S w' ∧ wpAnyH P .any ops (NoPanic Q) S (k + m) ((setL L0 ((ids.map (·.1)).filter c)).setIfInBounds p.1 true) (a.put (some p.2) v) w' := by
        rintro v w' ⟨hF, hb'⟩
        have hbw := hb.trans (hb'.mono hb.size)
        have htm : (a.put (some p.2) v).tmps = a.tmps.setIfInBounds p.2 v := rfl
        refine ⟨hS w' hbw, ?_⟩
        have hLq : (setL L0 ((ids.map (·.1)).filter c)).setIfInBounds p.1 true = setL L0 ((ids.map (·.1)).filter fun j => c j || j == p.1) := by
          refine arr_ext (by simp [setL_size]) fun j hj => ?_
          have hj' : j < L0.size := by simpa [setL_size] using hj
          rw [setL_get _ _ _ hj']
          by_cases hji : p.1 = j
          · subst hji
            have h7 : ((setL L0 ((ids.map (·.1)).filter c)).setIfInBounds p.1 true).getD p.1 true = true := by
              have : p.1 < (setL L0 ((ids.map (·.1)).filter c)).size := by rw [setL_size]; exact hj'
              simp [this]
            have h8 : ((ids.map (·.1)).filter fun j => c j || j == p.1).contains p.1 = true := by
              rw [List.contains_iff_mem]
              exact List.mem_filter.2 ⟨List.mem_map_of_mem hp, by simp⟩
            rw [h7, h8]
            simp
          · rw [getD_set_ne true hji, setL_get _ _ _ hj']
            congr 1
            have hbe : (j == p.1) = false := by simpa using fun e => hji e.symm
            rw [Bool.eq_iff_iff, List.contains_iff_mem, List.contains_iff_mem, List.mem_filter, List.mem_filter, hbe, Bool.or_false]
        rw [hLq]
        refine ih _ _ _ ?_ ⟨hs.defers, by rw [htm, Array.size_setIfInBounds]; exact hs.size, fun q hq => ?_⟩ hbw (fun q hq hcq => ?_) ?_
        · have := unC_set hci (ids.map (·.1)) hn1 (List.mem_map_of_mem hp)
          omega
        · rw [htm, Array.getElem?_setIfInBounds_ne (hq p hp)]
          exact hs.same q hq
        · by_cases hqp : q.1 = p.1
          · have h9 : q.2 = p.2 := by
              obtain ⟨-, -, oq, hoq, hdq, -⟩ := hat q hq
              rw [hqp, ho] at hoq
              obtain rfl := Option.some.inj hoq
              exact Option.some.inj (hdq.symm.trans hdo)
            rw [hqp, h9]
            refine ⟨v, ?_, hF⟩
            rw [htm, Array.getElem?_setIfInBounds_self_of_lt (by rw [hs.size]; exact hdl)]
          · have hbe : (q.1 == p.1) = false := by simpa using hqp
            have hcq' : c q.1 = true := by simpa [hbe] using hcq
            obtain ⟨v', h1', h2'⟩ := hh q hq hcq'
            refine ⟨v', ?_, mono _ _ _ _ h2' hb'⟩
            have hne : p.2 ≠ q.2 := fun e => hqp (by
              have hinj : ∀ (l : List (Nat × Nat)), (l.map (·.2)).Nodup → ∀ x ∈ l, ∀ y ∈ l, x.2 = y.2 → x = y := by
                intro l
                induction l with
                | nil => intro _ x hx; simp at hx
                | cons z l ihl =>
                  intro hnd x hx y hy exy
                  have hnd' := List.nodup_cons.1 hnd
                  rcases List.mem_cons.1 hx with rfl | hxl
                  · rcases List.mem_cons.1 hy with rfl | hyl
                    · rfl
                    · exact absurd (List.mem_map.2 ⟨y, hyl, exy.symm⟩) hnd'.1
                  · rcases List.mem_cons.1 hy with rfl | hyl
                    · exact absurd (List.mem_map.2 ⟨x, hxl, exy⟩) hnd'.1
                    · exact ihl hnd'.2 x hxl y hyl exy
              rw [hinj ids hn2 q hq p hp e.symm])
            rw [htm, Array.getElem?_setIfInBounds_ne hne]
            exact h1'
        · rw [← hLq]
          intro i hi hiL
          by_cases hip : p.1 = i
          · subst hip
            exact depOk_set (depOk_of ho hdep)
          · rw [getD_set_ne true hip] at hiL
            exact depOk_set (hcl i hi hiL)
      rcases hrun with ⟨v, w', hr, hR⟩ | ⟨f, args, hr, hc⟩
      · unfold wpOp
        simp only [ho, hw, if_true, Oper.wp, hr, Oper.upon, hdo]
        exact .inl (next v w' hR)
      · unfold wpOp
        simp only [ho, hw, if_true, Oper.wp, hr, Oper.upon, hdo]
        refine .inl (hc.mono ?_)
        rintro e w' ⟨v, rfl, hR⟩
        exact next v w' hR
  have h := main (ids.length) (fun _ => false) a0 W0 (by rw [unC_none]; simp) ⟨rfl, rfl, fun _ _ => rfl⟩ (Below.refl _ _) (fun p hp h => by simp at h) (fun i hi hL => by
    exfalso
    obtain ⟨p, hp, rfl⟩ := List.mem_map.1 hi
    rw [List.filter_eq_nil_iff.2 (by simp)] at hL
    have := (hat p hp).2.1
    have h2 : L0.getD p.1 true = true := hL
    rw [this] at h2
    simp at h2)
  have he : setL L0 ((ids.map (·.1)).filter fun _ => false) = L0 := by
    rw [List.filter_eq_nil_iff.2 (by simp)]
    rfl
  rw [he] at h
  exact h
end Go
