/-
  Texts in one: PWithN, PWith.
-/
import Derived.Test.YthlpccajnmkbjaaGreatDoorY26
import Derived.Test.YthlpccajnmkbjaaGreatDoorY27
import Derived.Test.YthlpccajnmkbjaaGreatDoorY28
import Derived.Test.YthlpccajnmkbjaaGreatDoorY29
import Derived.Test.YthlpccajnmkbjaaGreatDoorY30
namespace Go.Proofs.YthlpccajnmkbjaaGreatDoor
open Go.RowKit

theorem leafNB (xo yo : Option Addr) (xn xc yn yc : Nat) (w : World) (p1 p2 : Option Addr) (n : Nat) : Below w.heap.size w ((((w.alloc (.cells #[.slice xo xn xc] 40)).alloc (.cells #[.slice yo yn yc] 40)).alloc (.cells #[.pointer p1, .pointer p2] 92)).alloc (.cells #[.int .i64 (n), .slice (some ⟨w.heap.size, 0, none⟩) 1 1, .slice (some ⟨w.heap.size + 1, 0, none⟩) 1 1, .slice (some ⟨w.heap.size + 2, 0, none⟩) 2 2] 151)) :=
  (((((Below.refl _ w).alloc (Nat.le_refl _) _).alloc (by simp) _).alloc (by simp; omega) _).alloc (by simp; omega) _)
theorem leafN (x : It) (xo yo : Option Addr) (xn xc yn yc : Nat) (l : List It) (w : World) (p1 p2 : Option Addr) (hx : Sl w xo xn xc x.k) (hy : Sl w yo yn yc x.v) (h1 : T w (.pointer p1) (lo x.k l)) (h2 : T w (.pointer p2) (hi x.k l)) (hlow : ∀ y ∈ l, lev y.k < lev x.k) :
    T ((((w.alloc (.cells #[.slice xo xn xc] 40)).alloc (.cells #[.slice yo yn yc] 40)).alloc (.cells #[.pointer p1, .pointer p2] 92)).alloc (.cells #[.int .i64 (lev x.k), .slice (some ⟨w.heap.size, 0, none⟩) 1 1, .slice (some ⟨w.heap.size + 1, 0, none⟩) 1 1, .slice (some ⟨w.heap.size + 2, 0, none⟩) 2 2] 151)) (.pointer (some ⟨w.heap.size + 3, 0, none⟩)) (ins l x) := by
  have BB := leafNB xo yo xn xc yn yc w p1 p2 (lev x.k)
  have b1 : Below w.heap.size w (w.alloc (.cells #[.slice xo xn xc] 40)) := (Below.refl _ w).alloc (Nat.le_refl _) _
  have v1 := VL.new w [.slice xo xn xc] 40 (by simp [maxLen])
  have b2 : Below (w.alloc (.cells #[.slice xo xn xc] 40)).heap.size (w.alloc (.cells #[.slice xo xn xc] 40)) ((w.alloc (.cells #[.slice xo xn xc] 40)).alloc (.cells #[.slice yo yn yc] 40)) := (Below.refl _ _).alloc (Nat.le_refl _) _
  have v2 := VL.new (w.alloc (.cells #[.slice xo xn xc] 40)) [.slice yo yn yc] 40 (by simp [maxLen])
  have b3 : Below ((w.alloc (.cells #[.slice xo xn xc] 40)).alloc (.cells #[.slice yo yn yc] 40)).heap.size ((w.alloc (.cells #[.slice xo xn xc] 40)).alloc (.cells #[.slice yo yn yc] 40)) (((w.alloc (.cells #[.slice xo xn xc] 40)).alloc (.cells #[.slice yo yn yc] 40)).alloc (.cells #[.pointer p1, .pointer p2] 92)) := (Below.refl _ _).alloc (Nat.le_refl _) _
  have v3 := VL.new ((w.alloc (.cells #[.slice xo xn xc] 40)).alloc (.cells #[.slice yo yn yc] 40)) [.pointer p1, .pointer p2] 92 (by simp [maxLen])
  have b4 : Below (((w.alloc (.cells #[.slice xo xn xc] 40)).alloc (.cells #[.slice yo yn yc] 40)).alloc (.cells #[.pointer p1, .pointer p2] 92)).heap.size (((w.alloc (.cells #[.slice xo xn xc] 40)).alloc (.cells #[.slice yo yn yc] 40)).alloc (.cells #[.pointer p1, .pointer p2] 92)) ((((w.alloc (.cells #[.slice xo xn xc] 40)).alloc (.cells #[.slice yo yn yc] 40)).alloc (.cells #[.pointer p1, .pointer p2] 92)).alloc (.cells #[.int .i64 (lev x.k), .slice (some ⟨w.heap.size, 0, none⟩) 1 1, .slice (some ⟨w.heap.size + 1, 0, none⟩) 1 1, .slice (some ⟨w.heap.size + 2, 0, none⟩) 2 2] 151)) := (Below.refl _ _).alloc (Nat.le_refl _) _
  have hg : ((((w.alloc (.cells #[.slice xo xn xc] 40)).alloc (.cells #[.slice yo yn yc] 40)).alloc (.cells #[.pointer p1, .pointer p2] 92)).alloc (.cells #[.int .i64 (lev x.k), .slice (some ⟨w.heap.size, 0, none⟩) 1 1, .slice (some ⟨w.heap.size + 1, 0, none⟩) 1 1, .slice (some ⟨w.heap.size + 2, 0, none⟩) 2 2] 151)).heap[w.heap.size + 3]? = some (.cells #[.int .i64 (lev x.k), .slice (some ⟨w.heap.size, 0, none⟩) 1 1, .slice (some ⟨w.heap.size + 1, 0, none⟩) 1 1, .slice (some ⟨w.heap.size + 2, 0, none⟩) 2 2] 151) := by
    have := heap_alloc_new (((w.alloc (.cells #[.slice xo xn xc] 40)).alloc (.cells #[.slice yo yn yc] 40)).alloc (.cells #[.pointer p1, .pointer p2] 92)) (.cells #[.int .i64 (lev x.k), .slice (some ⟨w.heap.size, 0, none⟩) 1 1, .slice (some ⟨w.heap.size + 1, 0, none⟩) 1 1, .slice (some ⟨w.heap.size + 2, 0, none⟩) 2 2] 151)
    simpa using this
  have s1 := (v1.below b2).below b3
  have s2 := v2.below b3
  simp only [World.size_alloc, List.length_cons, List.length_nil, Nat.zero_add] at s1 s2 v3
  refine T.make hg (KL.of (ps := [(⟨xo, xn, xc, x.k⟩ : Part)]) (s1.below b4) rfl ?_) (KL.of (ps := [(⟨yo, yn, yc, x.v⟩ : Part)]) (s2.below b4) rfl ?_) (v3.below b4) (Shp.single (x := x) rfl (fun y hy => hlow y (mem_lo.1 hy).1) (fun y hy => hlow y (mem_hi.1 hy).1)) rfl rfl (Kids.cons (h1.below BB) (Kids.one (h2.below BB)))
  · intro q hq
    rw [List.mem_singleton.1 hq]
    exact hx.below BB
  · intro q hq
    rw [List.mem_singleton.1 hq]
    exact hy.below BB

set_option maxHeartbeats 4000000 in
set_option maxRecDepth 100000 in
theorem withO_any (w : World) (x : It) (xo yo : Option Addr) (xn xc yn yc : Nat) (hx : Sl w xo xn xc x.k) (hy : Sl w yo yn yc x.v) :
    Calls Tryz.prog 147 #[.pointer none, .agg #[.int .i64 (lev x.k), .slice xo xn xc, .slice yo yn yc]] w (RetT w (ins [] x)) := by
  obtain ⟨l, hl⟩ : ∃ l : List It, l = [] := ⟨_, rfl⟩
  have hT : T w (.pointer none) l := by rw [hl]; exact T.nil w
  have hs : Srt l := by rw [hl]; exact List.Pairwise.nil
  have hlow : ∀ y ∈ l, lev y.k < lev x.k := by rw [hl]; simp
  have hk : ¬ has x.k l := by rw [hl]; rintro ⟨y, hy, -⟩; simp at hy
  have hn : l.length ≤ 100000 := by rw [hl]; simp
  rw [← hl]
  clear hl
  go_enter Tryz.func147, Tryz.ntmps147
  go_wp2_with fail
  obtain ⟨w0, hw0⟩ : ∃ V, V = (w.alloc (.cells #[.int .i64 (lev x.k), .slice xo xn xc, .slice yo yn yc] 178)) := ⟨_, rfl⟩
  have L0 : Lf w0 w.heap.size (lev x.k) (.slice xo xn xc) (.slice yo yn yc) := by rw [hw0]; exact Lf.new ..
  have B0 : Below w.heap.size w w0 := by rw [hw0]; exact (Below.refl _ w).alloc (Nat.le_refl _) _
  rw [← hw0]
  obtain ⟨g, hg⟩ : ∃ g, g = w.heap.size := ⟨_, rfl⟩
  rw [← hg] at L0 ⊢
  clear hw0 hg
  have aHS : Hid (∀ V, Below w0.heap.size w0 V → V.cell? ⟨g, 0, none⟩ = some (.int .i64 (lev x.k)) ∧ V.cell? ⟨g, 1, none⟩ = some (.slice xo xn xc) ∧ V.cell? ⟨g, 2, none⟩ = some (.slice yo yn yc)) := fun V hV => ⟨(L0.below hV).c0, (L0.below hV).c1, (L0.below hV).c2⟩
  have aE0 : Below w0.heap.size w0 w0.drew := (Below.refl _ _).drew
  refine wp_region_noPanic ?_
  refine wp_region_held_drew (S := fun V => V.cell? ⟨g, 0, none⟩ = some (.int .i64 (lev x.k)) ∧ V.cell? ⟨g, 1, none⟩ = some (.slice xo xn xc) ∧ V.cell? ⟨g, 2, none⟩ = some (.slice yo yn yc)) (by kernel_rfl) (aHS.out _ aE0) (fun aH0 => ?_)
  obtain ⟨av0, hv0⟩ : ∃ v, v = w0.drew := ⟨_, rfl⟩
  rw [← hv0] at aH0 aE0 ⊢
  clear hv0
  refine hr_take_w 0 (some 11) (.pointer none) rfl rfl (by kernel_rfl) (by kernel_rfl) (by kernel_rfl) rfl (fun W hW => by obtain ⟨h0, h1, h2⟩ := hW; go_simp) aH0 ?_
  simp only [Act.put, List.setIfInBounds_toArray, List.set_cons_zero, List.set_cons_succ]
  refine hr_take_w 1 (some 12) (.bool true) rfl rfl (by kernel_rfl) (by kernel_rfl) (by kernel_rfl) rfl (fun W hW => by obtain ⟨h0, h1, h2⟩ := hW; go_simp) aH0 ?_
  simp only [Act.put, List.setIfInBounds_toArray, List.set_cons_zero, List.set_cons_succ]
  refine hr_take_w 2 (some 13) (.bool true) rfl rfl (by kernel_rfl) (by kernel_rfl) (by kernel_rfl) rfl (fun W hW => by obtain ⟨h0, h1, h2⟩ := hW; go_simp) aH0 ?_
  simp only [Act.put, List.setIfInBounds_toArray, List.set_cons_zero, List.set_cons_succ]
  refine hr_none 3 (some 14) rfl rfl (by kernel_rfl) (by kernel_rfl) (by kernel_rfl) rfl aH0 ?_
  simp only [Act.put, List.setIfInBounds_toArray, List.set_cons_zero, List.set_cons_succ]
  refine hr_none 4 (some 15) rfl rfl (by kernel_rfl) (by kernel_rfl) (by kernel_rfl) rfl aH0 ?_
  simp only [Act.put, List.setIfInBounds_toArray, List.set_cons_zero, List.set_cons_succ]
  refine hr_none 5 (some 16) rfl rfl (by kernel_rfl) (by kernel_rfl) (by kernel_rfl) rfl aH0 ?_
  simp only [Act.put, List.setIfInBounds_toArray, List.set_cons_zero, List.set_cons_succ]
  refine hr_none 6 (some 17) rfl rfl (by kernel_rfl) (by kernel_rfl) (by kernel_rfl) rfl aH0 ?_
  simp only [Act.put, List.setIfInBounds_toArray, List.set_cons_zero, List.set_cons_succ]
  refine hr_none 7 (some 18) rfl rfl (by kernel_rfl) (by kernel_rfl) (by kernel_rfl) rfl aH0 ?_
  simp only [Act.put, List.setIfInBounds_toArray, List.set_cons_zero, List.set_cons_succ]
  refine hr_none 8 (some 19) rfl rfl (by kernel_rfl) (by kernel_rfl) (by kernel_rfl) rfl aH0 ?_
  simp only [Act.put, List.setIfInBounds_toArray, List.set_cons_zero, List.set_cons_succ]
  refine hr_none 9 (some 20) rfl rfl (by kernel_rfl) (by kernel_rfl) (by kernel_rfl) rfl aH0 ?_
  simp only [Act.put, List.setIfInBounds_toArray, List.set_cons_zero, List.set_cons_succ]
  refine hr_take_w 10 (some 21) (.bool true) rfl rfl (by kernel_rfl) (by kernel_rfl) (by kernel_rfl) rfl (fun W hW => by obtain ⟨h0, h1, h2⟩ := hW; go_simp) aH0 ?_
  simp only [Act.put, List.setIfInBounds_toArray, List.set_cons_zero, List.set_cons_succ]
  refine wpAnyH_done (by kernel_rfl) ?_ _
  refine NoPanic.normal ?_
  have Ba : Below w.heap.size w av0 := B0.trans (aE0.mono B0.size)
  have La := L0.below aE0
  have lc0 := La.c0
  have lc1 := La.c1
  have lc2 := La.c2
  have CC := cut_fuel l.length av0 (.pointer none) l xo xn xc x.k (Nat.le_refl _) (hT.below Ba) hs hk (hx.below Ba) hn
  go_wp2_with fail
  refine CC.mono ?_
  rintro e w1 ⟨u1, u2, rfl, T1, T2, B1'⟩
  have B1 : Below w.heap.size w w1 := Ba.trans (B1'.mono Ba.size)
  have L1 := La.below B1'
  have lc0 := L1.c0
  have lc1 := L1.c1
  have lc2 := (L1.below ((Below.refl _ w1).alloc (Nat.le_refl _) (.cells #[.slice xo xn xc] 40))).c2
  obtain ⟨p1, rfl⟩ := T1.ptr
  obtain ⟨p2, rfl⟩ := T2.ptr
  have TT := leafN x xo yo xn xc yn yc l w1 p1 p2 (hx.below B1) (hy.below B1) T1 T2 hlow
  have BB := leafNB xo yo xn xc yn yc w1 p1 p2 (lev x.k)
  clear CC T1 T2 B1' hT
  go_wp2
  go_ret
  exact ⟨_, rfl, TT, B1.trans (BB.mono B1.size)⟩

set_option maxHeartbeats 4000000 in
set_option maxRecDepth 100000 in
theorem withN_any (w : World) (x : It) (xo yo : Option Addr) (xn xc yn yc : Nat) (hx : Sl w xo xn xc x.k) (hy : Sl w yo yn yc x.v) (l : List It) (d : Nd) (segs : List (List It)) (xs : List It) (h : Nod w l d segs xs) (hs : Srt l) (hn : l.length ≤ 100000) (hL : d.L < lev x.k) :
    Calls Tryz.prog 147 #[d.ptr, .agg #[.int .i64 (lev x.k), .slice xo xn xc, .slice yo yn yc]] w (RetT w (ins l x)) := by
  have hT := T.of h
  have hlow : ∀ y ∈ l, lev y.k < lev x.k := fun y hy => by
    have := h.shp.le y hy
    omega
  have hk : ¬ has x.k l := fun ⟨y, hy, e⟩ => by
    have := hlow y hy
    rw [e] at this
    omega
  unfold Nd.ptr at hT ⊢
  go_enter Tryz.func147, Tryz.ntmps147
  go_wp2_with fail
  obtain ⟨w0, hw0⟩ : ∃ V, V = (w.alloc (.cells #[.int .i64 (lev x.k), .slice xo xn xc, .slice yo yn yc] 178)) := ⟨_, rfl⟩
  have L0 : Lf w0 w.heap.size (lev x.k) (.slice xo xn xc) (.slice yo yn yc) := by rw [hw0]; exact Lf.new ..
  have B0 : Below w.heap.size w w0 := by rw [hw0]; exact (Below.refl _ w).alloc (Nat.le_refl _) _
  rw [← hw0]
  obtain ⟨g, hg⟩ : ∃ g, g = w.heap.size := ⟨_, rfl⟩
  rw [← hg] at L0 ⊢
  clear hw0 hg
  have N0 := h.below B0
  have aHS : Hid (∀ V, Below w0.heap.size w0 V → V.cell? ⟨d.b, 0, none⟩ = some (.int .i64 d.L) ∧ V.cell? ⟨d.b, 1, none⟩ = some (.slice d.ko d.ks.length d.kc) ∧ V.cell? ⟨d.b, 2, none⟩ = some (.slice d.vo d.vs.length d.vc) ∧ V.cell? ⟨d.b, 3, none⟩ = some (.slice d.co d.cs.length d.cc) ∧ V.cell? ⟨g, 0, none⟩ = some (.int .i64 (lev x.k)) ∧ V.cell? ⟨g, 1, none⟩ = some (.slice xo xn xc) ∧ V.cell? ⟨g, 2, none⟩ = some (.slice yo yn yc)) := fun V hV => ⟨(N0.ok.below hV).c0, (N0.ok.below hV).c1, (N0.ok.below hV).c2, (N0.ok.below hV).c3, (L0.below hV).c0, (L0.below hV).c1, (L0.below hV).c2⟩
  have aE0 : Below w0.heap.size w0 w0.drew := (Below.refl _ _).drew
  refine wp_region_noPanic ?_
  refine wp_region_held_drew (S := fun V => V.cell? ⟨d.b, 0, none⟩ = some (.int .i64 d.L) ∧ V.cell? ⟨d.b, 1, none⟩ = some (.slice d.ko d.ks.length d.kc) ∧ V.cell? ⟨d.b, 2, none⟩ = some (.slice d.vo d.vs.length d.vc) ∧ V.cell? ⟨d.b, 3, none⟩ = some (.slice d.co d.cs.length d.cc) ∧ V.cell? ⟨g, 0, none⟩ = some (.int .i64 (lev x.k)) ∧ V.cell? ⟨g, 1, none⟩ = some (.slice xo xn xc) ∧ V.cell? ⟨g, 2, none⟩ = some (.slice yo yn yc)) (by kernel_rfl) (aHS.out _ aE0) (fun aH0 => ?_)
  obtain ⟨av0, hv0⟩ : ∃ v, v = w0.drew := ⟨_, rfl⟩
  rw [← hv0] at aH0 aE0 ⊢
  clear hv0
  refine hr_take_w 0 (some 11) (.pointer (some ⟨d.b, 0, none⟩)) rfl rfl (by kernel_rfl) (by kernel_rfl) (by kernel_rfl) rfl (fun W hW => by obtain ⟨h0, h1, h2, h3, h4, h5, h6⟩ := hW; go_simp) aH0 ?_
  simp only [Act.put, List.setIfInBounds_toArray, List.set_cons_zero, List.set_cons_succ]
  refine hr_take_w 1 (some 12) (.bool false) rfl rfl (by kernel_rfl) (by kernel_rfl) (by kernel_rfl) rfl (fun W hW => by obtain ⟨h0, h1, h2, h3, h4, h5, h6⟩ := hW; go_simp) aH0 ?_
  simp only [Act.put, List.setIfInBounds_toArray, List.set_cons_zero, List.set_cons_succ]
  refine hr_take_w 2 (some 13) (.bool false) rfl rfl (by kernel_rfl) (by kernel_rfl) (by kernel_rfl) rfl (fun W hW => by obtain ⟨h0, h1, h2, h3, h4, h5, h6⟩ := hW; go_simp) aH0 ?_
  simp only [Act.put, List.setIfInBounds_toArray, List.set_cons_zero, List.set_cons_succ]
  refine hr_take_w 3 (some 14) (.pointer (some ⟨d.b, 0, none⟩)) rfl rfl (by kernel_rfl) (by kernel_rfl) (by kernel_rfl) rfl (fun W hW => by obtain ⟨h0, h1, h2, h3, h4, h5, h6⟩ := hW; go_simp) aH0 ?_
  simp only [Act.put, List.setIfInBounds_toArray, List.set_cons_zero, List.set_cons_succ]
  refine hr_take_w 4 (some 15) (.pointer (some ⟨d.b, 0, none⟩)) rfl rfl (by kernel_rfl) (by kernel_rfl) (by kernel_rfl) rfl (fun W hW => by obtain ⟨h0, h1, h2, h3, h4, h5, h6⟩ := hW; go_simp) aH0 ?_
  simp only [Act.put, List.setIfInBounds_toArray, List.set_cons_zero, List.set_cons_succ]
  refine hr_take_w 5 (some 16) (.pointer (some ⟨d.b, 0, none⟩)) rfl rfl (by kernel_rfl) (by kernel_rfl) (by kernel_rfl) rfl (fun W hW => by obtain ⟨h0, h1, h2, h3, h4, h5, h6⟩ := hW; go_simp) aH0 ?_
  simp only [Act.put, List.setIfInBounds_toArray, List.set_cons_zero, List.set_cons_succ]
  refine hr_take_w 6 (some 17) (.int .i64 d.L) rfl rfl (by kernel_rfl) (by kernel_rfl) (by kernel_rfl) rfl (fun W hW => by obtain ⟨h0, h1, h2, h3, h4, h5, h6⟩ := hW; go_simp) aH0 ?_
  simp only [Act.put, List.setIfInBounds_toArray, List.set_cons_zero, List.set_cons_succ]
  refine hr_take_w 7 (some 18) (.pointer (some ⟨g, 0, none⟩)) rfl rfl (by kernel_rfl) (by kernel_rfl) (by kernel_rfl) rfl (fun W hW => by obtain ⟨h0, h1, h2, h3, h4, h5, h6⟩ := hW; go_simp) aH0 ?_
  simp only [Act.put, List.setIfInBounds_toArray, List.set_cons_zero, List.set_cons_succ]
  refine hr_take_w 8 (some 19) (.int .i64 (lev x.k)) rfl rfl (by kernel_rfl) (by kernel_rfl) (by kernel_rfl) rfl (fun W hW => by obtain ⟨h0, h1, h2, h3, h4, h5, h6⟩ := hW; go_simp) aH0 ?_
  simp only [Act.put, List.setIfInBounds_toArray, List.set_cons_zero, List.set_cons_succ]
  refine hr_take_w 9 (some 20) (.bool true) rfl rfl (by kernel_rfl) (by kernel_rfl) (by kernel_rfl) rfl (fun W hW => by obtain ⟨h0, h1, h2, h3, h4, h5, h6⟩ := hW; go_simp) aH0 ?_
  simp only [Act.put, List.setIfInBounds_toArray, List.set_cons_zero, List.set_cons_succ]
  refine hr_take_w 10 (some 21) (.bool true) rfl rfl (by kernel_rfl) (by kernel_rfl) (by kernel_rfl) rfl (fun W hW => by obtain ⟨h0, h1, h2, h3, h4, h5, h6⟩ := hW; go_simp) aH0 ?_
  simp only [Act.put, List.setIfInBounds_toArray, List.set_cons_zero, List.set_cons_succ]
  refine wpAnyH_done (by kernel_rfl) ?_ _
  refine NoPanic.normal ?_
  have Ba : Below w.heap.size w av0 := B0.trans (aE0.mono B0.size)
  have La := L0.below aE0
  have lc0 := La.c0
  have lc1 := La.c1
  have lc2 := La.c2
  have CC := cut_fuel l.length av0 (.pointer (some ⟨d.b, 0, none⟩)) l xo xn xc x.k (Nat.le_refl _) (hT.below Ba) hs hk (hx.below Ba) hn
  go_wp2_with fail
  refine CC.mono ?_
  rintro e w1 ⟨u1, u2, rfl, T1, T2, B1'⟩
  have B1 : Below w.heap.size w w1 := Ba.trans (B1'.mono Ba.size)
  have L1 := La.below B1'
  have lc0 := L1.c0
  have lc1 := L1.c1
  have lc2 := (L1.below ((Below.refl _ w1).alloc (Nat.le_refl _) (.cells #[.slice xo xn xc] 40))).c2
  obtain ⟨p1, rfl⟩ := T1.ptr
  obtain ⟨p2, rfl⟩ := T2.ptr
  have TT := leafN x xo yo xn xc yn yc l w1 p1 p2 (hx.below B1) (hy.below B1) T1 T2 hlow
  have BB := leafNB xo yo xn xc yn yc w1 p1 p2 (lev x.k)
  clear CC T1 T2 B1' hT
  go_wp2
  go_ret
  exact ⟨_, rfl, TT, B1.trans (BB.mono B1.size)⟩
end Go.Proofs.YthlpccajnmkbjaaGreatDoor

namespace Go.Proofs.YthlpccajnmkbjaaGreatDoor
open Go.RowKit

theorem with_fuel : ∀ (N : Nat) (l : List It) (w : World) (v : Value) (x : It) (xo yo : Option Addr) (xn xc yn yc : Nat), l.length ≤ N → Sl w xo xn xc x.k → Sl w yo yn yc x.v → T w v l → Srt l → l.length ≤ 100000 →
    Calls Tryz.prog 147 #[v, .agg #[.int .i64 (lev x.k), .slice xo xn xc, .slice yo yn yc]] w (RetT w (ins l x)) := by
  intro N
  induction N with
  | zero =>
    intro l w v x xo yo xn xc yn yc hN hx hy hT hs hn
    rcases hT.is with ⟨rfl, rfl⟩ | ⟨d, segs, xs, rfl, h⟩
    · exact withO_any w x xo yo xn xc yn yc hx hy
    · have h1 := h.shp.pos
      have h2 := h.many
      omega
  | succ N ih =>
    intro l w v x xo yo xn xc yn yc hN hx hy hT hs hn
    rcases hT.is with ⟨rfl, rfl⟩ | ⟨d, segs, xs, rfl, h⟩
    · exact withO_any w x xo yo xn xc yn yc hx hy
    · rcases Nat.lt_trichotomy d.L (lev x.k) with hL | hL | hL
      · exact withN_any w x xo yo xn xc yn yc hx hy l d segs xs h hs hn hL
      · by_cases hk : has x.k l
        · obtain ⟨y, hy1, hy2⟩ := hk
          have hyx : y ∈ xs := by
            rw [h.shp.eq] at hy1
            rcases mem_weave _ _ _ hy1 with h1 | ⟨s, hs1, h1⟩
            · exact h1
            · have := h.shp.low s hs1 y h1
              rw [hy2] at this
              omega
          exact withV_any w x xo yo xn xc yn yc hx hy l d segs xs h hs hn hL ⟨y, hyx, hy2⟩
        · exact withM_any w x xo yo xn xc yn yc hx hy l d segs xs h hs hn hL hk
      · exact withK_any w x xo yo xn xc yn yc hx l d segs xs h hs hn hL (fun V u s hlt hV hu hss => ih s V u x xo yo xn xc yn yc (by omega) (hx.below hV) (hy.below hV) hu hss (by omega))
/-- tree.with, of whatever tree. -/
theorem with_any (w : World) (v : Value) (l : List It) (x : It) (xo yo : Option Addr) (xn xc yn yc : Nat) (hx : Sl w xo xn xc x.k) (hy : Sl w yo yn yc x.v) (hT : T w v l) (hs : Srt l) (hn : l.length ≤ 100000) :
    Calls Tryz.prog 147 #[v, .agg #[.int .i64 (lev x.k), .slice xo xn xc, .slice yo yn yc]] w (RetT w (ins l x)) := with_fuel l.length l w v x xo yo xn xc yn yc (Nat.le_refl _) hx hy hT hs hn
end Go.Proofs.YthlpccajnmkbjaaGreatDoor
