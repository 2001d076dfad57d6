/-
  TabletItems.
-/
import Derived.Test.YtnicnfjickknjaaGreatDoorTabletItemsZ9
import Derived.Test.YtnicnfjickknjaaGreatDoorTabletItemsZ11
import Derived.Test.YtnicnfjickknjaaGreatDoorTabletItemsZ12
import Derived.Test.YtnicnfjickknjaaGreatDoorTabletItemsZ13
import Derived.Test.YtnicnfjickknjaaGreatDoorTabletItemsZ6
namespace Go.Proofs.YtnicnfjickknjaaGreatDoor
open Go.RowKit

set_option maxHeartbeats 1000000 in
set_option maxRecDepth 100000 in
theorem rsame10_any (w : World) (ao bo : Option Addr) (n cap cap2 : Nat) (l l2 : List CA) (L : CL w ao n cap l) (L2 : CL w bo n cap2 l2) (hl : l.map CA.c = l2.map CA.c) (hn : n ≤ 1000) :
    Calls Tryz.prog 15 #[.slice ao n cap, .slice bo n cap2] w fun x w' => x = .returned (.bool true) ∧ Below w.heap.size w w' := by
  have CR := rresults_any w 0 ao bo n cap cap2 l l2 false L L2 hl hn
  unfold resV at CR
  go_enter Tryz.func15, Tryz.ntmps15
  go_wp2_with fail
  refine CR.mono ?_
  rintro e w2 ⟨rfl, C2⟩
  go_wp2
  go_ret
  exact ⟨rfl, C2⟩

set_option maxHeartbeats 4000000 in
set_option maxRecDepth 100000 in
theorem tabletItems_any (W : World) (c : CA) (xk xv : List Int) (ko vo : Option Addr) (kn kc vn vc : Nat) (hc : c.ok W) (hsm : c.small) (hk : Sl W ko kn kc xk) (hv : Sl W vo vn vc xv) (hTb : Tabs W) :
    Calls Tryz.prog 3 #[.agg #[.string c.row, .string c.fam, .string c.qual, .int .u64 c.time, .slice c.va.ao c.va.n c.va.cap, .bool c.gone], .agg #[.slice ko kn kc, .slice vo vn vc]] W fun e w' => e = .returned (.bool true) ∧ Below W.heap.size W w' := by
  have t2 := hTb.two
  have AL := fun (V : World) (hV : Below W.heap.size W V) => alive10 V (hTb.below hV t2)
  have HAL : Hid (∀ (V : World) (hV : Below W.heap.size W V), Calls Tryz.prog 9 #[] V fun e w' => e = .returned (.bool true) ∧ Below V.heap.size V w') := AL
  obtain ⟨W1, hW1⟩ : ∃ V, V = W.alloc (.cells #[.string c.row, .string c.fam, .string c.qual, .int .u64 c.time, .slice c.va.ao c.va.n c.va.cap, .bool c.gone] 27) := ⟨_, rfl⟩
  obtain ⟨W2, hW2⟩ : ∃ V, V = W1.alloc (.cells #[.slice ko kn kc, .slice vo vn vc] 29) := ⟨_, rfl⟩
  obtain ⟨W3, hW3⟩ : ∃ V, V = W2.alloc (.cells #[.string c.row, .string c.fam, .string c.qual, .int .u64 c.time, .slice c.va.ao c.va.n c.va.cap, .bool c.gone] 27) := ⟨_, rfl⟩
  have C1 : Below W.heap.size W W1 := by rw [hW1]; exact (Below.refl _ _).alloc (Nat.le_refl _) _
  have C2 : Below W1.heap.size W1 W2 := by rw [hW2]; exact (Below.refl _ _).alloc (Nat.le_refl _) _
  have C3 : Below W2.heap.size W2 W3 := by rw [hW3]; exact (Below.refl _ _).alloc (Nat.le_refl _) _
  have s1 : W1.heap.size = W.heap.size + 1 := by rw [hW1]; exact Array.size_push ..
  have s2 : W2.heap.size = W.heap.size + 2 := by rw [hW2]; exact (Array.size_push ..).trans (by rw [s1])
  have A1 : Arr W1 W.heap.size 27 (#[.string c.row, .string c.fam, .string c.qual, .int .u64 c.time, .slice c.va.ao c.va.n c.va.cap, .bool c.gone]).toList := by rw [hW1]; exact heap_alloc_new W _
  have A3 := arr_below (arr_below A1 C2) C3
  have X2 : Arr W2 (W.heap.size + 1) 29 [.slice ko kn kc, .slice vo vn vc] := by rw [hW2, ← s1]; exact heap_alloc_new W1 _
  have X3 := arr_below X2 C3
  have B3 : Below W.heap.size W W3 := (C1.trans (C2.mono C1.size)).trans (C3.mono (by omega))
  have L3 : CL W3 (some ⟨W.heap.size + 2, 0, none⟩) 1 1 [c] := by
    rw [← s2, hW3]
    exact CL.one W2 c (by rw [← hW3]; exact hc.below B3)
  have CC := lcells_any W3 _ 1 1 [c] 1 L3 (fun d hd => by rw [List.mem_singleton.1 hd]; exact hsm)
  obtain ⟨lb, hlb⟩ : ∃ b, b = cellsB [c] 1 := ⟨_, rfl⟩
  have HLB : Hid (lb = cellsB [c] 1) := hlb
  rw [← hlb] at CC
  clear AL hlb A1 X2 L3 C1 C2 C3 s1
  go_enter Tryz.func3, Tryz.ntmps3
  go_wp2_with fail
  rw [← hW1, ← hW2, ← hW3]
  clear hW1 hW2 hW3 s2
  refine CC.mono ?_
  rintro e w4 ⟨rfl, C4⟩
  have B4 := B3.trans (C4.mono B3.size)
  have A4 := arr_below A3 C4
  have X4 := arr_below X3 C4
  have AV := HAL.out w4 B4
  clear CC A3 X3 C4
  have q0 : w4.cell? ⟨W.heap.size, 0, none⟩ = some (.string c.row) := A4.cell 0
  have q1 : w4.cell? ⟨W.heap.size, 1, none⟩ = some (.string c.fam) := A4.cell 1
  have q2 : w4.cell? ⟨W.heap.size, 2, none⟩ = some (.string c.qual) := A4.cell 2
  have q3 : w4.cell? ⟨W.heap.size, 3, none⟩ = some (.int .u64 c.time) := A4.cell 3
  have q4 : w4.cell? ⟨W.heap.size, 4, none⟩ = some (.slice c.va.ao c.va.n c.va.cap) := A4.cell 4
  have q5 : w4.cell? ⟨W.heap.size, 5, none⟩ = some (.bool c.gone) := A4.cell 5
  have y0 : w4.cell? ⟨W.heap.size + 1, 0, none⟩ = some (.slice ko kn kc) := X4.cell 0
  have y1 : w4.cell? ⟨W.heap.size + 1, 1, none⟩ = some (.slice vo vn vc) := X4.cell 1
  cases lb with
  | false =>
    go_wp2_with fail
    refine AV.mono ?_
    rintro e w9 ⟨rfl, C9⟩
    go_wp2
    go_ret
    exact ⟨rfl, B4.trans (C9.mono B4.size)⟩
  | true =>
  by_cases g1 : kn ≤ 300
  case neg =>
    have i1 : (300 : Int) < (kn : Int) := by omega
    go_wp2_with fail
    refine AV.mono ?_
    rintro e w9 ⟨rfl, C9⟩
    go_wp2
    go_ret
    exact ⟨rfl, B4.trans (C9.mono B4.size)⟩
  have i1 : (kn : Int) ≤ 300 := by omega
  by_cases g2 : vn ≤ 500
  case neg =>
    have i2 : (500 : Int) < (vn : Int) := by omega
    go_wp2_with fail
    refine AV.mono ?_
    rintro e w9 ⟨rfl, C9⟩
    go_wp2
    go_ret
    exact ⟨rfl, B4.trans (C9.mono B4.size)⟩
  have i2 : (vn : Int) ≤ 500 := by omega
  have hcn : c.va.n ≤ 100000 := by
    have h1 := HLB.out.symm
    simp only [cellsB, Bool.and_eq_true] at h1
    have h2 := List.all_eq_true.1 h1.2 c (List.mem_singleton.2 rfl)
    have h3 := of_decide_eq_true h2
    omega
  clear AV
  go_wp2_with fail
  have zE0 : Below w4.heap.size w4 w4.drew := (Below.refl _ _).drew
  refine wp_region_noPanic ?_
  refine wp_region_held_drew (S := fun _ => True) (by kernel_rfl) trivial (fun _ => ?_)
  obtain ⟨zv0, hv0⟩ : ∃ v, v = w4.drew := ⟨_, rfl⟩
  rw [← hv0] at zE0 ⊢
  clear hv0
  refine wpAnyH_effto 2 (fun zi zv zw => (zi = 0 → zv = .agg #[.string c.row, .string c.fam, .string c.qual, .int .u64 c.time, .slice c.va.ao c.va.n c.va.cap, .bool c.gone]) ∧ (zi = 1 → ∃ a1 a2 a3 a4 a5 a6, zv = .agg #[.slice a1 a2 a3, .slice a4 a5 a6] ∧ Sl zw a1 a2 a3 (itK c) ∧ Sl zw a4 a5 a6 (itV c.c)) ∧ (zi = 2 → zv = .agg #[.string c.row, .string c.fam, .string c.qual, .int .u64 c.time, .slice c.va.ao c.va.n c.va.cap, .bool c.gone]) ∧ (zi = 3 → ∃ a1 a2 a3 a4 a5 a6, zv = .agg #[.slice a1 a2 a3, .slice a4 a5 a6] ∧ Sl zw a1 a2 a3 (itK c) ∧ Sl zw a4 a5 a6 (itV c.c)) ∧ (zi = 4 → ∃ g, zv = .pointer (some ⟨g, 0, none⟩) ∧ Arr zw g 29 [.slice none 0 0, .slice none 0 0] ∧ w4.heap.size ≤ g) ∧ (zi = 5 → ∃ g, zv = .pointer (some ⟨g, 0, none⟩) ∧ Arr zw g 29 [.slice none 0 0, .slice none 0 0] ∧ w4.heap.size ≤ g)) [(0, 28), (1, 29), (2, 30), (3, 31), (4, 5), (5, 6)] 62 (by kernel_rfl) (by decide) (by decide) rfl ?_ (fun _ _ => trivial) ?_ ?_
  · intro zi v w w' h hb
    refine ⟨fun e => ?_, fun e => ?_, fun e => ?_, fun e => ?_, fun e => ?_, fun e => ?_⟩
    · have h := h.1 e
      exact h
    · have h := h.2.1 e
      obtain ⟨a1, a2, a3, a4, a5, a6, h1, h2, h3⟩ := h
      exact ⟨a1, a2, a3, a4, a5, a6, h1, h2.below hb, h3.below hb⟩
    · have h := h.2.2.1 e
      exact h
    · have h := h.2.2.2.1 e
      obtain ⟨a1, a2, a3, a4, a5, a6, h1, h2, h3⟩ := h
      exact ⟨a1, a2, a3, a4, a5, a6, h1, h2.below hb, h3.below hb⟩
    · have h := h.2.2.2.2.1 e
      obtain ⟨g, h1, h2, h3⟩ := h
      exact ⟨g, h1, arr_below h2 hb, h3⟩
    · have h := h.2.2.2.2.2 e
      obtain ⟨g, h1, h2, h3⟩ := h
      exact ⟨g, h1, arr_below h2 hb, h3⟩
  · intro zp zhi o a w ho hs hb hdep
    have zEB := zE0.trans (hb.mono zE0.size)
    simp only [List.mem_cons, List.not_mem_nil, or_false] at zhi
    rcases zhi with rfl | rfl | rfl | rfl | rfl | rfl
    · obtain rfl : _ = o := Option.some.inj (show some _ = some o from ho)
      have t2 : a.tmps[2]? = some (.pointer (some ⟨W.heap.size, 0, none⟩)) := hs.get 2 (by kernel_rfl) rfl
      have l0 := (zEB.cell (World.block_lt_of_cell? _ _ q0)).trans q0
      have l1 := (zEB.cell (World.block_lt_of_cell? _ _ q1)).trans q1
      have l2 := (zEB.cell (World.block_lt_of_cell? _ _ q2)).trans q2
      have l3 := (zEB.cell (World.block_lt_of_cell? _ _ q3)).trans q3
      have l4 := (zEB.cell (World.block_lt_of_cell? _ _ q4)).trans q4
      have l5 := (zEB.cell (World.block_lt_of_cell? _ _ q5)).trans q5
      exact .inl ⟨.agg #[.string c.row, .string c.fam, .string c.qual, .int .u64 c.time, .slice c.va.ao c.va.n c.va.cap, .bool c.gone], w, by go_simp, ⟨fun _ => rfl, fun e => absurd e (by decide), fun e => absurd e (by decide), fun e => absurd e (by decide), fun e => absurd e (by decide), fun e => absurd e (by decide)⟩, Below.refl _ _⟩
    · obtain rfl : _ = o := Option.some.inj (show some _ = some o from ho)
      obtain ⟨x28, t28, f28⟩ := (hdep 0 (by kernel_rfl)).at 28 (by kernel_rfl)
      replace f28 := f28.1 rfl
      subst f28
      refine .inr ⟨10, #[.agg #[.string c.row, .string c.fam, .string c.qual, .int .u64 c.time, .slice c.va.ao c.va.n c.va.cap, .bool c.gone]], by go_simp, (titem_any w c (hc.below (B4.trans (zEB.mono B4.size))) hcn).mono ?_⟩
      rintro e w' ⟨a1, a2, a3, a4, a5, a6, rfl, S1, S2, C⟩
      exact ⟨_, rfl, ⟨fun e => absurd e (by decide), fun _ => ⟨a1, a2, a3, a4, a5, a6, rfl, S1, S2⟩, fun e => absurd e (by decide), fun e => absurd e (by decide), fun e => absurd e (by decide), fun e => absurd e (by decide)⟩, C⟩
    · obtain rfl : _ = o := Option.some.inj (show some _ = some o from ho)
      have t2 : a.tmps[2]? = some (.pointer (some ⟨W.heap.size, 0, none⟩)) := hs.get 2 (by kernel_rfl) rfl
      have l0 := (zEB.cell (World.block_lt_of_cell? _ _ q0)).trans q0
      have l1 := (zEB.cell (World.block_lt_of_cell? _ _ q1)).trans q1
      have l2 := (zEB.cell (World.block_lt_of_cell? _ _ q2)).trans q2
      have l3 := (zEB.cell (World.block_lt_of_cell? _ _ q3)).trans q3
      have l4 := (zEB.cell (World.block_lt_of_cell? _ _ q4)).trans q4
      have l5 := (zEB.cell (World.block_lt_of_cell? _ _ q5)).trans q5
      exact .inl ⟨.agg #[.string c.row, .string c.fam, .string c.qual, .int .u64 c.time, .slice c.va.ao c.va.n c.va.cap, .bool c.gone], w, by go_simp, ⟨fun e => absurd e (by decide), fun e => absurd e (by decide), fun _ => rfl, fun e => absurd e (by decide), fun e => absurd e (by decide), fun e => absurd e (by decide)⟩, Below.refl _ _⟩
    · obtain rfl : _ = o := Option.some.inj (show some _ = some o from ho)
      obtain ⟨x30, t30, f30⟩ := (hdep 2 (by kernel_rfl)).at 30 (by kernel_rfl)
      replace f30 := f30.2.2.1 rfl
      subst f30
      refine .inr ⟨11, #[.agg #[.string c.row, .string c.fam, .string c.qual, .int .u64 c.time, .slice c.va.ao c.va.n c.va.cap, .bool c.gone]], by go_simp, (ritem10_any w c (hc.below (B4.trans (zEB.mono B4.size))) hcn).mono ?_⟩
      rintro e w' ⟨a1, a2, a3, a4, a5, a6, rfl, S1, S2, C⟩
      exact ⟨_, rfl, ⟨fun e => absurd e (by decide), fun e => absurd e (by decide), fun e => absurd e (by decide), fun _ => ⟨a1, a2, a3, a4, a5, a6, rfl, S1, S2⟩, fun e => absurd e (by decide), fun e => absurd e (by decide)⟩, C⟩
    · obtain rfl : _ = o := Option.some.inj (show some _ = some o from ho)
      have CA : Below w.heap.size w (w.alloc (.cells #[.slice none 0 0, .slice none 0 0] 29)) := (Below.refl _ _).alloc (Nat.le_refl _) _
      exact .inl ⟨_, _, by go_simp, ⟨fun e => absurd e (by decide), fun e => absurd e (by decide), fun e => absurd e (by decide), fun e => absurd e (by decide), fun _ => ⟨_, rfl, heap_alloc_new w _, zEB.size⟩, fun e => absurd e (by decide)⟩, CA⟩
    · obtain rfl : _ = o := Option.some.inj (show some _ = some o from ho)
      have CA : Below w.heap.size w (w.alloc (.cells #[.slice none 0 0, .slice none 0 0] 29)) := (Below.refl _ _).alloc (Nat.le_refl _) _
      exact .inl ⟨_, _, by go_simp, ⟨fun e => absurd e (by decide), fun e => absurd e (by decide), fun e => absurd e (by decide), fun e => absurd e (by decide), fun e => absurd e (by decide), fun _ => ⟨_, rfl, heap_alloc_new w _, zEB.size⟩⟩, CA⟩
  intro zf zv1 hb hh
  have zE1 := zE0.trans (hb.mono zE0.size)
  obtain e0 := (hh (0, 28) (by simp)).1 rfl
  obtain ⟨a1, a2, a3, a4, a5, a6, e1, SA1, SA2⟩ := (hh (1, 29) (by simp)).2.1 rfl
  obtain e2 := (hh (2, 30) (by simp)).2.2.1 rfl
  obtain ⟨b1, b2, b3, b4, b5, b6, e3, SB1, SB2⟩ := (hh (3, 31) (by simp)).2.2.2.1 rfl
  obtain ⟨g4, e4, RA, hg4⟩ := (hh (4, 5) (by simp)).2.2.2.2.1 rfl
  obtain ⟨g5, e5, RB, hg5⟩ := (hh (5, 6) (by simp)).2.2.2.2.2 rfl
  clear hh hb
  simp only [putL, List.foldl_cons, List.foldl_nil, e0, e1, e2, e3, e4, e5]
  clear e0 e1 e2 e3 e4 e5
  simp only [Act.put, List.setIfInBounds_toArray, List.set_cons_zero, List.set_cons_succ]
  have r0 : zv1.cell? ⟨g4, 0, none⟩ = some (.slice none 0 0) := RA.cell 0
  have r1 : zv1.cell? ⟨g4, 1, none⟩ = some (.slice none 0 0) := RA.cell 1
  have f0 := RA.free 0
  have f1 := RA.free 1
  refine hr_skip 6 none (w' := (zv1.setCell ⟨g4, 0, none⟩ (.slice a1 a2 a3)).setCell ⟨g4, 1, none⟩ (.slice a4 a5 a6)) rfl rfl (by kernel_rfl) rfl (by go_simp) trivial ?_
  simp only [Act.put]
  clear r0 r1 f0 f1
  obtain ⟨w6, hw6⟩ : ∃ V, V = (zv1.setCell ⟨g4, 0, none⟩ (.slice a1 a2 a3)).setCell ⟨g4, 1, none⟩ (.slice a4 a5 a6) := ⟨_, rfl⟩
  have K6 : Wr g4 zv1 w6 := by rw [hw6]; exact ((Wr.refl _ _).set 0 _).set 1 _
  have RA6 : Arr w6 g4 29 [.slice a1 a2 a3, .slice a4 a5 a6] := by rw [hw6]; exact (RA.set 0 _).set 1 _
  have HA6 : Hid (Sl w6 a1 a2 a3 (itK c) ∧ Sl w6 a4 a5 a6 (itV c.c) ∧ Sl w6 b1 b2 b3 (itK c) ∧ Sl w6 b4 b5 b6 (itV c.c)) := ⟨SA1.wr RA (by simp) K6, SA2.wr RA (by simp) K6, SB1.wr RA (by simp) K6, SB2.wr RA (by simp) K6⟩
  obtain ⟨z1, z2, z3, z4, z5, z6, RB6⟩ : ∃ z1 z2 z3 z4 z5 z6, Arr w6 g5 29 [.slice z1 z2 z3, .slice z4 z5 z6] := by
    by_cases e : g5 = g4
    · rw [e]; exact ⟨_, _, _, _, _, _, RA6⟩
    · exact ⟨_, _, _, _, _, _, (K6.block g5 RB.lt e).trans RB⟩
  have B6' : Below w4.heap.size w4 w6 := Wr.below zE1 K6 zE1.size hg4
  rw [← hw6]
  clear hw6
  have r0 : w6.cell? ⟨g5, 0, none⟩ = some (.slice z1 z2 z3) := RB6.cell 0
  have r1 : w6.cell? ⟨g5, 1, none⟩ = some (.slice z4 z5 z6) := RB6.cell 1
  have f0 := RB6.free 0
  have f1 := RB6.free 1
  refine hr_skip 7 none (w' := (w6.setCell ⟨g5, 0, none⟩ (.slice b1 b2 b3)).setCell ⟨g5, 1, none⟩ (.slice b4 b5 b6)) rfl rfl (by kernel_rfl) rfl (by go_simp) trivial ?_
  simp only [Act.put]
  refine wpAnyH_done (by kernel_rfl) ?_ _
  refine NoPanic.normal ?_
  obtain ⟨w7, hw7⟩ : ∃ V, V = (w6.setCell ⟨g5, 0, none⟩ (.slice b1 b2 b3)).setCell ⟨g5, 1, none⟩ (.slice b4 b5 b6) := ⟨_, rfl⟩
  have K7 : Wr g5 w6 w7 := by rw [hw7]; exact ((Wr.refl _ _).set 0 _).set 1 _
  have RB7 : Arr w7 g5 29 [.slice b1 b2 b3, .slice b4 b5 b6] := by rw [hw7]; exact (RB6.set 0 _).set 1 _
  have SB1 := HA6.out.2.2.1.wr RB6 (by simp) K7
  have SB2 := HA6.out.2.2.2.wr RB6 (by simp) K7
  have HF : Hid (∃ d1 d2 d3 d4 d5 d6, Arr w7 g4 29 [.slice d1 d2 d3, .slice d4 d5 d6] ∧ Sl w7 d1 d2 d3 (itK c) ∧ Sl w7 d4 d5 d6 (itV c.c)) := by
    by_cases e : g4 = g5
    · rw [e]; exact ⟨_, _, _, _, _, _, RB7, SB1, SB2⟩
    · exact ⟨_, _, _, _, _, _, (K7.block g4 RA6.lt e).trans RA6, HA6.out.1.wr RB6 (by simp) K7, HA6.out.2.1.wr RB6 (by simp) K7⟩
  have B7' : Below w4.heap.size w4 w7 := Wr.below B6' K7 B6'.size hg5
  have B7 := B4.trans (B7'.mono B4.size)
  rw [← hw7]
  clear hw7 r0 r1 f0 f1 K6 K7 RA RB RA6 RB6 HA6 SA1 SA2 B6' zE0 zE1
  obtain ⟨d1, d2, d3, d4, d5, d6, RA7, SA1, SA2⟩ := HF.out
  clear HF
  have A7 := arr_below A4 B7'
  have X7 := arr_below X4 B7'
  clear q0 q1 q2 q3 q4 q5 y0 y1 A4 X4
  have y0 : w7.cell? ⟨W.heap.size + 1, 0, none⟩ = some (.slice ko kn kc) := X7.cell 0
  have y1 : w7.cell? ⟨W.heap.size + 1, 1, none⟩ = some (.slice vo vn vc) := X7.cell 1
  have CE := tcell_any w7 ⟨xk, xv⟩ ko vo kn kc vn vc (hk.below B7) (hv.below B7) (by omega) (by omega)
  go_wp2_with fail
  refine CE.mono ?_
  rintro e w8 ⟨c1, kd1, rfl, CA1, ok1, -, C8⟩
  unfold CA.val
  clear CE y0 y1
  obtain ⟨W9, hW9⟩ : ∃ V, V = w8.alloc (.cells #[.string c1.row, .string c1.fam, .string c1.qual, .int .u64 c1.time, .slice c1.va.ao c1.va.n c1.va.cap, .bool c1.gone] 27) := ⟨_, rfl⟩
  have C9 : Below w8.heap.size w8 W9 := by rw [hW9]; exact (Below.refl _ _).alloc (Nat.le_refl _) _
  have D9 : Arr W9 w8.heap.size 27 (#[.string c1.row, .string c1.fam, .string c1.qual, .int .u64 c1.time, .slice c1.va.ao c1.va.n c1.va.cap, .bool c1.gone]).toList := by rw [hW9]; exact heap_alloc_new w8 _
  have C79 := C8.trans (C9.mono C8.size)
  have B9 := B7.trans (C79.mono B7.size)
  have X9 := arr_below X7 C79
  have ok1 := ok1.below C9
  have y0 : (w8.alloc (.cells #[.string c1.row, .string c1.fam, .string c1.qual, .int .u64 c1.time, .slice c1.va.ao c1.va.n c1.va.cap, .bool c1.gone] 27)).cell? ⟨W.heap.size + 1, 0, none⟩ = some (.slice ko kn kc) := by rw [← hW9]; exact X9.cell 0
  have y1 : (w8.alloc (.cells #[.string c1.row, .string c1.fam, .string c1.qual, .int .u64 c1.time, .slice c1.va.ao c1.va.n c1.va.cap, .bool c1.gone] 27)).cell? ⟨W.heap.size + 1, 1, none⟩ = some (.slice vo vn vc) := by rw [← hW9]; exact X9.cell 1
  have CE := rcell10_any W9 ⟨xk, xv⟩ ko vo kn kc vn vc (hk.below B9) (hv.below B9) (by omega) (by omega)
  go_wp2_with fail
  rw [← hW9]
  clear hW9 y0 y1
  refine CE.mono ?_
  rintro e w10 ⟨c2, kd2, rfl, CA2, ok2, C10⟩
  obtain ⟨hcc, rfl⟩ := CA1.unique CA2
  have HCC : Hid (c1.c = c2.c) := hcc
  unfold CA.val
  clear CE CA1 CA2 hcc
  obtain ⟨W11, hW11⟩ : ∃ V, V = w10.alloc (.cells #[.string c2.row, .string c2.fam, .string c2.qual, .int .u64 c2.time, .slice c2.va.ao c2.va.n c2.va.cap, .bool c2.gone] 27) := ⟨_, rfl⟩
  have C11 : Below w10.heap.size w10 W11 := by rw [hW11]; exact (Below.refl _ _).alloc (Nat.le_refl _) _
  have E11 : Arr W11 w10.heap.size 27 (#[.string c2.row, .string c2.fam, .string c2.qual, .int .u64 c2.time, .slice c2.va.ao c2.va.n c2.va.cap, .bool c2.gone]).toList := by rw [hW11]; exact heap_alloc_new w10 _
  have C911 := C10.trans (C11.mono C10.size)
  have B11 := B9.trans (C911.mono B9.size)
  have D11 := arr_below D9 C911
  have ok1 := ok1.below C911
  have ok2 := ok2.below C11
  have C711 := C79.trans (C911.mono C79.size)
  have RA11 := arr_below RA7 C711
  have RB11 := arr_below RB7 C711
  have SA1 := SA1.below C711
  have SA2 := SA2.below C711
  have SB1 := SB1.below C711
  have SB2 := SB2.below C711
  clear RA7 RB7 D9 C79 C911 C711 C8 C9 C10 C11 X7 X9 A7
  obtain ⟨W12, hW12⟩ : ∃ V, V = W11.alloc (.cells #[.slice d1 d2 d3, .slice d4 d5 d6] 29) := ⟨_, rfl⟩
  obtain ⟨W13, hW13⟩ : ∃ V, V = W12.alloc (.cells #[.slice b1 b2 b3, .slice b4 b5 b6] 29) := ⟨_, rfl⟩
  have C12 : Below W11.heap.size W11 W12 := by rw [hW12]; exact (Below.refl _ _).alloc (Nat.le_refl _) _
  have C13 : Below W12.heap.size W12 W13 := by rw [hW13]; exact (Below.refl _ _).alloc (Nat.le_refl _) _
  have s11 : W11.heap.size = w10.heap.size + 1 := by rw [hW11]; exact Array.size_push ..
  have s12 : W12.heap.size = w10.heap.size + 1 + 1 := by rw [hW12]; exact (Array.size_push ..).trans (by rw [s11])
  have IA : IL W12 (some ⟨w10.heap.size + 1, 0, none⟩) 1 1 [⟨⟨d1, d2, d3, itK c⟩, ⟨d4, d5, d6, itV c.c⟩⟩] := by rw [hW12, ← s11]; exact IL.one W11 ⟨⟨d1, d2, d3, itK c⟩, ⟨d4, d5, d6, itV c.c⟩⟩ ⟨SA1, SA2⟩ _
  have IB : IL W13 (some ⟨w10.heap.size + 1 + 1, 0, none⟩) 1 1 [⟨⟨b1, b2, b3, itK c⟩, ⟨b4, b5, b6, itV c.c⟩⟩] := by rw [hW13, ← s12]; exact IL.one W12 ⟨⟨b1, b2, b3, itK c⟩, ⟨b4, b5, b6, itV c.c⟩⟩ ⟨SB1.below C12, SB2.below C12⟩ _
  have CS := rsame7_any W13 _ _ 1 1 1 1 _ _ (IA.below C13) IB
  rw [show smI [⟨⟨d1, d2, d3, itK c⟩, ⟨d4, d5, d6, itV c.c⟩⟩] [⟨⟨b1, b2, b3, itK c⟩, ⟨b4, b5, b6, itV c.c⟩⟩] = true from decide_eq_true rfl] at CS
  have p0 : (w10.alloc (.cells #[.string c2.row, .string c2.fam, .string c2.qual, .int .u64 c2.time, .slice c2.va.ao c2.va.n c2.va.cap, .bool c2.gone] 27)).cell? ⟨g4, 0, none⟩ = some (.slice d1 d2 d3) := by rw [← hW11]; exact RA11.cell 0
  have p1 : (w10.alloc (.cells #[.string c2.row, .string c2.fam, .string c2.qual, .int .u64 c2.time, .slice c2.va.ao c2.va.n c2.va.cap, .bool c2.gone] 27)).cell? ⟨g4, 1, none⟩ = some (.slice d4 d5 d6) := by rw [← hW11]; exact RA11.cell 1
  have RB12 := arr_below RB11 C12
  have p2 : ((w10.alloc (.cells #[.string c2.row, .string c2.fam, .string c2.qual, .int .u64 c2.time, .slice c2.va.ao c2.va.n c2.va.cap, .bool c2.gone] 27)).alloc (.cells #[.slice d1 d2 d3, .slice d4 d5 d6] 29)).cell? ⟨g5, 0, none⟩ = some (.slice b1 b2 b3) := by rw [← hW11, ← hW12]; exact RB12.cell 0
  have p3 : ((w10.alloc (.cells #[.string c2.row, .string c2.fam, .string c2.qual, .int .u64 c2.time, .slice c2.va.ao c2.va.n c2.va.cap, .bool c2.gone] 27)).alloc (.cells #[.slice d1 d2 d3, .slice d4 d5 d6] 29)).cell? ⟨g5, 1, none⟩ = some (.slice b4 b5 b6) := by rw [← hW11, ← hW12]; exact RB12.cell 1
  have C1113 := C12.trans (C13.mono C12.size)
  have B13 := B11.trans (C1113.mono B11.size)
  go_wp2_with fail
  rw [← hW11, ← hW12, ← hW13]
  clear hW11 hW12 hW13 p0 p1 p2 p3 s11 s12 IA IB RB12 RA11 RB11 SA1 SA2 SB1 SB2
  refine CS.mono ?_
  rintro e w14 ⟨rfl, C14⟩
  have B14 := B13.trans (C14.mono B13.size)
  have C1114 := C1113.trans (C14.mono C1113.size)
  have D14 := arr_below D11 C1114
  have E14 := arr_below E11 C1114
  have ok1 := ok1.below C1114
  have ok2 := ok2.below C1114
  clear CS D11 E11 C12 C13 C14 C1113 C1114
  have m0 : w14.cell? ⟨w8.heap.size, 0, none⟩ = some (.string c1.row) := D14.cell 0
  have m1 : w14.cell? ⟨w8.heap.size, 1, none⟩ = some (.string c1.fam) := D14.cell 1
  have m2 : w14.cell? ⟨w8.heap.size, 2, none⟩ = some (.string c1.qual) := D14.cell 2
  have m3 : w14.cell? ⟨w8.heap.size, 3, none⟩ = some (.int .u64 c1.time) := D14.cell 3
  have m4 : w14.cell? ⟨w8.heap.size, 4, none⟩ = some (.slice c1.va.ao c1.va.n c1.va.cap) := D14.cell 4
  have m5 : w14.cell? ⟨w8.heap.size, 5, none⟩ = some (.bool c1.gone) := D14.cell 5
  obtain ⟨W15, hW15⟩ : ∃ V, V = w14.alloc (.cells #[.string c1.row, .string c1.fam, .string c1.qual, .int .u64 c1.time, .slice c1.va.ao c1.va.n c1.va.cap, .bool c1.gone] 27) := ⟨_, rfl⟩
  obtain ⟨W16, hW16⟩ : ∃ V, V = W15.alloc (.cells #[.string c2.row, .string c2.fam, .string c2.qual, .int .u64 c2.time, .slice c2.va.ao c2.va.n c2.va.cap, .bool c2.gone] 27) := ⟨_, rfl⟩
  have C15 : Below w14.heap.size w14 W15 := by rw [hW15]; exact (Below.refl _ _).alloc (Nat.le_refl _) _
  have C16 : Below W15.heap.size W15 W16 := by rw [hW16]; exact (Below.refl _ _).alloc (Nat.le_refl _) _
  have s15 : W15.heap.size = w14.heap.size + 1 := by rw [hW15]; exact Array.size_push ..
  have E15 := arr_below E14 C15
  have n0 : (w14.alloc (.cells #[.string c1.row, .string c1.fam, .string c1.qual, .int .u64 c1.time, .slice c1.va.ao c1.va.n c1.va.cap, .bool c1.gone] 27)).cell? ⟨w10.heap.size, 0, none⟩ = some (.string c2.row) := by rw [← hW15]; exact E15.cell 0
  have n1 : (w14.alloc (.cells #[.string c1.row, .string c1.fam, .string c1.qual, .int .u64 c1.time, .slice c1.va.ao c1.va.n c1.va.cap, .bool c1.gone] 27)).cell? ⟨w10.heap.size, 1, none⟩ = some (.string c2.fam) := by rw [← hW15]; exact E15.cell 1
  have n2 : (w14.alloc (.cells #[.string c1.row, .string c1.fam, .string c1.qual, .int .u64 c1.time, .slice c1.va.ao c1.va.n c1.va.cap, .bool c1.gone] 27)).cell? ⟨w10.heap.size, 2, none⟩ = some (.string c2.qual) := by rw [← hW15]; exact E15.cell 2
  have n3 : (w14.alloc (.cells #[.string c1.row, .string c1.fam, .string c1.qual, .int .u64 c1.time, .slice c1.va.ao c1.va.n c1.va.cap, .bool c1.gone] 27)).cell? ⟨w10.heap.size, 3, none⟩ = some (.int .u64 c2.time) := by rw [← hW15]; exact E15.cell 3
  have n4 : (w14.alloc (.cells #[.string c1.row, .string c1.fam, .string c1.qual, .int .u64 c1.time, .slice c1.va.ao c1.va.n c1.va.cap, .bool c1.gone] 27)).cell? ⟨w10.heap.size, 4, none⟩ = some (.slice c2.va.ao c2.va.n c2.va.cap) := by rw [← hW15]; exact E15.cell 4
  have n5 : (w14.alloc (.cells #[.string c1.row, .string c1.fam, .string c1.qual, .int .u64 c1.time, .slice c1.va.ao c1.va.n c1.va.cap, .bool c1.gone] 27)).cell? ⟨w10.heap.size, 5, none⟩ = some (.bool c2.gone) := by rw [← hW15]; exact E15.cell 5
  have L15 : CL W15 (some ⟨w14.heap.size, 0, none⟩) 1 1 [c1] := by rw [hW15]; exact CL.one w14 c1 (by rw [← hW15]; exact ok1.below C15)
  have L16 : CL W16 (some ⟨w14.heap.size + 1, 0, none⟩) 1 1 [c2] := by rw [hW16, ← s15]; exact CL.one W15 c2 (by rw [← hW16]; exact (ok2.below C15).below C16)
  have CZ := rsame10_any W16 _ _ 1 1 1 [c1] [c2] (L15.below C16) L16 (by rw [List.map_cons, List.map_cons, HCC.out]) (by omega)
  have B16 := B14.trans ((C15.trans (C16.mono C15.size)).mono B14.size)
  go_wp2_with fail
  rw [← hW15, ← hW16]
  clear hW15 hW16
  refine CZ.mono ?_
  rintro e w17 ⟨rfl, C17⟩
  have B17 := B16.trans (C17.mono B16.size)
  have AV := HAL.out w17 B17
  have hkk : (kd1 == kd1) = true := by simp
  clear m0 m1 m2 m3 m4 m5 n0 n1 n2 n3 n4 n5 CZ
  go_wp2_with fail
  refine AV.mono ?_
  rintro e w18 ⟨rfl, C18⟩
  go_wp2
  go_ret
  exact ⟨rfl, B17.trans (C18.mono B17.size)⟩
end Go.Proofs.YtnicnfjickknjaaGreatDoor
