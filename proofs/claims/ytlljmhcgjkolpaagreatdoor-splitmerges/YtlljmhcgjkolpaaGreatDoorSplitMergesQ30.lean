/-
  Texts in one: SpMergeF, SpMergeR, MergeLaw11, OTypO, OTypC.
-/
import Derived.Test.YtlljmhcgjkolpaaGreatDoorSplitMergesQFL
import Derived.Test.YtlljmhcgjkolpaaGreatDoorSplitMergesQ29
import Derived.Test.YtlljmhcgjkolpaaGreatDoorSplitMergesQ27
import Derived.Test.YtlljmhcgjkolpaaGreatDoorSplitMergesQ22
import Derived.Test.YtlljmhcgjkolpaaGreatDoorSplitMergesQ4
namespace Go.Proofs.YtlljmhcgjkolpaaGreatDoor
open Go.RowKit
theorem join_full {f e t : ByteArray} {n m : Nat} {cs ds : List CV} (h1 : Stand f e n cs) (h2 : Stand e t m ds) (he : e.size ≠ 0) (hk1 : newK f e = 0) (hk2 : newK e t = 0) (l1 : Lim cs) (l2 : Lim ds) (hl : 32 < cs.length + ds.length) : ofK f t (cs ++ ds) = 9 := by
  obtain ⟨h3, h4⟩ := join_stand h1 h2 he hk1 hk2
  have hg : ∀ c ∈ cs ++ ds, notR c = false ∧ wrongV c = false := fun c hc => by
    have g := h3.good c hc
    constructor
    · have h2 : c.ky.isRight = true := by
        rw [KA.isRight_kv]
        exact decide_eq_true g.right
      unfold notR
      rw [h2]
      rfl
    · have g1 := g.val
      unfold wrongV
      rw [decide_eq_false (by omega)]
      cases hg : c.gone with
      | false => rfl
      | true => rw [g.gone hg]; rfl
  rw [ofK_9 h4 (fun c hc => (hg c hc).1) h3.rows (fun c hc => (hg c hc).2) (by have := mostK_le' _ 1 (srt_one h3.srt); omega) (fun h => by
    obtain ⟨c, -, h5⟩ := (many_iff _).2 h
    have := join_col h1 h2 he l1 l2 c.ky
    omega), if_pos (by rw [List.length_append]; exact hl)]
set_option maxHeartbeats 4000000 in
set_option maxRecDepth 100000 in
theorem merge_full (w : World) (p q : Nat) (f e t : ByteArray) (n m : Nat) (cs ds : List CV) (hTb : Tabs w) (h1 : TB w p f e cs) (h2 : TB w q e t ds) (s1 : Stand f e n cs) (s2 : Stand e t m ds) (l1 : Lim cs) (l2 : Lim ds) (he : e.size ≠ 0) (k1 : newK f e = 0) (k2 : newK e t = 0) (hl : 32 < cs.length + ds.length) (hlm : cs.length + ds.length ≤ 100) :
    Calls Tryz.prog 25 #[.pointer (some ⟨p, 0, none⟩), .pointer (some ⟨q, 0, none⟩)] w fun x w' => x = .returned (.tuple #[.pointer none, .int .i64 9]) ∧ Below w.heap.size w w' := by
  have t2 := hTb.two
  obtain ⟨a1, a2, a3⟩ := newK_ok k1
  obtain ⟨b1, b2, b3⟩ := newK_ok k2
  have o1 := join_full s1 s2 he k1 k2 l1 l2 hl
  have CB := tbounds_any w p f e cs h1
  go_enter Tryz.func25, Tryz.ntmps25
  go_wp2_with fail
  refine CB.mono ?_
  rintro x w1 ⟨rfl, C1⟩
  have CB2 := tbounds_any w1 q e t ds (h2.below C1)
  clear CB
  go_wp2_with fail
  refine CB2.mono ?_
  rintro x w2 ⟨rfl, C2⟩
  have B2 := C1.trans (C2.mono C1.size)
  clear CB2
  obtain ⟨eb, heb⟩ : ∃ b, b = decide (e.size ≠ 0) := ⟨_, rfl⟩
  obtain ⟨ee0, ee1, ee2⟩ := empty_facts e eb heb
  obtain rfl : eb = true := by rw [heb]; exact decide_eq_true he
  have hee : (e.toList == e.toList) = true := by simp
  clear heb
  have CE := cells_st w2 p f e cs (h1.below B2) s1.srt s1.good a1 a2 s1.rows (by omega)
  go_wp2_with fail
  refine CE.mono ?_
  rintro x w3 ⟨ao, an, ac, al, rfl, L3, -, hal, C3⟩
  have B3 := B2.trans (C3.mono B2.size)
  clear CE
  have CE := cells_st w3 q e t ds (h2.below B3) s2.srt s2.good b1 b2 s2.rows (by omega)
  go_wp2_with fail
  refine CE.mono ?_
  rintro x w4 ⟨bo, bn, bc, bl, rfl, L4, -, hbl, C4⟩
  have B4 := B3.trans (C4.mono B3.size)
  obtain ⟨w5, hw5⟩ : ∃ V, V = w4.alloc (.cells #[.slice ao an ac, .slice bo bn bc] 31) := ⟨_, rfl⟩
  have C5 : Below w4.heap.size w4 w5 := by rw [hw5]; exact (Below.refl _ _).alloc (Nat.le_refl _) _
  have V5 : VL w5 (some ⟨w4.heap.size, 0, none⟩) 2 2 [.slice ao an ac, .slice bo bn bc] := by rw [hw5]; exact VL.new w4 [.slice ao an ac, .slice bo bn bc] 31 (by simp [maxLen])
  have B5 := B4.trans (C5.mono B4.size)
  have ha : an ≤ 1000 := by
    have h := congrArg List.length hal
    rw [List.length_map, L3.len] at h
    omega
  have hb : bn ≤ 1000 := by
    have h := congrArg List.length hbl
    rw [List.length_map, L4.len] at h
    omega
  have CC := concat_any w5 _ ao bo an bn ac bc al bl V5 ((L3.below C4).below C5) (L4.below C5) ha hb
  rw [hal, hbl] at CC
  clear CE
  go_wp2_with fail
  rw [← hw5]
  clear hw5
  refine CC.mono ?_
  rintro x w6 ⟨co, cn, cc, cl, rfl, L6, hcl, C6⟩
  have B6 := B5.trans (C6.mono B5.size)
  have CO := of_any10 w6 f t co cn cc cl (hTb.below B6 t2) (by omega) (by omega) L6 (by
    have h := congrArg List.length hcl
    rw [List.length_map, L6.len, List.length_append] at h
    omega)
  rw [hcl] at CO
  clear CC
  go_wp2_with fail
  refine CO.mono ?_
  rintro x w7 (⟨h0, -⟩ | ⟨-, rfl, C7⟩)
  · rw [o1] at h0; exact absurd h0 (by decide)
  rw [o1]
  go_wp2
  go_ret2
  exact ⟨rfl, B6.trans (C7.mono B6.size)⟩
set_option maxHeartbeats 4000000 in
set_option maxRecDepth 100000 in
theorem rmerge_bad (w : World) (f e e2 t : ByteArray) (ao bo : Option Addr) (n m cap cap2 : Nat) (l l2 : List CA) (L : CL w ao n cap l) (L2 : CL w bo m cap2 l2) (hb : e.size = 0 ∨ e ≠ e2) :
    Calls Tryz.prog 26 #[.agg #[.string f, .string e, .slice ao n cap], .agg #[.string e2, .string t, .slice bo m cap2]] w fun x w' => x = .returned (.tuple #[.agg #[.string ⟨#[]⟩, .string ⟨#[]⟩, .slice none 0 0], .int .i64 1]) ∧ Below w.heap.size w w' := by
  have hln := L.len
  have hln2 := L2.len
  obtain ⟨W1, hW1⟩ : ∃ V, V = w.alloc (.cells #[.string f, .string e, .slice ao n cap] 39) := ⟨_, rfl⟩
  obtain ⟨W2, hW2⟩ : ∃ V, V = W1.alloc (.cells #[.string e2, .string t, .slice bo m cap2] 39) := ⟨_, rfl⟩
  obtain ⟨W3, hW3⟩ : ∃ V, V = W2.alloc (.cells #[.string ⟨#[]⟩, .string ⟨#[]⟩, .slice none 0 0] 39) := ⟨_, rfl⟩
  have C1 : Below w.heap.size w W1 := by rw [hW1]; exact (Below.refl _ _).alloc (Nat.le_refl _) _
  have C2 : Below W1.heap.size W1 W2 := by rw [hW2]; exact (Below.refl _ _).alloc (Nat.le_refl _) _
  have C3 : Below W2.heap.size W2 W3 := by rw [hW3]; exact (Below.refl _ _).alloc (Nat.le_refl _) _
  have z1 : W1.heap.size = w.heap.size + 1 := by rw [hW1]; exact Array.size_push ..
  have z2 : W2.heap.size = w.heap.size + 2 := by rw [hW2, ← show W1.heap.size + 1 = w.heap.size + 2 by omega]; exact Array.size_push ..
  have B2 := C1.trans (C2.mono C1.size)
  have B3 := B2.trans (C3.mono B2.size)
  have A3 : Arr W3 w.heap.size 39 [.string f, .string e, .slice ao n cap] := arr_below (arr_below (by rw [hW1]; exact heap_alloc_new w _ : Arr W1 w.heap.size 39 [.string f, .string e, .slice ao n cap]) C2) C3
  have A4 : Arr W3 (w.heap.size + 1) 39 [.string e2, .string t, .slice bo m cap2] := arr_below (by rw [← z1, hW2]; exact heap_alloc_new W1 _ : Arr W2 (w.heap.size + 1) 39 [.string e2, .string t, .slice bo m cap2]) C3
  have R3 : Arr W3 (w.heap.size + 2) 39 [.string ⟨#[]⟩, .string ⟨#[]⟩, .slice none 0 0] := by rw [← z2, hW3]; exact heap_alloc_new W2 _
  have a0 : W3.cell? ⟨w.heap.size, 0, none⟩ = some (.string f) := A3.cell 0
  have a1 : W3.cell? ⟨w.heap.size, 1, none⟩ = some (.string e) := A3.cell 1
  have a2 : W3.cell? ⟨w.heap.size, 2, none⟩ = some (.slice ao n cap) := A3.cell 2
  have b0 : W3.cell? ⟨w.heap.size + 1, 0, none⟩ = some (.string e2) := A4.cell 0
  have b1 : W3.cell? ⟨w.heap.size + 1, 1, none⟩ = some (.string t) := A4.cell 1
  have b2 : W3.cell? ⟨w.heap.size + 1, 2, none⟩ = some (.slice bo m cap2) := A4.cell 2
  have hWW : W3 = ((w.alloc (.cells #[.string f, .string e, .slice ao n cap] 39)).alloc (.cells #[.string e2, .string t, .slice bo m cap2] 39)).alloc (.cells #[.string ⟨#[]⟩, .string ⟨#[]⟩, .slice none 0 0] 39) := by rw [hW3, hW2, hW1]
  clear hW1 hW2 hW3
  obtain ⟨eb, heb⟩ : ∃ b, b = decide (e.size ≠ 0) := ⟨_, rfl⟩
  obtain ⟨ee0, ee1, ee2⟩ := empty_facts e eb heb
  cases eb with
  | false =>
    clear heb hb
    go_enter Tryz.func26, Tryz.ntmps26
    rw [hWW] at a0 a1 a2 b0 b1 b2
    have r0 : W3.cell? ⟨w.heap.size + 2, 0, none⟩ = some (.string ⟨#[]⟩) := R3.cell 0
    have f0 := R3.free 0
    have r1 : W3.cell? ⟨w.heap.size + 2, 1, none⟩ = some (.string ⟨#[]⟩) := R3.cell 1
    have f1 := R3.free 1
    have r2 : W3.cell? ⟨w.heap.size + 2, 2, none⟩ = some (.slice none 0 0) := R3.cell 2
    have f2 := R3.free 2
    have BX := B3
    rw [hWW] at r0 f0 r1 f1 r2 f2 BX
    go_wp2
    exact bodyPost_ret (v := .tuple #[.agg #[.string ⟨#[]⟩, .string ⟨#[]⟩, .slice none 0 0], .int .i64 1]) (by simp [results, Tryz.results26, go_sem, r0, r1, r2]) rfl ⟨rfl, BX⟩
  | true =>
    have hz : e.size ≠ 0 := of_decide_eq_true heb.symm
    have hne := toL_ne (hb.resolve_left hz)
    clear heb hb hz
    go_enter Tryz.func26, Tryz.ntmps26
    rw [hWW] at a0 a1 a2 b0 b1 b2
    have r0 : W3.cell? ⟨w.heap.size + 2, 0, none⟩ = some (.string ⟨#[]⟩) := R3.cell 0
    have f0 := R3.free 0
    have r1 : W3.cell? ⟨w.heap.size + 2, 1, none⟩ = some (.string ⟨#[]⟩) := R3.cell 1
    have f1 := R3.free 1
    have r2 : W3.cell? ⟨w.heap.size + 2, 2, none⟩ = some (.slice none 0 0) := R3.cell 2
    have f2 := R3.free 2
    have BX := B3
    rw [hWW] at r0 f0 r1 f1 r2 f2 BX
    go_wp2
    exact bodyPost_ret (v := .tuple #[.agg #[.string ⟨#[]⟩, .string ⟨#[]⟩, .slice none 0 0], .int .i64 1]) (by simp [results, Tryz.results26, go_sem, r0, r1, r2]) rfl ⟨rfl, BX⟩
set_option maxHeartbeats 4000000 in
set_option maxRecDepth 100000 in
theorem lsame_any (w : World) (p : Nat) (f t : ByteArray) (bo : Option Addr) (bm bc n : Nat) (ml : List CA) (cs : List CV) (hT : TB w p f t cs) (L : CL w bo bm bc ml) (hml : ml.map CA.c = cs) (hS : Stand f t n cs) (hn : n ≤ 1000) (hf : f.size ≤ 32) (ht : t.size ≤ 32) :
    Calls Tryz.prog 24 #[.pointer (some ⟨p, 0, none⟩), .agg #[.string f, .string t, .slice bo bm bc]] w fun x w' => x = .returned (.bool true) ∧ Below w.heap.size w w' := by
  obtain ⟨W1, hW1⟩ : ∃ V, V = w.alloc (.cells #[.string f, .string t, .slice bo bm bc] 39) := ⟨_, rfl⟩
  have C1 : Below w.heap.size w W1 := by rw [hW1]; exact (Below.refl _ _).alloc (Nat.le_refl _) _
  have A1 : Arr W1 w.heap.size 39 [.string f, .string t, .slice bo bm bc] := by rw [hW1]; exact heap_alloc_new w _
  have CB := tbounds_any W1 p f t cs (hT.below C1)
  have hlen := hS.len
  go_enter Tryz.func24, Tryz.ntmps24
  go_wp2_with fail
  rw [← hW1]
  clear hW1
  refine CB.mono ?_
  rintro x w2 ⟨rfl, C2⟩
  have B2 := C1.trans (C2.mono C1.size)
  have A2 := arr_below A1 C2
  have T2 := hT.below B2
  have L2 := L.below B2
  have c0 : w2.cell? ⟨w.heap.size, 0, none⟩ = some (.string f) := A2.cell 0
  have c1 : w2.cell? ⟨w.heap.size, 1, none⟩ = some (.string t) := A2.cell 1
  have c2 : w2.cell? ⟨w.heap.size, 2, none⟩ = some (.slice bo bm bc) := A2.cell 2
  have hff : (f.toList == f.toList) = true := by simp
  have htt : (t.toList == t.toList) = true := by simp
  have HCE : Hid (∀ V, Below w2.heap.size w2 V → Calls Tryz.prog 17 #[.pointer (some ⟨p, 0, none⟩)] V fun e w' => ∃ co cn cc cl, e = .returned (.slice co cn cc) ∧ (CL w' co cn cc cl ∧ cl.map CA.c = cs) ∧ Below V.heap.size V w') := fun V hV => by
    refine (cells_st V p f t cs (T2.below hV) hS.srt hS.good hf ht hS.rows (by omega)).mono ?_
    rintro e w' ⟨co, cn, cc, cl, rfl, h1, -, h2, B⟩
    exact ⟨co, cn, cc, cl, rfl, ⟨h1, h2⟩, B⟩
  have HSM : Hid (∀ V, Below w2.heap.size w2 V → ∀ co cn cc cl, CL V co cn cc cl → cl.map CA.c = cs → Calls Tryz.prog 16 #[.slice co cn cc, .slice bo bm bc] V fun e w' => e = .returned (.bool true) ∧ Below V.heap.size V w') := fun V hV co cn cc cl h1 h2 => by
    have hn2 : bm = cn := CL.len_of h1 L2 (h2.trans hml.symm)
    subst hn2
    have hb : bm ≤ 1000 := by
      have h3 := congrArg List.length h2
      rw [List.length_map, h1.len] at h3
      omega
    exact same10_any V co bo bm cc bc cl ml h1 (L2.below hV) (h2.trans hml.symm) hb
  clear CB A1 hS hml L L2 hT T2
  go_wp2
  have zHS : Hid (∀ V, Below w2.heap.size w2 V → V.cell? ⟨w.heap.size, 0, none⟩ = some (.string f) ∧ V.cell? ⟨w.heap.size, 1, none⟩ = some (.string t) ∧ V.cell? ⟨w.heap.size, 2, none⟩ = some (.slice bo bm bc)) := fun V hV => ⟨(hV.cell (World.block_lt_of_cell? _ _ c0)).trans c0, (hV.cell (World.block_lt_of_cell? _ _ c1)).trans c1, (hV.cell (World.block_lt_of_cell? _ _ c2)).trans c2⟩
  have zE0 : Below w2.heap.size w2 w2.drew := (Below.refl _ _).drew
  refine wp_region_noPanic ?_
  refine wp_region_held_drew (S := fun V => V.cell? ⟨w.heap.size, 0, none⟩ = some (.string f) ∧ V.cell? ⟨w.heap.size, 1, none⟩ = some (.string t) ∧ V.cell? ⟨w.heap.size, 2, none⟩ = some (.slice bo bm bc)) (by kernel_rfl) (zHS.out _ zE0) (fun zH0 => ?_)
  obtain ⟨zv0, hv0⟩ : ∃ v, v = w2.drew := ⟨_, rfl⟩
  rw [← hv0] at zH0 zE0 ⊢
  clear hv0
  refine hr_take_w 0 (some 12) (.pointer (some ⟨p, 0, none⟩)) rfl rfl (by kernel_rfl) (by kernel_rfl) (by kernel_rfl) rfl (fun W hW => by obtain ⟨h0, h1, h2⟩ := hW; go_simp) zH0 ?_
  simp only [FL]
  refine hr_take_w 1 (some 13) (.bool true) rfl rfl (by kernel_rfl) (by kernel_rfl) (by kernel_rfl) rfl (fun W hW => by obtain ⟨h0, h1, h2⟩ := hW; go_simp) zH0 ?_
  simp only [FL]
  refine hr_take_w 2 (some 14) (.bool true) rfl rfl (by kernel_rfl) (by kernel_rfl) (by kernel_rfl) rfl (fun W hW => by obtain ⟨h0, h1, h2⟩ := hW; go_simp) zH0 ?_
  simp only [FL]
  refine hr_take_w 3 (some 15) (.string f) rfl rfl (by kernel_rfl) (by kernel_rfl) (by kernel_rfl) rfl (fun W hW => by obtain ⟨h0, h1, h2⟩ := hW; go_simp) zH0 ?_
  simp only [FL]
  refine hr_take_w 4 (some 16) (.pointer (some ⟨w.heap.size, 0, none⟩)) rfl rfl (by kernel_rfl) (by kernel_rfl) (by kernel_rfl) rfl (fun W hW => by obtain ⟨h0, h1, h2⟩ := hW; go_simp) zH0 ?_
  simp only [FL]
  refine hr_take_w 5 (some 17) (.string f) rfl rfl (by kernel_rfl) (by kernel_rfl) (by kernel_rfl) rfl (fun W hW => by obtain ⟨h0, h1, h2⟩ := hW; go_simp) zH0 ?_
  simp only [FL]
  refine hr_take_w 6 (some 18) (.bool true) rfl rfl (by kernel_rfl) (by kernel_rfl) (by kernel_rfl) rfl (fun W hW => by obtain ⟨h0, h1, h2⟩ := hW; go_simp) zH0 ?_
  simp only [FL]
  refine hr_take_w 7 (some 19) (.bool true) rfl rfl (by kernel_rfl) (by kernel_rfl) (by kernel_rfl) rfl (fun W hW => by obtain ⟨h0, h1, h2⟩ := hW; go_simp) zH0 ?_
  simp only [FL]
  refine hr_take_w 8 (some 20) (.bool true) rfl rfl (by kernel_rfl) (by kernel_rfl) (by kernel_rfl) rfl (fun W hW => by obtain ⟨h0, h1, h2⟩ := hW; go_simp) zH0 ?_
  simp only [FL]
  refine hr_take_w 9 (some 21) (.string t) rfl rfl (by kernel_rfl) (by kernel_rfl) (by kernel_rfl) rfl (fun W hW => by obtain ⟨h0, h1, h2⟩ := hW; go_simp) zH0 ?_
  simp only [FL]
  refine hr_take_w 10 (some 22) (.pointer (some ⟨w.heap.size, 1, none⟩)) rfl rfl (by kernel_rfl) (by kernel_rfl) (by kernel_rfl) rfl (fun W hW => by obtain ⟨h0, h1, h2⟩ := hW; go_simp) zH0 ?_
  simp only [FL]
  refine hr_take_w 11 (some 23) (.string t) rfl rfl (by kernel_rfl) (by kernel_rfl) (by kernel_rfl) rfl (fun W hW => by obtain ⟨h0, h1, h2⟩ := hW; go_simp) zH0 ?_
  simp only [FL]
  refine hr_take_w 12 (some 24) (.bool true) rfl rfl (by kernel_rfl) (by kernel_rfl) (by kernel_rfl) rfl (fun W hW => by obtain ⟨h0, h1, h2⟩ := hW; go_simp) zH0 ?_
  simp only [FL]
  refine hr_take_w 13 (some 25) (.bool true) rfl rfl (by kernel_rfl) (by kernel_rfl) (by kernel_rfl) rfl (fun W hW => by obtain ⟨h0, h1, h2⟩ := hW; go_simp) zH0 ?_
  simp only [FL]
  refine hr_take_w 14 (some 26) (.bool true) rfl rfl (by kernel_rfl) (by kernel_rfl) (by kernel_rfl) rfl (fun W hW => by obtain ⟨h0, h1, h2⟩ := hW; go_simp) zH0 ?_
  simp only [FL]
  refine hr_take_w 15 (some 27) (.pointer (some ⟨p, 0, none⟩)) rfl rfl (by kernel_rfl) (by kernel_rfl) (by kernel_rfl) rfl (fun W hW => by obtain ⟨h0, h1, h2⟩ := hW; go_simp) zH0 ?_
  simp only [FL]
  refine hr_take_w 17 (some 29) (.pointer (some ⟨w.heap.size, 2, none⟩)) rfl rfl (by kernel_rfl) (by kernel_rfl) (by kernel_rfl) rfl (fun W hW => by obtain ⟨h0, h1, h2⟩ := hW; go_simp) zH0 ?_
  simp only [FL]
  refine hr_take_w 18 (some 30) (.slice bo bm bc) rfl rfl (by kernel_rfl) (by kernel_rfl) (by kernel_rfl) rfl (fun W hW => by obtain ⟨h0, h1, h2⟩ := hW; go_simp) zH0 ?_
  simp only [FL]
  refine hr_call_w 16 (some 28) 17 #[.pointer (some ⟨p, 0, none⟩)] rfl rfl (by kernel_rfl) rfl (by go_simp) (fun v w' => ∃ co cn cc cl, v = .slice co cn cc ∧ (CL w' co cn cc cl ∧ cl.map CA.c = cs) ∧ Below zv0.heap.size zv0 w') ((HCE.out zv0 zE0).mono (by
    rintro e w' ⟨co, cn, cc, cl, rfl, F, C⟩
    exact ⟨_, rfl, co, cn, cc, cl, rfl, F, C⟩)) ?_
  rintro v zv1 ⟨co, cn, cc, cl, rfl, zF0, zC0⟩
  have zE1 := zE0.trans (zC0.mono zE0.size)
  have zH1 := zHS.out zv1 zE1
  refine ⟨zH1, ?_⟩
  simp only [FL]
  obtain ⟨LC, hcl⟩ := zF0
  refine hr_call_w 19 (some 31) 16 #[.slice co cn cc, .slice bo bm bc] rfl rfl (by kernel_rfl) rfl (by go_simp) (fun v w' => v = .bool true ∧ Below zv1.heap.size zv1 w') ((HSM.out zv1 zE1 co cn cc cl LC hcl).mono (by
    rintro e w' ⟨rfl, C⟩
    exact ⟨_, rfl, rfl, C⟩)) ?_
  rintro v zv2 ⟨rfl, zC1⟩
  have zE2 := zE1.trans (zC1.mono zE1.size)
  have zH2 := zHS.out zv2 zE2
  refine ⟨zH2, ?_⟩
  simp only [FL]
  refine hr_take_w 20 (some 32) (.bool true) rfl rfl (by kernel_rfl) (by kernel_rfl) (by kernel_rfl) rfl (fun W hW => by obtain ⟨h0, h1, h2⟩ := hW; go_simp) zH2 ?_
  simp only [FL]
  refine hr_take_w 21 (some 4) (.bool true) rfl rfl (by kernel_rfl) (by kernel_rfl) (by kernel_rfl) rfl (fun W hW => by obtain ⟨h0, h1, h2⟩ := hW; go_simp) zH2 ?_
  simp only [FL]
  refine wpAnyH_done (by kernel_rfl) ?_ _
  refine NoPanic.normal ?_
  go_wp2
  go_ret
  exact ⟨rfl, B2.trans (zE2.mono B2.size)⟩
open Go.RowKit
set_option maxHeartbeats 4000000 in
set_option maxRecDepth 100000 in
theorem rmerge_full (w : World) (f e t : ByteArray) (ao bo : Option Addr) (n m cap cap2 : Nat) (l l2 : List CA) (L : CL w ao n cap l) (L2 : CL w bo m cap2 l2) (he : e.size ≠ 0) (hn : n ≤ 100) (hm : m ≤ 100) (hl : 32 < n + m) :
    Calls Tryz.prog 26 #[.agg #[.string f, .string e, .slice ao n cap], .agg #[.string e, .string t, .slice bo m cap2]] w fun x w' => x = .returned (.tuple #[.agg #[.string ⟨#[]⟩, .string ⟨#[]⟩, .slice none 0 0], .int .i64 9]) ∧ Below w.heap.size w w' := by
  have hln := L.len
  have hln2 := L2.len
  obtain ⟨W1, hW1⟩ : ∃ V, V = w.alloc (.cells #[.string f, .string e, .slice ao n cap] 39) := ⟨_, rfl⟩
  obtain ⟨W2, hW2⟩ : ∃ V, V = W1.alloc (.cells #[.string e, .string t, .slice bo m cap2] 39) := ⟨_, rfl⟩
  obtain ⟨W3, hW3⟩ : ∃ V, V = W2.alloc (.cells #[.string ⟨#[]⟩, .string ⟨#[]⟩, .slice none 0 0] 39) := ⟨_, rfl⟩
  have C1 : Below w.heap.size w W1 := by rw [hW1]; exact (Below.refl _ _).alloc (Nat.le_refl _) _
  have C2 : Below W1.heap.size W1 W2 := by rw [hW2]; exact (Below.refl _ _).alloc (Nat.le_refl _) _
  have C3 : Below W2.heap.size W2 W3 := by rw [hW3]; exact (Below.refl _ _).alloc (Nat.le_refl _) _
  have z1 : W1.heap.size = w.heap.size + 1 := by rw [hW1]; exact Array.size_push ..
  have z2 : W2.heap.size = w.heap.size + 2 := by rw [hW2, ← show W1.heap.size + 1 = w.heap.size + 2 by omega]; exact Array.size_push ..
  have B2 := C1.trans (C2.mono C1.size)
  have B3 := B2.trans (C3.mono B2.size)
  have A3 : Arr W3 w.heap.size 39 [.string f, .string e, .slice ao n cap] := arr_below (arr_below (by rw [hW1]; exact heap_alloc_new w _ : Arr W1 w.heap.size 39 [.string f, .string e, .slice ao n cap]) C2) C3
  have A4 : Arr W3 (w.heap.size + 1) 39 [.string e, .string t, .slice bo m cap2] := arr_below (by rw [← z1, hW2]; exact heap_alloc_new W1 _ : Arr W2 (w.heap.size + 1) 39 [.string e, .string t, .slice bo m cap2]) C3
  have R3 : Arr W3 (w.heap.size + 2) 39 [.string ⟨#[]⟩, .string ⟨#[]⟩, .slice none 0 0] := by rw [← z2, hW3]; exact heap_alloc_new W2 _
  have a0 : W3.cell? ⟨w.heap.size, 0, none⟩ = some (.string f) := A3.cell 0
  have a1 : W3.cell? ⟨w.heap.size, 1, none⟩ = some (.string e) := A3.cell 1
  have a2 : W3.cell? ⟨w.heap.size, 2, none⟩ = some (.slice ao n cap) := A3.cell 2
  have b0 : W3.cell? ⟨w.heap.size + 1, 0, none⟩ = some (.string e) := A4.cell 0
  have b1 : W3.cell? ⟨w.heap.size + 1, 1, none⟩ = some (.string t) := A4.cell 1
  have b2 : W3.cell? ⟨w.heap.size + 1, 2, none⟩ = some (.slice bo m cap2) := A4.cell 2
  have hWW : W3 = ((w.alloc (.cells #[.string f, .string e, .slice ao n cap] 39)).alloc (.cells #[.string e, .string t, .slice bo m cap2] 39)).alloc (.cells #[.string ⟨#[]⟩, .string ⟨#[]⟩, .slice none 0 0] 39) := by rw [hW3, hW2, hW1]
  clear hW1 hW2 hW3
  obtain ⟨eb, heb⟩ : ∃ b, b = decide (e.size ≠ 0) := ⟨_, rfl⟩
  obtain ⟨ee0, ee1, ee2⟩ := empty_facts e eb heb
  obtain rfl : eb = true := by rw [heb]; exact decide_eq_true he
  have hee : (e.toList == e.toList) = true := by simp
  have hw : IntKind.i64.wrap ((n : Int) + (m : Int)) = (n : Int) + (m : Int) := by rw [IntKind.wrap_i64]; omega
  have hw6 : wrap64 ((n : Int) + (m : Int)) = (n : Int) + (m : Int) := by unfold wrap64; omega
  have i32 : (32 : Int) < (n : Int) + (m : Int) := by omega
  clear heb
  go_enter Tryz.func26, Tryz.ntmps26
  rw [hWW] at a0 a1 a2 b0 b1 b2
  have r0 : W3.cell? ⟨w.heap.size + 2, 0, none⟩ = some (.string ⟨#[]⟩) := R3.cell 0
  have f0 := R3.free 0
  have r1 : W3.cell? ⟨w.heap.size + 2, 1, none⟩ = some (.string ⟨#[]⟩) := R3.cell 1
  have f1 := R3.free 1
  have r2 : W3.cell? ⟨w.heap.size + 2, 2, none⟩ = some (.slice none 0 0) := R3.cell 2
  have f2 := R3.free 2
  have BX := B3
  rw [hWW] at r0 f0 r1 f1 r2 f2 BX
  go_wp2
  exact bodyPost_ret (v := .tuple #[.agg #[.string ⟨#[]⟩, .string ⟨#[]⟩, .slice none 0 0], .int .i64 9]) (by simp [results, Tryz.results26, go_sem, r0, r1, r2]) rfl ⟨rfl, BX⟩
def RMPost (w : World) (f t : ByteArray) (cs : List CV) (x : Ending) (w' : World) : Prop := ∃ ro rn rc rl, x = .returned (.tuple #[.agg #[.string f, .string t, .slice ro rn rc], .int .i64 0]) ∧ CL w' ro rn rc rl ∧ rl.map CA.c = cs ∧ Below w.heap.size w w'
set_option maxHeartbeats 4000000 in
set_option maxRecDepth 100000 in
theorem rmerge_ok (w : World) (f e t : ByteArray) (ao bo : Option Addr) (n m cap cap2 : Nat) (l l2 : List CA) (L : CL w ao n cap l) (L2 : CL w bo m cap2 l2) (he : e.size ≠ 0) (hn : n ≤ 100) (hm : m ≤ 100) (hl : n + m ≤ 32) :
    Calls Tryz.prog 26 #[.agg #[.string f, .string e, .slice ao n cap], .agg #[.string e, .string t, .slice bo m cap2]] w (RMPost w f t (l.map CA.c ++ l2.map CA.c)) := by
  have hln := L.len
  have hln2 := L2.len
  obtain ⟨W1, hW1⟩ : ∃ V, V = w.alloc (.cells #[.string f, .string e, .slice ao n cap] 39) := ⟨_, rfl⟩
  obtain ⟨W2, hW2⟩ : ∃ V, V = W1.alloc (.cells #[.string e, .string t, .slice bo m cap2] 39) := ⟨_, rfl⟩
  obtain ⟨W3, hW3⟩ : ∃ V, V = W2.alloc (.cells #[.string ⟨#[]⟩, .string ⟨#[]⟩, .slice none 0 0] 39) := ⟨_, rfl⟩
  have C1 : Below w.heap.size w W1 := by rw [hW1]; exact (Below.refl _ _).alloc (Nat.le_refl _) _
  have C2 : Below W1.heap.size W1 W2 := by rw [hW2]; exact (Below.refl _ _).alloc (Nat.le_refl _) _
  have C3 : Below W2.heap.size W2 W3 := by rw [hW3]; exact (Below.refl _ _).alloc (Nat.le_refl _) _
  have z1 : W1.heap.size = w.heap.size + 1 := by rw [hW1]; exact Array.size_push ..
  have z2 : W2.heap.size = w.heap.size + 2 := by rw [hW2, ← show W1.heap.size + 1 = w.heap.size + 2 by omega]; exact Array.size_push ..
  have B2 := C1.trans (C2.mono C1.size)
  have B3 := B2.trans (C3.mono B2.size)
  have A3 : Arr W3 w.heap.size 39 [.string f, .string e, .slice ao n cap] := arr_below (arr_below (by rw [hW1]; exact heap_alloc_new w _ : Arr W1 w.heap.size 39 [.string f, .string e, .slice ao n cap]) C2) C3
  have A4 : Arr W3 (w.heap.size + 1) 39 [.string e, .string t, .slice bo m cap2] := arr_below (by rw [← z1, hW2]; exact heap_alloc_new W1 _ : Arr W2 (w.heap.size + 1) 39 [.string e, .string t, .slice bo m cap2]) C3
  have R3 : Arr W3 (w.heap.size + 2) 39 [.string ⟨#[]⟩, .string ⟨#[]⟩, .slice none 0 0] := by rw [← z2, hW3]; exact heap_alloc_new W2 _
  have a0 : W3.cell? ⟨w.heap.size, 0, none⟩ = some (.string f) := A3.cell 0
  have a1 : W3.cell? ⟨w.heap.size, 1, none⟩ = some (.string e) := A3.cell 1
  have a2 : W3.cell? ⟨w.heap.size, 2, none⟩ = some (.slice ao n cap) := A3.cell 2
  have b0 : W3.cell? ⟨w.heap.size + 1, 0, none⟩ = some (.string e) := A4.cell 0
  have b1 : W3.cell? ⟨w.heap.size + 1, 1, none⟩ = some (.string t) := A4.cell 1
  have b2 : W3.cell? ⟨w.heap.size + 1, 2, none⟩ = some (.slice bo m cap2) := A4.cell 2
  have hWW : W3 = ((w.alloc (.cells #[.string f, .string e, .slice ao n cap] 39)).alloc (.cells #[.string e, .string t, .slice bo m cap2] 39)).alloc (.cells #[.string ⟨#[]⟩, .string ⟨#[]⟩, .slice none 0 0] 39) := by rw [hW3, hW2, hW1]
  clear hW1 hW2 hW3
  obtain ⟨eb, heb⟩ : ∃ b, b = decide (e.size ≠ 0) := ⟨_, rfl⟩
  obtain ⟨ee0, ee1, ee2⟩ := empty_facts e eb heb
  obtain rfl : eb = true := by rw [heb]; exact decide_eq_true he
  have hee : (e.toList == e.toList) = true := by simp
  have hw : IntKind.i64.wrap ((n : Int) + (m : Int)) = (n : Int) + (m : Int) := by rw [IntKind.wrap_i64]; omega
  have hw6 : wrap64 ((n : Int) + (m : Int)) = (n : Int) + (m : Int) := by unfold wrap64; omega
  have i32 : ¬ (32 : Int) < (n : Int) + (m : Int) := by omega
  have L3 := L.below B3
  have M3 := L2.below B3
  have HOK : Hid (∀ c ∈ l, c.ok w) := L.ok
  have HOK2 : Hid (∀ c ∈ l2, c.ok w) := L2.ok
  have HLL : Hid (l.length ≤ 100) := by show _ ≤ _; omega
  clear heb L L2
  go_enter Tryz.func26, Tryz.ntmps26
  have q0 := a0
  have q1 := a1
  have q2 := a2
  have q3 := b0
  have q4 := b1
  have q5 := b2
  rw [hWW] at q0 q1 q2 q3 q4 q5
  go_wp2
  rw [← hWW]
  clear q0 q1 q2 q3 q4 q5 hWW
  have zHS : Hid (∀ V, Below W3.heap.size W3 V → V.cell? ⟨w.heap.size, 0, none⟩ = some (.string f) ∧ V.cell? ⟨w.heap.size, 1, none⟩ = some (.string e) ∧ V.cell? ⟨w.heap.size, 2, none⟩ = some (.slice ao n cap) ∧ V.cell? ⟨w.heap.size + 1, 0, none⟩ = some (.string e) ∧ V.cell? ⟨w.heap.size + 1, 1, none⟩ = some (.string t) ∧ V.cell? ⟨w.heap.size + 1, 2, none⟩ = some (.slice bo m cap2)) := fun V hV => ⟨(hV.cell (World.block_lt_of_cell? _ _ a0)).trans a0, (hV.cell (World.block_lt_of_cell? _ _ a1)).trans a1, (hV.cell (World.block_lt_of_cell? _ _ a2)).trans a2, (hV.cell (World.block_lt_of_cell? _ _ b0)).trans b0, (hV.cell (World.block_lt_of_cell? _ _ b1)).trans b1, (hV.cell (World.block_lt_of_cell? _ _ b2)).trans b2⟩
  have zE0 : Below W3.heap.size W3 W3.drew := (Below.refl _ _).drew
  refine wp_region_noPanic ?_
  refine wp_region_held_drew (S := fun V => V.cell? ⟨w.heap.size, 0, none⟩ = some (.string f) ∧ V.cell? ⟨w.heap.size, 1, none⟩ = some (.string e) ∧ V.cell? ⟨w.heap.size, 2, none⟩ = some (.slice ao n cap) ∧ V.cell? ⟨w.heap.size + 1, 0, none⟩ = some (.string e) ∧ V.cell? ⟨w.heap.size + 1, 1, none⟩ = some (.string t) ∧ V.cell? ⟨w.heap.size + 1, 2, none⟩ = some (.slice bo m cap2)) (by kernel_rfl) (zHS.out _ zE0) (fun zH0 => ?_)
  obtain ⟨zv0, hv0⟩ : ∃ v, v = W3.drew := ⟨_, rfl⟩
  rw [← hv0] at zH0 zE0 ⊢
  clear hv0
  refine hr_take_w 0 (some 26) (.pointer (some ⟨w.heap.size, 0, none⟩)) rfl rfl (by kernel_rfl) (by kernel_rfl) (by kernel_rfl) rfl (fun W hW => by obtain ⟨h0, h1, h2, h3, h4, h5⟩ := hW; go_simp) zH0 ?_
  simp only [FL]
  refine hr_take_w 1 (some 27) (.string f) rfl rfl (by kernel_rfl) (by kernel_rfl) (by kernel_rfl) rfl (fun W hW => by obtain ⟨h0, h1, h2, h3, h4, h5⟩ := hW; go_simp) zH0 ?_
  simp only [FL]
  refine hr_take_w 2 (some 28) (.pointer (some ⟨w.heap.size + 1, 1, none⟩)) rfl rfl (by kernel_rfl) (by kernel_rfl) (by kernel_rfl) rfl (fun W hW => by obtain ⟨h0, h1, h2, h3, h4, h5⟩ := hW; go_simp) zH0 ?_
  simp only [FL]
  refine hr_take_w 3 (some 29) (.string t) rfl rfl (by kernel_rfl) (by kernel_rfl) (by kernel_rfl) rfl (fun W hW => by obtain ⟨h0, h1, h2, h3, h4, h5⟩ := hW; go_simp) zH0 ?_
  simp only [FL]
  refine hr_take_w 5 (some 31) (.pointer (some ⟨w.heap.size, 2, none⟩)) rfl rfl (by kernel_rfl) (by kernel_rfl) (by kernel_rfl) rfl (fun W hW => by obtain ⟨h0, h1, h2, h3, h4, h5⟩ := hW; go_simp) zH0 ?_
  simp only [FL]
  refine hr_take_w 6 (some 32) (.slice ao n cap) rfl rfl (by kernel_rfl) (by kernel_rfl) (by kernel_rfl) rfl (fun W hW => by obtain ⟨h0, h1, h2, h3, h4, h5⟩ := hW; go_simp) zH0 ?_
  simp only [FL]
  refine hr_take_w 8 (some 34) (.pointer (some ⟨w.heap.size + 1, 2, none⟩)) rfl rfl (by kernel_rfl) (by kernel_rfl) (by kernel_rfl) rfl (fun W hW => by obtain ⟨h0, h1, h2, h3, h4, h5⟩ := hW; go_simp) zH0 ?_
  simp only [FL]
  refine hr_take_w 9 (some 35) (.slice bo m cap2) rfl rfl (by kernel_rfl) (by kernel_rfl) (by kernel_rfl) rfl (fun W hW => by obtain ⟨h0, h1, h2, h3, h4, h5⟩ := hW; go_simp) zH0 ?_
  simp only [FL]
  refine hr_ex 4 (some 30) rfl rfl (by kernel_rfl) rfl (R := fun v w' => ∃ g, v = .slice (some ⟨g, 0, none⟩) 0 0 ∧ (W3.heap.size ≤ g ∧ Arr w' g 33 []) ∧ Below zv0.heap.size zv0 w') (⟨_, _, by go_simp, _, rfl, ⟨zE0.size, heap_alloc_new zv0 _⟩, (Below.refl _ _).alloc (Nat.le_refl _) _⟩) ?_
  rintro v zv1 ⟨g0, rfl, G0, zC0⟩
  have zE1 := zE0.trans (zC0.mono zE0.size)
  have zH1 := zHS.out zv1 zE1
  refine ⟨zH1, ?_⟩
  simp only [FL]
  refine hr_ex 7 (some 33) rfl rfl (by kernel_rfl) rfl (R := fun v w' => ∃ r1 n1 c1, v = .slice r1 n1 c1 ∧ CNew w w' W3.heap.size (.slice r1 n1 c1) l ∧ Below zv1.heap.size zv1 w') (by obtain ⟨v', w', hr, h3, h4⟩ := run_appC0 31 G0.1 G0.2 (L3.below zE1) (by omega) zE1.size; obtain ⟨r1, n1, c1, rfl⟩ := own_slice3 h3; exact ⟨_, w', by simp [execOp, Act.eval, resolve, invoke, builtin, hr], _, _, _, rfl, ⟨h3, HOK.out⟩, h4⟩) ?_
  rintro v zv2 ⟨r1, n1, c1, rfl, N1, zC1⟩
  have zE2 := zE1.trans (zC1.mono zE1.size)
  have zH2 := zHS.out zv2 zE2
  refine ⟨zH2, ?_⟩
  simp only [FL]
  refine hr_ex 10 (some 36) rfl rfl (by kernel_rfl) rfl (R := fun v w' => ∃ r2 n2 c2, v = .slice r2 n2 c2 ∧ CNew w w' W3.heap.size (.slice r2 n2 c2) (l ++ l2) ∧ Below W3.heap.size zv2 w') (by obtain ⟨v', w', hr, h3, h4⟩ := run_appNs 31 N1 (M3.below zE2) HOK2.out (by have := HLL.out; omega) zE2.size; obtain ⟨r2, n2, c2, rfl⟩ := h3.slice; exact ⟨_, w', by simp [execOp, Act.eval, resolve, invoke, builtin, hr], _, _, _, rfl, h3, h4⟩) ?_
  rintro v zv3 ⟨r2, n2, c2, rfl, N2, zC2⟩
  have zE3 := zE2.trans zC2
  have zH3 := zHS.out zv3 zE3
  refine ⟨zH3, ?_⟩
  simp only [FL]
  refine hr_take_w 11 (some 37) (.agg #[.string f, .string t, .slice r2 n2 c2]) rfl rfl (by kernel_rfl) (by kernel_rfl) (by kernel_rfl) rfl (fun W hW => by obtain ⟨h0, h1, h2, h3, h4, h5⟩ := hW; go_simp) zH3 ?_
  simp only [FL]
  have s0 : zv3.cell? ⟨w.heap.size + 2, 0, none⟩ = some (.string ⟨#[]⟩) := (arr_below R3 zE3).cell 0
  have f0 := (arr_below R3 zE3).free 0
  have s1 : zv3.cell? ⟨w.heap.size + 2, 1, none⟩ = some (.string ⟨#[]⟩) := (arr_below R3 zE3).cell 1
  have f1 := (arr_below R3 zE3).free 1
  have s2 : zv3.cell? ⟨w.heap.size + 2, 2, none⟩ = some (.slice none 0 0) := (arr_below R3 zE3).cell 2
  have f2 := (arr_below R3 zE3).free 2
  have KW : Wr (w.heap.size + 2) zv3 (((zv3.setCell ⟨w.heap.size + 2, 0, none⟩ (.string f)).setCell ⟨w.heap.size + 2, 1, none⟩ (.string t)).setCell ⟨w.heap.size + 2, 2, none⟩ (.slice r2 n2 c2)) := (((Wr.refl _ _).set 0 _).set 1 _).set 2 _
  have zH4 : (((zv3.setCell ⟨w.heap.size + 2, 0, none⟩ (.string f)).setCell ⟨w.heap.size + 2, 1, none⟩ (.string t)).setCell ⟨w.heap.size + 2, 2, none⟩ (.slice r2 n2 c2)).cell? ⟨w.heap.size, 0, none⟩ = some (.string f) ∧ (((zv3.setCell ⟨w.heap.size + 2, 0, none⟩ (.string f)).setCell ⟨w.heap.size + 2, 1, none⟩ (.string t)).setCell ⟨w.heap.size + 2, 2, none⟩ (.slice r2 n2 c2)).cell? ⟨w.heap.size, 1, none⟩ = some (.string e) ∧ (((zv3.setCell ⟨w.heap.size + 2, 0, none⟩ (.string f)).setCell ⟨w.heap.size + 2, 1, none⟩ (.string t)).setCell ⟨w.heap.size + 2, 2, none⟩ (.slice r2 n2 c2)).cell? ⟨w.heap.size, 2, none⟩ = some (.slice ao n cap) ∧ (((zv3.setCell ⟨w.heap.size + 2, 0, none⟩ (.string f)).setCell ⟨w.heap.size + 2, 1, none⟩ (.string t)).setCell ⟨w.heap.size + 2, 2, none⟩ (.slice r2 n2 c2)).cell? ⟨w.heap.size + 1, 0, none⟩ = some (.string e) ∧ (((zv3.setCell ⟨w.heap.size + 2, 0, none⟩ (.string f)).setCell ⟨w.heap.size + 2, 1, none⟩ (.string t)).setCell ⟨w.heap.size + 2, 2, none⟩ (.slice r2 n2 c2)).cell? ⟨w.heap.size + 1, 1, none⟩ = some (.string t) ∧ (((zv3.setCell ⟨w.heap.size + 2, 0, none⟩ (.string f)).setCell ⟨w.heap.size + 2, 1, none⟩ (.string t)).setCell ⟨w.heap.size + 2, 2, none⟩ (.slice r2 n2 c2)).cell? ⟨w.heap.size + 1, 2, none⟩ = some (.slice bo m cap2) := by
    have q1 : Arr (((zv3.setCell ⟨w.heap.size + 2, 0, none⟩ (.string f)).setCell ⟨w.heap.size + 2, 1, none⟩ (.string t)).setCell ⟨w.heap.size + 2, 2, none⟩ (.slice r2 n2 c2)) w.heap.size 39 [.string f, .string e, .slice ao n cap] := (KW.block _ (arr_below A3 zE3).lt (by omega)).trans (arr_below A3 zE3)
    have q2 : Arr (((zv3.setCell ⟨w.heap.size + 2, 0, none⟩ (.string f)).setCell ⟨w.heap.size + 2, 1, none⟩ (.string t)).setCell ⟨w.heap.size + 2, 2, none⟩ (.slice r2 n2 c2)) (w.heap.size + 1) 39 [.string e, .string t, .slice bo m cap2] := (KW.block _ (arr_below A4 zE3).lt (by omega)).trans (arr_below A4 zE3)
    exact ⟨q1.cell 0, q1.cell 1, q1.cell 2, q2.cell 0, q2.cell 1, q2.cell 2⟩
  refine hr_skip 12 none (w' := (((zv3.setCell ⟨w.heap.size + 2, 0, none⟩ (.string f)).setCell ⟨w.heap.size + 2, 1, none⟩ (.string t)).setCell ⟨w.heap.size + 2, 2, none⟩ (.slice r2 n2 c2))) rfl rfl (by kernel_rfl) rfl (by go_simp) zH4 ?_
  simp only [Act.put]
  refine hr_take_w 13 (some 5) (.int .i64 0) rfl rfl (by kernel_rfl) (by kernel_rfl) (by kernel_rfl) rfl (fun W hW => by go_simp) zH4 ?_
  simp only [FL]
  refine wpAnyH_done (by kernel_rfl) ?_ _
  refine NoPanic.normal ?_
  have BZ := B3.trans (zE3.mono B3.size)
  have BX := KW.below BZ BZ.size (by omega)
  obtain ⟨ao5, cap5, hv5, L5⟩ := N2.cl BZ
  have L6 : CL zv3 r2 n2 c2 (l ++ l2) := by
    simp only [Value.slice.injEq] at hv5
    obtain ⟨e1, e2, e3⟩ := hv5
    rw [e1, e2, e3]
    exact L5
  have L7 := L6.rt (arr_below R3 zE3) KW
  clear hv5 L5 N2 L6
  go_wp2
  exact bodyPost_ret (v := .tuple #[.agg #[.string f, .string t, .slice r2 n2 c2], .int .i64 0]) (by simp [results, Tryz.results26, go_sem, s0, s1, s2]) rfl ⟨_, _, _, _, rfl, L7, List.map_append .., BX⟩
open Go.RowKit Go.Sort
set_option maxHeartbeats 8000000 in
set_option maxRecDepth 100000 in
theorem splitMerges_any (W : World) (f e e2 t : ByteArray) (a4 a5 : Option Addr) (n4 c4 n5 c5 : Nat) (l r : List CA) (hf0 : f.size ≤ maxLen) (he0 : e.size ≤ maxLen) (he20 : e2.size ≤ maxLen) (ht0 : t.size ≤ maxLen) (L4 : CL W a4 n4 c4 l) (sm4 : ∀ c ∈ l, c.small) (L5 : CL W a5 n5 c5 r) (sm5 : ∀ c ∈ r, c.small) (hT : Tabs W) :
    Calls Tryz.prog 5 #[.string f, .string e, .string e2, .string t, .slice a4 n4 c4, .slice a5 n5 c5] W fun e w' => e = .returned (.bool true) ∧ Below W.heap.size W w' := by
  have t2 := hT.two
  have HTb : Hid (Tabs W) := hT
  have AL := fun (V : World) (hV : Below W.heap.size W V) => alive11 V (hT.below hV t2)
  have HAL : Hid (∀ (V : World) (hV : Below W.heap.size W V), Calls Tryz.prog 19 #[] V fun e w' => e = .returned (.bool true) ∧ Below V.heap.size V w') := AL
  have CM := made_any W f e a4 n4 c4 l hT hf0 he0 L4 sm4
  clear AL hT sm4 L4
  go_enter Tryz.func5, Tryz.ntmps5
  go_wp2_with fail
  refine CM.mono ?_
  rintro e' w1 (⟨p1, bo, bm, bc, ml, rfl, hp1, s1, l1, k1, X1, L1, hml, B1⟩ | ⟨x, y, z, a', b, c, rfl, B1⟩)
  case inr =>
    obtain ⟨q1, hq1⟩ : ∃ q, q = w1.heap.size := ⟨_, rfl⟩
    obtain ⟨v1, hv1⟩ : ∃ V, V = w1.alloc (.cells #[.string y, .string z, .slice a' b c] 39) := ⟨_, rfl⟩
    have D1 : Below w1.heap.size w1 v1 := by rw [hv1]; exact (Below.refl _ _).alloc (Nat.le_refl _) _
    have M1 : Arr v1 q1 39 [.string y, .string z, .slice a' b c] := by rw [hv1, hq1]; exact heap_alloc_new w1 _
    have E1 := B1.trans (D1.mono B1.size)
    clear CM
    have CM2 := made_any v1 e2 t a5 n5 c5 r (HTb.out.below E1 t2) he20 ht0 (L5.below E1) sm5
    go_wp2_with fail
    rw [← hv1]
    refine CM2.mono ?_
    rintro e' w3 (⟨p2, bo2, bm2, bc2, ml2, rfl, -, -, -, -, -, -, -, C3⟩ | ⟨x2, y2, z2, a2', b2, c2, rfl, C3⟩)
    · have B3 := E1.trans (C3.mono E1.size)
      have BA : Below w3.heap.size w3 (w3.alloc (.cells #[.string e2, .string t, .slice bo2 bm2 bc2] 39)) := (Below.refl _ _).alloc (Nat.le_refl _) _
      have B4 := B3.trans (BA.mono B3.size)
      have AV := HAL.out _ B4
      go_wp2_with fail
      refine AV.mono ?_
      rintro e' wz ⟨rfl, Cz⟩
      go_wp2
      go_ret
      exact ⟨rfl, B4.trans (Cz.mono B4.size)⟩
    · have B3 := E1.trans (C3.mono E1.size)
      have BA : Below w3.heap.size w3 (w3.alloc (.cells #[.string y2, .string z2, .slice a2' b2 c2] 39)) := (Below.refl _ _).alloc (Nat.le_refl _) _
      have B4 := B3.trans (BA.mono B3.size)
      have AV := HAL.out _ B4
      go_wp2_with fail
      refine AV.mono ?_
      rintro e' wz ⟨rfl, Cz⟩
      go_wp2
      go_ret
      exact ⟨rfl, B4.trans (Cz.mono B4.size)⟩

  obtain ⟨cs, hcs⟩ : ∃ cs, cs = layAll [] (l.map CA.c) := ⟨_, rfl⟩
  rw [← hcs] at s1 l1 X1 hml
  clear hcs CM
  obtain ⟨q1, hq1⟩ : ∃ q, q = w1.heap.size := ⟨_, rfl⟩
  obtain ⟨v1, hv1⟩ : ∃ V, V = w1.alloc (.cells #[.string f, .string e, .slice bo bm bc] 39) := ⟨_, rfl⟩
  have D1 : Below w1.heap.size w1 v1 := by rw [hv1]; exact (Below.refl _ _).alloc (Nat.le_refl _) _
  have M1 : Arr v1 q1 39 [.string f, .string e, .slice bo bm bc] := by rw [hv1, hq1]; exact heap_alloc_new w1 _
  have E1 := B1.trans (D1.mono B1.size)
  have CM2 := made_any v1 e2 t a5 n5 c5 r (HTb.out.below E1 t2) he20 ht0 (L5.below E1) sm5
  go_wp2_with fail
  rw [← hv1, ← hq1]
  clear hv1 hq1
  refine CM2.mono ?_
  rintro e' w3 (⟨p2, bo2, bm2, bc2, ml2, rfl, hp2, s2, l2, k2, X3, L3, hml2, C3⟩ | ⟨x2, y2, z2, a2', b2, c2, rfl, C3⟩)
  case inr =>
    have B3 := E1.trans (C3.mono E1.size)
    have BA : Below w3.heap.size w3 (w3.alloc (.cells #[.string y2, .string z2, .slice a2' b2 c2] 39)) := (Below.refl _ _).alloc (Nat.le_refl _) _
    have B4 := B3.trans (BA.mono B3.size)
    clear CM2
    have AV := HAL.out _ B4
    go_wp2_with fail
    refine AV.mono ?_
    rintro e' wz ⟨rfl, Cz⟩
    go_wp2
    go_ret
    exact ⟨rfl, B4.trans (Cz.mono B4.size)⟩

  obtain ⟨ds, hds⟩ : ∃ cs, cs = layAll [] (r.map CA.c) := ⟨_, rfl⟩
  rw [← hds] at s2 l2 X3 hml2
  clear hds CM2
  have B3 := E1.trans (C3.mono E1.size)
  have M1 := arr_below M1 C3
  have X1 := (X1.below D1).below C3
  have L1 := (L1.below D1).below C3
  obtain ⟨q2, hq2⟩ : ∃ q, q = w3.heap.size := ⟨_, rfl⟩
  obtain ⟨v2, hv2⟩ : ∃ V, V = w3.alloc (.cells #[.string e2, .string t, .slice bo2 bm2 bc2] 39) := ⟨_, rfl⟩
  have D2 : Below w3.heap.size w3 v2 := by rw [hv2]; exact (Below.refl _ _).alloc (Nat.le_refl _) _
  have M2 : Arr v2 q2 39 [.string e2, .string t, .slice bo2 bm2 bc2] := by rw [hv2, hq2]; exact heap_alloc_new w3 _
  have E2 := B3.trans (D2.mono B3.size)
  have M1 := arr_below M1 D2
  have X1 := X1.below D2
  have X2 := X3.below D2
  have L1 := L1.below D2
  have L2 := L3.below D2
  clear X3 L3 C3 D1 L5 sm5
  have hlc := s1.len
  have hld := s2.len
  obtain ⟨f32, e32, -⟩ := newK_ok k1
  obtain ⟨e232, t32, -⟩ := newK_ok k2
  have hbm : bm = cs.length := by rw [← hml, List.length_map]; exact L1.len.symm
  have hbm2 : bm2 = ds.length := by rw [← hml2, List.length_map]; exact L2.len.symm
  have HBM : Hid (bm = cs.length) := hbm
  have HBM2 : Hid (bm2 = ds.length) := hbm2
  have hb20 : bm ≤ 20 := by omega
  have hb220 : bm2 ≤ 20 := by omega
  clear hbm hbm2
  have m10 : v2.cell? ⟨q1, 0, none⟩ = some (.string f) := M1.cell 0
  have m11 : v2.cell? ⟨q1, 1, none⟩ = some (.string e) := M1.cell 1
  have m12 : v2.cell? ⟨q1, 2, none⟩ = some (.slice bo bm bc) := M1.cell 2
  have m20 : v2.cell? ⟨q2, 0, none⟩ = some (.string e2) := M2.cell 0
  have m21 : v2.cell? ⟨q2, 1, none⟩ = some (.string t) := M2.cell 1
  have m22 : v2.cell? ⟨q2, 2, none⟩ = some (.slice bo2 bm2 bc2) := M2.cell 2
  by_cases hbad : e.size = 0 ∨ e ≠ e2
  · have CG := merge_bad v2 p1 p2 f e e2 t cs ds X1 X2 hbad
    go_wp2_with fail
    rw [← hv2, ← hq2]
    clear hv2 hq2
    refine CG.mono ?_
    rintro e' w5 ⟨rfl, C5⟩
    have B5 := E2.trans (C5.mono E2.size)
    have m10 : w5.cell? ⟨q1, 0, none⟩ = some (.string f) := (arr_below M1 C5).cell 0
    have m11 : w5.cell? ⟨q1, 1, none⟩ = some (.string e) := (arr_below M1 C5).cell 1
    have m12 : w5.cell? ⟨q1, 2, none⟩ = some (.slice bo bm bc) := (arr_below M1 C5).cell 2
    have m20 : w5.cell? ⟨q2, 0, none⟩ = some (.string e2) := (arr_below M2 C5).cell 0
    have m21 : w5.cell? ⟨q2, 1, none⟩ = some (.string t) := (arr_below M2 C5).cell 1
    have m22 : w5.cell? ⟨q2, 2, none⟩ = some (.slice bo2 bm2 bc2) := (arr_below M2 C5).cell 2
    have CR := rmerge_bad w5 f e e2 t bo bo2 bm bm2 bc bc2 ml ml2 (L1.below C5) (L2.below C5) hbad
    clear CG hbad
    go_wp2_with fail
    refine CR.mono ?_
    rintro e' w6 ⟨rfl, C6⟩
    have B6 := B5.trans (C6.mono B5.size)
    have BA : Below w6.heap.size w6 (w6.alloc (.cells #[.string ⟨#[]⟩, .string ⟨#[]⟩, .slice none 0 0] 39)) := (Below.refl _ _).alloc (Nat.le_refl _) _
    have B7 := B6.trans (BA.mono B6.size)
    clear CR
    have AV := HAL.out _ B7
    go_wp2_with fail
    refine AV.mono ?_
    rintro e' wz ⟨rfl, Cz⟩
    go_wp2
    go_ret
    exact ⟨rfl, B7.trans (Cz.mono B7.size)⟩
  have he : e.size ≠ 0 := fun h => hbad (.inl h)
  obtain rfl : e = e2 := by
    by_cases h : e = e2
    · exact h
    · exact absurd (.inr h) hbad
  clear hbad
  by_cases hfull : 32 < cs.length + ds.length
  · have CG := merge_full v2 p1 p2 f e t 20 20 cs ds (HTb.out.below E2 t2) X1 X2 s1 s2 l1 l2 he k1 k2 hfull (by omega)
    go_wp2_with fail
    rw [← hv2, ← hq2]
    clear hv2 hq2
    refine CG.mono ?_
    rintro e' w5 ⟨rfl, C5⟩
    have B5 := E2.trans (C5.mono E2.size)
    have m10 : w5.cell? ⟨q1, 0, none⟩ = some (.string f) := (arr_below M1 C5).cell 0
    have m11 : w5.cell? ⟨q1, 1, none⟩ = some (.string e) := (arr_below M1 C5).cell 1
    have m12 : w5.cell? ⟨q1, 2, none⟩ = some (.slice bo bm bc) := (arr_below M1 C5).cell 2
    have m20 : w5.cell? ⟨q2, 0, none⟩ = some (.string e) := (arr_below M2 C5).cell 0
    have m21 : w5.cell? ⟨q2, 1, none⟩ = some (.string t) := (arr_below M2 C5).cell 1
    have m22 : w5.cell? ⟨q2, 2, none⟩ = some (.slice bo2 bm2 bc2) := (arr_below M2 C5).cell 2
    have CR := rmerge_full w5 f e t bo bo2 bm bm2 bc bc2 ml ml2 (L1.below C5) (L2.below C5) he (by omega) (by omega) (by have := HBM.out; have := HBM2.out; omega)
    clear CG hfull
    go_wp2_with fail
    refine CR.mono ?_
    rintro e' w6 ⟨rfl, C6⟩
    have B6 := B5.trans (C6.mono B5.size)
    have BA : Below w6.heap.size w6 (w6.alloc (.cells #[.string ⟨#[]⟩, .string ⟨#[]⟩, .slice none 0 0] 39)) := (Below.refl _ _).alloc (Nat.le_refl _) _
    have B7 := B6.trans (BA.mono B6.size)
    clear CR
    have AV := HAL.out _ B7
    go_wp2_with fail
    refine AV.mono ?_
    rintro e' wz ⟨rfl, Cz⟩
    go_wp2
    go_ret
    exact ⟨rfl, B7.trans (Cz.mono B7.size)⟩
  have CG := merge_ok v2 p1 p2 f e t 20 20 cs ds (HTb.out.below E2 t2) X1 X2 s1 s2 l1 l2 he k1 k2 (by omega)
  go_wp2_with fail
  rw [← hv2, ← hq2]
  clear hv2 hq2
  refine CG.mono ?_
  rintro e' w5 ⟨u, rfl, hu, X5, C5⟩
  have B5 := E2.trans (C5.mono E2.size)
  have m10 : w5.cell? ⟨q1, 0, none⟩ = some (.string f) := (arr_below M1 C5).cell 0
  have m11 : w5.cell? ⟨q1, 1, none⟩ = some (.string e) := (arr_below M1 C5).cell 1
  have m12 : w5.cell? ⟨q1, 2, none⟩ = some (.slice bo bm bc) := (arr_below M1 C5).cell 2
  have m20 : w5.cell? ⟨q2, 0, none⟩ = some (.string e) := (arr_below M2 C5).cell 0
  have m21 : w5.cell? ⟨q2, 1, none⟩ = some (.string t) := (arr_below M2 C5).cell 1
  have m22 : w5.cell? ⟨q2, 2, none⟩ = some (.slice bo2 bm2 bc2) := (arr_below M2 C5).cell 2
  have CR := rmerge_ok w5 f e t bo bo2 bm bm2 bc bc2 ml ml2 (L1.below C5) (L2.below C5) he (by omega) (by omega) (by have := HBM.out; have := HBM2.out; omega)
  rw [hml, hml2] at CR
  clear CG
  go_wp2_with fail
  refine CR.mono ?_
  rintro e' w6 ⟨ro, rn, rc, rl, rfl, L6, hrl, C6⟩
  have B6 := B5.trans (C6.mono B5.size)
  obtain ⟨q3, hq3⟩ : ∃ q, q = w6.heap.size := ⟨_, rfl⟩
  obtain ⟨v3, hv3⟩ : ∃ V, V = w6.alloc (.cells #[.string f, .string t, .slice ro rn rc] 39) := ⟨_, rfl⟩
  have D3 : Below w6.heap.size w6 v3 := by rw [hv3]; exact (Below.refl _ _).alloc (Nat.le_refl _) _
  have M3 : Arr v3 q3 39 [.string f, .string t, .slice ro rn rc] := by rw [hv3, hq3]; exact heap_alloc_new w6 _
  have E3 := B6.trans (D3.mono B6.size)
  obtain ⟨s3, k3⟩ := join_stand s1 s2 he k1 k2
  have CS := lsame_any v3 u f t ro rn rc 40 rl (cs ++ ds) ((X5.below C6).below D3) (L6.below D3) hrl s3 (by omega) f32 t32
  have r0 : v3.cell? ⟨q3, 0, none⟩ = some (.string f) := M3.cell 0
  have r1 : v3.cell? ⟨q3, 1, none⟩ = some (.string t) := M3.cell 1
  have r2 : v3.cell? ⟨q3, 2, none⟩ = some (.slice ro rn rc) := M3.cell 2
  have y0 : (w6.alloc (.cells #[.string f, .string t, .slice ro rn rc] 39)).cell? ⟨w6.heap.size, 0, none⟩ = some (.string f) := by rw [← hv3, ← hq3]; exact r0
  have y1 : (w6.alloc (.cells #[.string f, .string t, .slice ro rn rc] 39)).cell? ⟨w6.heap.size, 1, none⟩ = some (.string t) := by rw [← hv3, ← hq3]; exact r1
  have y2 : (w6.alloc (.cells #[.string f, .string t, .slice ro rn rc] 39)).cell? ⟨w6.heap.size, 2, none⟩ = some (.slice ro rn rc) := by rw [← hv3, ← hq3]; exact r2
  clear CR
  go_wp2_with fail
  rw [← hv3]
  clear hv3 hq3 y0 y1 y2
  refine CS.mono ?_
  rintro e' w7 ⟨rfl, C7⟩
  have B7 := E3.trans (C7.mono E3.size)
  have CC := C5.trans ((C6.trans ((D3.trans (C7.mono D3.size)).mono C6.size)).mono C5.size)
  have m10 : w7.cell? ⟨q1, 0, none⟩ = some (.string f) := (arr_below M1 CC).cell 0
  have m11 : w7.cell? ⟨q1, 1, none⟩ = some (.string e) := (arr_below M1 CC).cell 1
  have m12 : w7.cell? ⟨q1, 2, none⟩ = some (.slice bo bm bc) := (arr_below M1 CC).cell 2
  have m20 : w7.cell? ⟨q2, 0, none⟩ = some (.string e) := (arr_below M2 CC).cell 0
  have m21 : w7.cell? ⟨q2, 1, none⟩ = some (.string t) := (arr_below M2 CC).cell 1
  have m22 : w7.cell? ⟨q2, 2, none⟩ = some (.slice bo2 bm2 bc2) := (arr_below M2 CC).cell 2
  have CS := lsame_any w7 p1 f e bo bm bc 20 ml cs (X1.below CC) (L1.below CC) hml s1 (by omega) f32 e32
  go_wp2_with fail
  refine CS.mono ?_
  rintro e' w8 ⟨rfl, C8⟩
  have B8 := B7.trans (C8.mono B7.size)
  have CD := CC.trans (C8.mono CC.size)
  have m10 : w8.cell? ⟨q1, 0, none⟩ = some (.string f) := (arr_below M1 CD).cell 0
  have m11 : w8.cell? ⟨q1, 1, none⟩ = some (.string e) := (arr_below M1 CD).cell 1
  have m12 : w8.cell? ⟨q1, 2, none⟩ = some (.slice bo bm bc) := (arr_below M1 CD).cell 2
  have m20 : w8.cell? ⟨q2, 0, none⟩ = some (.string e) := (arr_below M2 CD).cell 0
  have m21 : w8.cell? ⟨q2, 1, none⟩ = some (.string t) := (arr_below M2 CD).cell 1
  have m22 : w8.cell? ⟨q2, 2, none⟩ = some (.slice bo2 bm2 bc2) := (arr_below M2 CD).cell 2
  have CS := lsame_any w8 p2 e t bo2 bm2 bc2 20 ml2 ds (X2.below CD) (L2.below CD) hml2 s2 (by omega) e32 t32
  go_wp2_with fail
  refine CS.mono ?_
  rintro e' w9 ⟨rfl, C9⟩
  have B9 := B8.trans (C9.mono B8.size)
  clear CS
  have AV := HAL.out w9 B9
  go_wp2_with fail
  refine AV.mono ?_
  rintro e' wz ⟨rfl, Cz⟩
  go_wp2
  go_ret
  exact ⟨rfl, B9.trans (Cz.mono B9.size)⟩
open Go.RowKit
def opT : OpTypes Tryz.prog where
  op := 28
  key := 24
  int := 3
  str := 9
  u64 := 22
  bys := 25
  u8 := 5
  bool := 4
  subs := 26
  f0 := { name := "Kind", type := 3, offset := 0, embedded := false, tag := "", pkgPath := "", byteOffset := 0 }
  f1 := { name := "K", type := 24, offset := 1, embedded := false, tag := "", pkgPath := "", byteOffset := 8 }
  f2 := { name := "To", type := 9, offset := 5, embedded := false, tag := "", pkgPath := "", byteOffset := 64 }
  f3 := { name := "Value", type := 25, offset := 6, embedded := false, tag := "", pkgPath := "", byteOffset := 80 }
  f4 := { name := "Want", type := 25, offset := 7, embedded := false, tag := "", pkgPath := "", byteOffset := 104 }
  f5 := { name := "Has", type := 4, offset := 8, embedded := false, tag := "", pkgPath := "", byteOffset := 128 }
  f6 := { name := "Sub", type := 26, offset := 9, embedded := false, tag := "", pkgPath := "", byteOffset := 136 }
  g0 := { name := "Row", type := 9, offset := 0, embedded := false, tag := "", pkgPath := "", byteOffset := 0 }
  g1 := { name := "Family", type := 9, offset := 1, embedded := false, tag := "", pkgPath := "", byteOffset := 16 }
  g2 := { name := "Qual", type := 9, offset := 2, embedded := false, tag := "", pkgPath := "", byteOffset := 32 }
  g3 := { name := "Time", type := 22, offset := 3, embedded := false, tag := "", pkgPath := "", byteOffset := 48 }
  hop := Tryz.underlying28
  hkey := Tryz.underlying24
  hint := Tryz.underlying3
  hstr := Tryz.underlying9
  hu64 := Tryz.underlying22
  hbys := Tryz.underlying25
  hu8 := Tryz.underlying5
  hbool := Tryz.underlying4
  hsubs := Tryz.underlying26
  cop := by kernel_rfl
  ckey := by kernel_rfl
  cint := by kernel_rfl
  cstr := by kernel_rfl
  cu64 := by kernel_rfl
  cbys := by kernel_rfl
  cu8 := by kernel_rfl
  bu8 := by kernel_rfl
  cbool := by kernel_rfl
  csubs := by kernel_rfl
  o0 := ⟨rfl, rfl⟩
  o1 := ⟨rfl, rfl⟩
  o2 := ⟨rfl, rfl⟩
  o3 := ⟨rfl, rfl⟩
  o4 := ⟨rfl, rfl⟩
  o5 := ⟨rfl, rfl⟩
  o6 := ⟨rfl, rfl⟩
  p0 := ⟨rfl, rfl⟩
  p1 := ⟨rfl, rfl⟩
  p2 := ⟨rfl, rfl⟩
  p3 := ⟨rfl, rfl⟩
open Go.RowKit
def cellT : CellTypes Tryz.prog opT where
  cel := 33
  cels := 31
  f0 := { name := "K", type := 24, offset := 0, embedded := false, tag := "", pkgPath := "", byteOffset := 0 }
  f1 := { name := "Value", type := 25, offset := 4, embedded := false, tag := "", pkgPath := "", byteOffset := 56 }
  f2 := { name := "Gone", type := 4, offset := 5, embedded := false, tag := "", pkgPath := "", byteOffset := 80 }
  hcel := Tryz.underlying33
  hcels := Tryz.underlying31
  ccel := by kernel_rfl
  o0 := ⟨rfl, rfl⟩
  o1 := ⟨rfl, rfl⟩
  o2 := ⟨rfl, rfl⟩
end Go.Proofs.YtlljmhcgjkolpaaGreatDoor
