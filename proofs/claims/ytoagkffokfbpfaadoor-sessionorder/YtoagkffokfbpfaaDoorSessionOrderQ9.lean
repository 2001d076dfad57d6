/-
  Texts in one: OrderLaw12.
-/
import Derived.Test.YtoagkffokfbpfaaDoorSessionOrderQFL
import Derived.Test.YtoagkffokfbpfaaDoorSessionOrderQ5
import Derived.Test.YtoagkffokfbpfaaDoorSessionOrderQ7
import Derived.Test.YtoagkffokfbpfaaDoorSessionOrderQ8
namespace Go.Proofs.YtoagkffokfbpfaaDoor
open Go.RowKit
theorem two_new (w : World) (ya yb : LA) (ha : ya.ok w) (hb : yb.ok w) : LL12 (w.alloc (.cells #[.int .u64 ya.cl, .int .u64 ya.st, .int .i64 ya.e, .slice ya.ao ya.n ya.cap, .bool ya.m, .int .u64 yb.cl, .int .u64 yb.st, .int .i64 yb.e, .slice yb.ao yb.n yb.cap, .bool yb.m] 39)) (some ⟨w.heap.size, 0, none⟩) 2 2 [ya, yb] := by
  have B : Below w.heap.size w (w.alloc (.cells #[.int .u64 ya.cl, .int .u64 ya.st, .int .i64 ya.e, .slice ya.ao ya.n ya.cap, .bool ya.m, .int .u64 yb.cl, .int .u64 yb.st, .int .i64 yb.e, .slice yb.ao yb.n yb.cap, .bool yb.m] 39)) := (Below.refl _ _).alloc (Nat.le_refl _) _
  refine ⟨rfl, Nat.le_refl _, by decide, fun h => by simp at h, fun a ha i hi j v hv => ?_, fun y hy => ?_⟩
  · obtain rfl := Option.some.inj ha
    rw [Addr.add_lit, Nat.zero_add, cell_of_row _ w.heap.size (i * 5 + j) _ _ _ (heap_alloc_new w _)]
    have hj : j < 5 := (List.getElem?_eq_some_iff.1 hv).1
    simp only [List.length_cons, List.length_nil] at hi
    match i, hi with
    | 0, _ => match j, hj with
      | 0, _ => simpa [LA.cells] using hv
      | 1, _ => simpa [LA.cells] using hv
      | 2, _ => simpa [LA.cells] using hv
      | 3, _ => simpa [LA.cells] using hv
      | 4, _ => simpa [LA.cells] using hv
    | 1, _ => match j, hj with
      | 0, _ => simpa [LA.cells] using hv
      | 1, _ => simpa [LA.cells] using hv
      | 2, _ => simpa [LA.cells] using hv
      | 3, _ => simpa [LA.cells] using hv
      | 4, _ => simpa [LA.cells] using hv
  · simp only [List.mem_cons, List.not_mem_nil, or_false] at hy
    rcases hy with rfl | rfl
    · exact ha.below B
    · exact hb.below B
set_option maxRecDepth 100000 in
set_option maxHeartbeats 8000000 in
theorem sessionOrder_any (w : World) (ao : Option Addr) (n cap : Nat) (ns : List Nat) (h : NL w ao n cap ns) (ya yb : LA) (oka : ya.ok w) (okb : yb.ok w) (smya : ya.small) (smyb : yb.small) (hT : Tabs w) :
    Calls Tryd.prog 6 #[.slice ao n cap, .agg #[.int .u64 ya.cl, .int .u64 ya.st, .int .i64 ya.e, .slice ya.ao ya.n ya.cap, .bool ya.m], .agg #[.int .u64 yb.cl, .int .u64 yb.st, .int .i64 yb.e, .slice yb.ao yb.n yb.cap, .bool yb.m]] w fun e w' => e = .returned (.bool true) ∧ Below w.heap.size w w' := by
  have t2 := hT.two
  have hl := h.len
  have hmx := h.mx
  have hle := h.le
  have hnx : (n : Int) ≤ 9223372036854775807 := by unfold maxLen at hmx; omega
  have BX : Below w.heap.size w ((w.alloc (.cells #[.int .u64 ya.cl, .int .u64 ya.st, .int .i64 ya.e, .slice ya.ao ya.n ya.cap, .bool ya.m] 39)).alloc (.cells #[.int .u64 yb.cl, .int .u64 yb.st, .int .i64 yb.e, .slice yb.ao yb.n yb.cap, .bool yb.m] 39)) := ((Below.refl _ w).alloc (Nat.le_refl _) _).alloc (by simp) _
  have KA : ((w.alloc (.cells #[.int .u64 ya.cl, .int .u64 ya.st, .int .i64 ya.e, .slice ya.ao ya.n ya.cap, .bool ya.m] 39)).alloc (.cells #[.int .u64 yb.cl, .int .u64 yb.st, .int .i64 yb.e, .slice yb.ao yb.n yb.cap, .bool yb.m] 39)).heap[w.heap.size]? = some (.cells #[.int .u64 ya.cl, .int .u64 ya.st, .int .i64 ya.e, .slice ya.ao ya.n ya.cap, .bool ya.m] 39) := (heap_alloc_old _ _ (by simp)).trans (heap_alloc_new w _)
  have KB : ((w.alloc (.cells #[.int .u64 ya.cl, .int .u64 ya.st, .int .i64 ya.e, .slice ya.ao ya.n ya.cap, .bool ya.m] 39)).alloc (.cells #[.int .u64 yb.cl, .int .u64 yb.st, .int .i64 yb.e, .slice yb.ao yb.n yb.cap, .bool yb.m] 39)).heap[w.heap.size + 1]? = some (.cells #[.int .u64 yb.cl, .int .u64 yb.st, .int .i64 yb.e, .slice yb.ao yb.n yb.cap, .bool yb.m] 39) := by
    have := heap_alloc_new (w.alloc (.cells #[.int .u64 ya.cl, .int .u64 ya.st, .int .i64 ya.e, .slice ya.ao ya.n ya.cap, .bool ya.m] 39)) (.cells #[.int .u64 yb.cl, .int .u64 yb.st, .int .i64 yb.e, .slice yb.ao yb.n yb.cap, .bool yb.m] 39)
    simpa using this
  go_enter Tryd.func6, Tryd.ntmps6
  go_wp2_with fail
  obtain ⟨W0, hW0⟩ : ∃ W, W = (w.alloc (.cells #[.int .u64 ya.cl, .int .u64 ya.st, .int .i64 ya.e, .slice ya.ao ya.n ya.cap, .bool ya.m] 39)).alloc (.cells #[.int .u64 yb.cl, .int .u64 yb.st, .int .i64 yb.e, .slice yb.ao yb.n yb.cap, .bool yb.m] 39) := ⟨_, rfl⟩
  obtain ⟨A0, hA0⟩ : ∃ N, N = w.heap.size := ⟨_, rfl⟩
  rw [← hW0] at BX KA KB ⊢
  rw [← hA0] at KA KB ⊢
  obtain ⟨B0, hB0⟩ : ∃ N, N = A0 + 1 := ⟨_, rfl⟩
  rw [← hB0] at KB ⊢
  clear hW0 hA0 hB0
  have HS : Hid (∀ V, Below W0.heap.size W0 V → V.cell? ⟨A0, 0, none⟩ = some (.int .u64 ya.cl) ∧ V.cell? ⟨A0, 1, none⟩ = some (.int .u64 ya.st) ∧ V.cell? ⟨A0, 2, none⟩ = some (.int .i64 ya.e) ∧ V.cell? ⟨A0, 3, none⟩ = some (.slice ya.ao ya.n ya.cap) ∧ V.cell? ⟨A0, 4, none⟩ = some (.bool ya.m) ∧ V.cell? ⟨B0, 0, none⟩ = some (.int .u64 yb.cl) ∧ V.cell? ⟨B0, 1, none⟩ = some (.int .u64 yb.st) ∧ V.cell? ⟨B0, 2, none⟩ = some (.int .i64 yb.e) ∧ V.cell? ⟨B0, 3, none⟩ = some (.slice yb.ao yb.n yb.cap) ∧ V.cell? ⟨B0, 4, none⟩ = some (.bool yb.m)) := fun V hV => by
    have ka := (hV.block A0 (Array.getElem?_eq_some_iff.1 KA).1).trans KA
    have kb := (hV.block B0 (Array.getElem?_eq_some_iff.1 KB).1).trans KB
    exact ⟨cell_of_row V A0 0 _ _ _ ka, cell_of_row V A0 1 _ _ _ ka, cell_of_row V A0 2 _ _ _ ka, cell_of_row V A0 3 _ _ _ ka, cell_of_row V A0 4 _ _ _ ka, cell_of_row V B0 0 _ _ _ kb, cell_of_row V B0 1 _ _ _ kb, cell_of_row V B0 2 _ _ _ kb, cell_of_row V B0 3 _ _ _ kb, cell_of_row V B0 4 _ _ _ kb⟩
  have okya := oka.below BX
  have okyb := okb.below BX
  have hN := h.below BX
  have TW := hT.below BX t2
  have t0 : 2 ≤ W0.heap.size := Nat.le_trans t2 BX.size
  clear h oka okb KA KB hT t2
  by_cases hj : jdg ns = 0
  · have hn8 : n ≤ 8 := by
      unfold jdg at hj
      by_cases q : 1 ≤ ns.length ∧ ns.length ≤ 8 ∧ riseF 0 ns = true
      · omega
      · rw [if_neg q] at hj
        cases hj
    have hni : (n : Int) ≤ 100 := by omega
    have CN := cNew_good W0 ao n cap ns hN hj
    refine CN.mono ?_
    rintro x w1 ⟨p1, g1, rfl, T1, hp1, hg1, C1⟩
    have CN := cNew_good w1 ao n cap ns (hN.below C1) hj
    clear hN
    go_wp2_with fail
    refine CN.mono ?_
    rintro x w2 ⟨p2, g2, rfl, T2, hp2, hg2, C2⟩
    have l1 := T1.plt
    have l2 := T1.glt
    have ne1 := T1.ne
    have ne2 := T2.ne
    have hgg1 : W0.heap.size ≤ g1 := hg1
    have hgg2 : W0.heap.size ≤ g2 := Nat.le_trans C1.size hg2
    have T1 := T1.below C2
    have BW := C1.trans (C2.mono C1.size)
    clear CN C1 C2
    obtain ⟨s0, s1, s2, s3, s4, s5, s6, s7, s8, s9⟩ := HS.out w2 BW
    have AB : Below w2.heap.size w2 (w2.alloc (.cells #[.int .u64 ya.cl, .int .u64 ya.st, .int .i64 ya.e, .slice ya.ao ya.n ya.cap, .bool ya.m, .int .u64 yb.cl, .int .u64 yb.st, .int .i64 yb.e, .slice yb.ao yb.n yb.cap, .bool yb.m] 39)) := (Below.refl _ _).alloc (Nat.le_refl _) _
    have LLB : LL12 (w2.alloc (.cells #[.int .u64 ya.cl, .int .u64 ya.st, .int .i64 ya.e, .slice ya.ao ya.n ya.cap, .bool ya.m, .int .u64 yb.cl, .int .u64 yb.st, .int .i64 yb.e, .slice yb.ao yb.n yb.cap, .bool yb.m] 39)) (some ⟨w2.heap.size, 0, none⟩) 2 2 [ya, yb] := two_new w2 ya yb (okya.below BW) (okyb.below BW)
    have CC := llight_any _ _ _ _ _ LLB (fun y hy => by
      simp only [List.mem_cons, List.not_mem_nil, or_false] at hy
      rcases hy with rfl | rfl
      · exact smya
      · exact smyb)
    have BL := BW.trans (AB.mono BW.size)
    go_wp2_with fail
    obtain ⟨w3, hw3⟩ : ∃ W, W = w2.alloc (.cells #[.int .u64 ya.cl, .int .u64 ya.st, .int .i64 ya.e, .slice ya.ao ya.n ya.cap, .bool ya.m, .int .u64 yb.cl, .int .u64 yb.st, .int .i64 yb.e, .slice yb.ao yb.n yb.cap, .bool yb.m] 39) := ⟨_, rfl⟩
    obtain ⟨M, hM⟩ : ∃ M, M = w2.heap.size := ⟨_, rfl⟩
    rw [← hw3] at CC BL AB ⊢
    rw [← hM] at CC ⊢
    have T1 := T1.below AB
    have T2 := T2.below AB
    clear hw3 hM LLB s0 s1 s2 s3 s4 s5 s6 s7 s8 s9 AB BW
    refine CC.mono ?_
    rintro x w4 ⟨rfl, C4⟩
    have T1 := T1.below C4
    have T2 := T2.below C4
    have D4 := BL.trans (C4.mono BL.size)
    clear CC C4 BL
    obtain ⟨s0, s1, s2, s3, s4, s5, s6, s7, s8, s9⟩ := HS.out w4 D4
    have B4 := BX.trans (D4.mono BX.size)
    cases hlt : lightL [ya, yb] with
    | false =>
      have CA := alive12 w4
      clear hlt
      go_wp2_with fail
      refine CA.mono ?_
      rintro x w5 ⟨rfl, C5⟩
      have B5 := B4.trans (C5.mono B4.size)
      clear CA
      go_wp2
      go_ret
      exact ⟨rfl, B5⟩
    | true =>
      clear hlt
      by_cases hab : ya.cl = yb.cl
      · have i1 : ((ya.cl : Int) == (yb.cl : Int)) = true := by simp; omega
        have CA := alive12 w4
        clear hab
        go_wp2_with fail
        refine CA.mono ?_
        rintro x w5 ⟨rfl, C5⟩
        have B5 := B4.trans (C5.mono B4.size)
        clear CA
        go_wp2
        go_ret
        exact ⟨rfl, B5⟩
      have i1 : ((ya.cl : Int) == (yb.cl : Int)) = false := by simp; omega
      have HK1 : Hid ((putE (putE (newT ns) ya.cl ya.st (resR ya.e ya.cs ya.m)).1 yb.cl yb.st (resR yb.e yb.cs yb.m)).2 = (putE (newT ns) yb.cl yb.st (resR yb.e yb.cs yb.m)).2) := putE_two _ _ _ _ _ hab
      have HK2 : Hid ((putE (putE (newT ns) yb.cl yb.st (resR yb.e yb.cs yb.m)).1 ya.cl ya.st (resR ya.e ya.cs ya.m)).2 = (putE (newT ns) ya.cl ya.st (resR ya.e ya.cs ya.m)).2) := putE_two _ _ _ _ _ (fun e => hab e.symm)
      have HK3 : Hid ((putE (putE (newT ns) ya.cl ya.st (resR ya.e ya.cs ya.m)).1 yb.cl yb.st (resR yb.e yb.cs yb.m)).1 = (putE (putE (newT ns) yb.cl yb.st (resR yb.e yb.cs yb.m)).1 ya.cl ya.st (resR ya.e ya.cs ya.m)).1) := putE_comm _ _ _ _ _ hab
      clear hab
      have Dx := D4
      go_wp2_with fail
      have xE0 : Below W0.heap.size W0 w4.drew := Dx.trans ((Below.refl _ _).drew)
      refine wp_region_noPanic ?_
      refine wp_region_held_drew (S := fun V => V.cell? ⟨A0, 0, none⟩ = some (.int .u64 ya.cl) ∧ V.cell? ⟨A0, 1, none⟩ = some (.int .u64 ya.st) ∧ V.cell? ⟨A0, 2, none⟩ = some (.int .i64 ya.e) ∧ V.cell? ⟨A0, 3, none⟩ = some (.slice ya.ao ya.n ya.cap) ∧ V.cell? ⟨A0, 4, none⟩ = some (.bool ya.m) ∧ V.cell? ⟨B0, 0, none⟩ = some (.int .u64 yb.cl) ∧ V.cell? ⟨B0, 1, none⟩ = some (.int .u64 yb.st) ∧ V.cell? ⟨B0, 2, none⟩ = some (.int .i64 yb.e) ∧ V.cell? ⟨B0, 3, none⟩ = some (.slice yb.ao yb.n yb.cap) ∧ V.cell? ⟨B0, 4, none⟩ = some (.bool yb.m)) (by kernel_rfl) (HS.out _ xE0) (fun xH0 => ?_)
      have T1 := T1.below (Below.refl _ _).drew
      have T2 := T2.below (Below.refl _ _).drew
      obtain ⟨xv0, hv0⟩ : ∃ v, v = w4.drew := ⟨_, rfl⟩
      rw [← hv0] at xH0 xE0 T1 T2 ⊢
      clear hv0
      refine hr_take_w 0 (some 51) (.pointer (some ⟨p1, 0, none⟩)) rfl rfl (by kernel_rfl) (by kernel_rfl) (by kernel_rfl) rfl (fun W hW => by obtain ⟨h0, h1, h2, h3, h4, h5, h6, h7, h8, h9⟩ := hW; go_simp) xH0 ?_
      simp only [FL]
      refine hr_take_w 1 (some 52) (.pointer (some ⟨A0, 0, none⟩)) rfl rfl (by kernel_rfl) (by kernel_rfl) (by kernel_rfl) rfl (fun W hW => by obtain ⟨h0, h1, h2, h3, h4, h5, h6, h7, h8, h9⟩ := hW; go_simp) xH0 ?_
      simp only [FL]
      refine hr_take_w 2 (some 53) (.int .u64 ya.cl) rfl rfl (by kernel_rfl) (by kernel_rfl) (by kernel_rfl) rfl (fun W hW => by obtain ⟨h0, h1, h2, h3, h4, h5, h6, h7, h8, h9⟩ := hW; go_simp) xH0 ?_
      simp only [FL]
      refine hr_take_w 3 (some 54) (.pointer (some ⟨A0, 1, none⟩)) rfl rfl (by kernel_rfl) (by kernel_rfl) (by kernel_rfl) rfl (fun W hW => by obtain ⟨h0, h1, h2, h3, h4, h5, h6, h7, h8, h9⟩ := hW; go_simp) xH0 ?_
      simp only [FL]
      refine hr_take_w 4 (some 55) (.int .u64 ya.st) rfl rfl (by kernel_rfl) (by kernel_rfl) (by kernel_rfl) rfl (fun W hW => by obtain ⟨h0, h1, h2, h3, h4, h5, h6, h7, h8, h9⟩ := hW; go_simp) xH0 ?_
      simp only [FL]
      refine hr_take_w 5 (some 56) (.pointer (some ⟨A0, 2, none⟩)) rfl rfl (by kernel_rfl) (by kernel_rfl) (by kernel_rfl) rfl (fun W hW => by obtain ⟨h0, h1, h2, h3, h4, h5, h6, h7, h8, h9⟩ := hW; go_simp) xH0 ?_
      simp only [FL]
      refine hr_take_w 6 (some 57) (.agg #[.int .i64 ya.e, .slice ya.ao ya.n ya.cap, .bool ya.m]) rfl rfl (by kernel_rfl) (by kernel_rfl) (by kernel_rfl) rfl (fun W hW => by obtain ⟨h0, h1, h2, h3, h4, h5, h6, h7, h8, h9⟩ := hW; go_simp) xH0 ?_
      simp only [FL]
      refine hr_take_w 8 (some 59) (.pointer (some ⟨p1, 0, none⟩)) rfl rfl (by kernel_rfl) (by kernel_rfl) (by kernel_rfl) rfl (fun W hW => by obtain ⟨h0, h1, h2, h3, h4, h5, h6, h7, h8, h9⟩ := hW; go_simp) xH0 ?_
      simp only [FL]
      refine hr_take_w 9 (some 60) (.pointer (some ⟨B0, 0, none⟩)) rfl rfl (by kernel_rfl) (by kernel_rfl) (by kernel_rfl) rfl (fun W hW => by obtain ⟨h0, h1, h2, h3, h4, h5, h6, h7, h8, h9⟩ := hW; go_simp) xH0 ?_
      simp only [FL]
      refine hr_take_w 10 (some 61) (.int .u64 yb.cl) rfl rfl (by kernel_rfl) (by kernel_rfl) (by kernel_rfl) rfl (fun W hW => by obtain ⟨h0, h1, h2, h3, h4, h5, h6, h7, h8, h9⟩ := hW; go_simp) xH0 ?_
      simp only [FL]
      refine hr_take_w 11 (some 62) (.pointer (some ⟨B0, 1, none⟩)) rfl rfl (by kernel_rfl) (by kernel_rfl) (by kernel_rfl) rfl (fun W hW => by obtain ⟨h0, h1, h2, h3, h4, h5, h6, h7, h8, h9⟩ := hW; go_simp) xH0 ?_
      simp only [FL]
      refine hr_take_w 12 (some 63) (.int .u64 yb.st) rfl rfl (by kernel_rfl) (by kernel_rfl) (by kernel_rfl) rfl (fun W hW => by obtain ⟨h0, h1, h2, h3, h4, h5, h6, h7, h8, h9⟩ := hW; go_simp) xH0 ?_
      simp only [FL]
      refine hr_take_w 13 (some 64) (.pointer (some ⟨B0, 2, none⟩)) rfl rfl (by kernel_rfl) (by kernel_rfl) (by kernel_rfl) rfl (fun W hW => by obtain ⟨h0, h1, h2, h3, h4, h5, h6, h7, h8, h9⟩ := hW; go_simp) xH0 ?_
      simp only [FL]
      refine hr_take_w 14 (some 65) (.agg #[.int .i64 yb.e, .slice yb.ao yb.n yb.cap, .bool yb.m]) rfl rfl (by kernel_rfl) (by kernel_rfl) (by kernel_rfl) rfl (fun W hW => by obtain ⟨h0, h1, h2, h3, h4, h5, h6, h7, h8, h9⟩ := hW; go_simp) xH0 ?_
      simp only [FL]
      refine hr_call_w 7 (some 58) 13 #[.pointer (some ⟨p1, 0, none⟩), .int .u64 ya.cl, .int .u64 ya.st, .agg #[.int .i64 ya.e, .slice ya.ao ya.n ya.cap, .bool ya.m]] rfl rfl (by kernel_rfl) rfl (by go_simp) (fun v w' => v = .int .i64 (putE (newT ns) ya.cl ya.st (resR ya.e ya.cs ya.m)).2 ∧ TS w' p1 g1 (putE (newT ns) ya.cl ya.st (resR ya.e ya.cs ya.m)).1 ∧ xv0.grownBy w' (some g1)) ((cPut_any xv0 p1 g1 ya.cl ya.st _ T1 okya.cl okya.st ya.e ya.ao ya.n ya.cap ya.cs ya.m ((okya.cs).below xE0)).mono (by
        rintro e w' ⟨rfl, F, C⟩
        exact ⟨_, rfl, rfl, F, C⟩)) ?_
      rintro v xv1 ⟨rfl, xF0, xG0⟩
      have xE1 := xE0.grown xG0 xE0.size (fun _ e => by cases e; exact hgg1)
      have xH1 := HS.out xv1 xE1
      clear T1
      have T1 := xF0
      have T2 := T2.grown xG0 (by omega) (by omega)
      refine ⟨xH1, ?_⟩
      simp only [FL]
      refine hr_call_w 15 (some 66) 13 #[.pointer (some ⟨p1, 0, none⟩), .int .u64 yb.cl, .int .u64 yb.st, .agg #[.int .i64 yb.e, .slice yb.ao yb.n yb.cap, .bool yb.m]] rfl rfl (by kernel_rfl) rfl (by go_simp) (fun v w' => v = .int .i64 (putE (putE (newT ns) ya.cl ya.st (resR ya.e ya.cs ya.m)).1 yb.cl yb.st (resR yb.e yb.cs yb.m)).2 ∧ TS w' p1 g1 (putE (putE (newT ns) ya.cl ya.st (resR ya.e ya.cs ya.m)).1 yb.cl yb.st (resR yb.e yb.cs yb.m)).1 ∧ xv1.grownBy w' (some g1)) ((cPut_any xv1 p1 g1 yb.cl yb.st _ T1 okyb.cl okyb.st yb.e yb.ao yb.n yb.cap yb.cs yb.m ((okyb.cs).below xE1)).mono (by
        rintro e w' ⟨rfl, F, C⟩
        exact ⟨_, rfl, rfl, F, C⟩)) ?_
      rintro v xv2 ⟨rfl, xF1, xG1⟩
      have xE2 := xE1.grown xG1 xE1.size (fun _ e => by cases e; exact hgg1)
      have xH2 := HS.out xv2 xE2
      clear T1
      have T1 := xF1
      have T2 := T2.grown xG1 (by omega) (by omega)
      refine ⟨xH2, ?_⟩
      simp only [FL]
      refine hr_take_w 16 (some 11) (.int .i64 (putE (newT ns) ya.cl ya.st (resR ya.e ya.cs ya.m)).2) rfl rfl (by kernel_rfl) (by kernel_rfl) (by kernel_rfl) rfl (fun W hW => by obtain ⟨h0, h1, h2, h3, h4, h5, h6, h7, h8, h9⟩ := hW; go_simp) xH2 ?_
      simp only [FL]
      refine hr_take_w 17 (some 12) (.int .i64 (putE (putE (newT ns) ya.cl ya.st (resR ya.e ya.cs ya.m)).1 yb.cl yb.st (resR yb.e yb.cs yb.m)).2) rfl rfl (by kernel_rfl) (by kernel_rfl) (by kernel_rfl) rfl (fun W hW => by obtain ⟨h0, h1, h2, h3, h4, h5, h6, h7, h8, h9⟩ := hW; go_simp) xH2 ?_
      simp only [FL]
      refine wpAnyH_done (by kernel_rfl) ?_ _
      refine NoPanic.normal ?_
      clear s0 s1 s2 s3 s4 s5 s6 s7 s8 s9 i1 xH0 xH1 xH2 xF0 xF1 xG0 xG1
      have Dy := xE2
      go_wp2_with fail
      have yE0 : Below W0.heap.size W0 xv2.drew := Dy.trans ((Below.refl _ _).drew)
      refine wp_region_noPanic ?_
      refine wp_region_held_drew (S := fun V => V.cell? ⟨A0, 0, none⟩ = some (.int .u64 ya.cl) ∧ V.cell? ⟨A0, 1, none⟩ = some (.int .u64 ya.st) ∧ V.cell? ⟨A0, 2, none⟩ = some (.int .i64 ya.e) ∧ V.cell? ⟨A0, 3, none⟩ = some (.slice ya.ao ya.n ya.cap) ∧ V.cell? ⟨A0, 4, none⟩ = some (.bool ya.m) ∧ V.cell? ⟨B0, 0, none⟩ = some (.int .u64 yb.cl) ∧ V.cell? ⟨B0, 1, none⟩ = some (.int .u64 yb.st) ∧ V.cell? ⟨B0, 2, none⟩ = some (.int .i64 yb.e) ∧ V.cell? ⟨B0, 3, none⟩ = some (.slice yb.ao yb.n yb.cap) ∧ V.cell? ⟨B0, 4, none⟩ = some (.bool yb.m)) (by kernel_rfl) (HS.out _ yE0) (fun yH0 => ?_)
      have T2 := T2.below (Below.refl _ _).drew
      have T1 := T1.below (Below.refl _ _).drew
      obtain ⟨yv0, hv0⟩ : ∃ v, v = xv2.drew := ⟨_, rfl⟩
      rw [← hv0] at yH0 yE0 T2 T1 ⊢
      clear hv0
      refine hr_take_w 0 (some 67) (.pointer (some ⟨p2, 0, none⟩)) rfl rfl (by kernel_rfl) (by kernel_rfl) (by kernel_rfl) rfl (fun W hW => by obtain ⟨h0, h1, h2, h3, h4, h5, h6, h7, h8, h9⟩ := hW; go_simp) yH0 ?_
      simp only [FL]
      refine hr_take_w 1 (some 68) (.pointer (some ⟨B0, 0, none⟩)) rfl rfl (by kernel_rfl) (by kernel_rfl) (by kernel_rfl) rfl (fun W hW => by obtain ⟨h0, h1, h2, h3, h4, h5, h6, h7, h8, h9⟩ := hW; go_simp) yH0 ?_
      simp only [FL]
      refine hr_take_w 2 (some 69) (.int .u64 yb.cl) rfl rfl (by kernel_rfl) (by kernel_rfl) (by kernel_rfl) rfl (fun W hW => by obtain ⟨h0, h1, h2, h3, h4, h5, h6, h7, h8, h9⟩ := hW; go_simp) yH0 ?_
      simp only [FL]
      refine hr_take_w 3 (some 70) (.pointer (some ⟨B0, 1, none⟩)) rfl rfl (by kernel_rfl) (by kernel_rfl) (by kernel_rfl) rfl (fun W hW => by obtain ⟨h0, h1, h2, h3, h4, h5, h6, h7, h8, h9⟩ := hW; go_simp) yH0 ?_
      simp only [FL]
      refine hr_take_w 4 (some 71) (.int .u64 yb.st) rfl rfl (by kernel_rfl) (by kernel_rfl) (by kernel_rfl) rfl (fun W hW => by obtain ⟨h0, h1, h2, h3, h4, h5, h6, h7, h8, h9⟩ := hW; go_simp) yH0 ?_
      simp only [FL]
      refine hr_take_w 5 (some 72) (.pointer (some ⟨B0, 2, none⟩)) rfl rfl (by kernel_rfl) (by kernel_rfl) (by kernel_rfl) rfl (fun W hW => by obtain ⟨h0, h1, h2, h3, h4, h5, h6, h7, h8, h9⟩ := hW; go_simp) yH0 ?_
      simp only [FL]
      refine hr_take_w 6 (some 73) (.agg #[.int .i64 yb.e, .slice yb.ao yb.n yb.cap, .bool yb.m]) rfl rfl (by kernel_rfl) (by kernel_rfl) (by kernel_rfl) rfl (fun W hW => by obtain ⟨h0, h1, h2, h3, h4, h5, h6, h7, h8, h9⟩ := hW; go_simp) yH0 ?_
      simp only [FL]
      refine hr_take_w 8 (some 75) (.pointer (some ⟨p2, 0, none⟩)) rfl rfl (by kernel_rfl) (by kernel_rfl) (by kernel_rfl) rfl (fun W hW => by obtain ⟨h0, h1, h2, h3, h4, h5, h6, h7, h8, h9⟩ := hW; go_simp) yH0 ?_
      simp only [FL]
      refine hr_take_w 9 (some 76) (.pointer (some ⟨A0, 0, none⟩)) rfl rfl (by kernel_rfl) (by kernel_rfl) (by kernel_rfl) rfl (fun W hW => by obtain ⟨h0, h1, h2, h3, h4, h5, h6, h7, h8, h9⟩ := hW; go_simp) yH0 ?_
      simp only [FL]
      refine hr_take_w 10 (some 77) (.int .u64 ya.cl) rfl rfl (by kernel_rfl) (by kernel_rfl) (by kernel_rfl) rfl (fun W hW => by obtain ⟨h0, h1, h2, h3, h4, h5, h6, h7, h8, h9⟩ := hW; go_simp) yH0 ?_
      simp only [FL]
      refine hr_take_w 11 (some 78) (.pointer (some ⟨A0, 1, none⟩)) rfl rfl (by kernel_rfl) (by kernel_rfl) (by kernel_rfl) rfl (fun W hW => by obtain ⟨h0, h1, h2, h3, h4, h5, h6, h7, h8, h9⟩ := hW; go_simp) yH0 ?_
      simp only [FL]
      refine hr_take_w 12 (some 79) (.int .u64 ya.st) rfl rfl (by kernel_rfl) (by kernel_rfl) (by kernel_rfl) rfl (fun W hW => by obtain ⟨h0, h1, h2, h3, h4, h5, h6, h7, h8, h9⟩ := hW; go_simp) yH0 ?_
      simp only [FL]
      refine hr_take_w 13 (some 80) (.pointer (some ⟨A0, 2, none⟩)) rfl rfl (by kernel_rfl) (by kernel_rfl) (by kernel_rfl) rfl (fun W hW => by obtain ⟨h0, h1, h2, h3, h4, h5, h6, h7, h8, h9⟩ := hW; go_simp) yH0 ?_
      simp only [FL]
      refine hr_take_w 14 (some 81) (.agg #[.int .i64 ya.e, .slice ya.ao ya.n ya.cap, .bool ya.m]) rfl rfl (by kernel_rfl) (by kernel_rfl) (by kernel_rfl) rfl (fun W hW => by obtain ⟨h0, h1, h2, h3, h4, h5, h6, h7, h8, h9⟩ := hW; go_simp) yH0 ?_
      simp only [FL]
      refine hr_call_w 7 (some 74) 13 #[.pointer (some ⟨p2, 0, none⟩), .int .u64 yb.cl, .int .u64 yb.st, .agg #[.int .i64 yb.e, .slice yb.ao yb.n yb.cap, .bool yb.m]] rfl rfl (by kernel_rfl) rfl (by go_simp) (fun v w' => v = .int .i64 (putE (newT ns) yb.cl yb.st (resR yb.e yb.cs yb.m)).2 ∧ TS w' p2 g2 (putE (newT ns) yb.cl yb.st (resR yb.e yb.cs yb.m)).1 ∧ yv0.grownBy w' (some g2)) ((cPut_any yv0 p2 g2 yb.cl yb.st _ T2 okyb.cl okyb.st yb.e yb.ao yb.n yb.cap yb.cs yb.m ((okyb.cs).below yE0)).mono (by
        rintro e w' ⟨rfl, F, C⟩
        exact ⟨_, rfl, rfl, F, C⟩)) ?_
      rintro v yv1 ⟨rfl, yF0, yG0⟩
      have yE1 := yE0.grown yG0 yE0.size (fun _ e => by cases e; exact hgg2)
      have yH1 := HS.out yv1 yE1
      clear T2
      have T2 := yF0
      have T1 := T1.grown yG0 (by omega) (by omega)
      refine ⟨yH1, ?_⟩
      simp only [FL]
      refine hr_call_w 15 (some 82) 13 #[.pointer (some ⟨p2, 0, none⟩), .int .u64 ya.cl, .int .u64 ya.st, .agg #[.int .i64 ya.e, .slice ya.ao ya.n ya.cap, .bool ya.m]] rfl rfl (by kernel_rfl) rfl (by go_simp) (fun v w' => v = .int .i64 (putE (putE (newT ns) yb.cl yb.st (resR yb.e yb.cs yb.m)).1 ya.cl ya.st (resR ya.e ya.cs ya.m)).2 ∧ TS w' p2 g2 (putE (putE (newT ns) yb.cl yb.st (resR yb.e yb.cs yb.m)).1 ya.cl ya.st (resR ya.e ya.cs ya.m)).1 ∧ yv1.grownBy w' (some g2)) ((cPut_any yv1 p2 g2 ya.cl ya.st _ T2 okya.cl okya.st ya.e ya.ao ya.n ya.cap ya.cs ya.m ((okya.cs).below yE1)).mono (by
        rintro e w' ⟨rfl, F, C⟩
        exact ⟨_, rfl, rfl, F, C⟩)) ?_
      rintro v yv2 ⟨rfl, yF1, yG1⟩
      have yE2 := yE1.grown yG1 yE1.size (fun _ e => by cases e; exact hgg2)
      have yH2 := HS.out yv2 yE2
      clear T2
      have T2 := yF1
      have T1 := T1.grown yG1 (by omega) (by omega)
      refine ⟨yH2, ?_⟩
      simp only [FL]
      refine hr_take_w 16 (some 13) (.int .i64 (putE (newT ns) yb.cl yb.st (resR yb.e yb.cs yb.m)).2) rfl rfl (by kernel_rfl) (by kernel_rfl) (by kernel_rfl) rfl (fun W hW => by obtain ⟨h0, h1, h2, h3, h4, h5, h6, h7, h8, h9⟩ := hW; go_simp) yH2 ?_
      simp only [FL]
      refine hr_take_w 17 (some 14) (.int .i64 (putE (putE (newT ns) yb.cl yb.st (resR yb.e yb.cs yb.m)).1 ya.cl ya.st (resR ya.e ya.cs ya.m)).2) rfl rfl (by kernel_rfl) (by kernel_rfl) (by kernel_rfl) rfl (fun W hW => by obtain ⟨h0, h1, h2, h3, h4, h5, h6, h7, h8, h9⟩ := hW; go_simp) yH2 ?_
      simp only [FL]
      refine wpAnyH_done (by kernel_rfl) ?_ _
      refine NoPanic.normal ?_
      clear yH0 yH1 yH2 yF0 yF1 yG0 yG1
      have B9 := BX.trans (yE2.mono BX.size)
      have T9 := TW.below yE2 t0
      rw [HK1.out, HK2.out]
      rw [HK3.out] at T1
      generalize (putE (putE (newT ns) yb.cl yb.st (resR yb.e yb.cs yb.m)).1 ya.cl ya.st (resR ya.e ya.cs ya.m)).1 = lz at T1 T2
      generalize (putE (newT ns) yb.cl yb.st (resR yb.e yb.cs yb.m)).2 = k1
      generalize (putE (newT ns) ya.cl ya.st (resR ya.e ya.cs ya.m)).2 = k2
      clear HK1 HK2 HK3 HS okya okyb smya smyb Dx Dy D4 B4 xE0 xE1 xE2 yE0 yE1
      have t9 : 2 ≤ yv2.heap.size := Nat.le_trans t0 yE2.size
      have e1 : (k1 == k1) = true := by simp
      have e2 : (k2 == k2) = true := by simp
      have CB := cBytes_any yv2 p1 g1 lz T1
      go_wp2_with fail
      refine CB.mono ?_
      rintro x x1 ⟨a1, m1, c1, rfl, S1, E1⟩
      have U1 := T1.below E1
      have U2 := T2.below E1
      have V1 := T9.below E1 t9
      have F1 := B9.trans (E1.mono B9.size)
      have t9 : 2 ≤ x1.heap.size := Nat.le_trans t9 E1.size
      clear CB E1 T1 T2 B9 T9
      have CB := cBytes_any x1 p2 g2 lz U2
      go_wp2_with fail
      refine CB.mono ?_
      rintro x x2 ⟨a2, m2, c2, rfl, S2, E2⟩
      have S1 := S1.below E2
      have U1 := U1.below E2
      have U2 := U2.below E2
      have V2 := V1.below E2 t9
      have F2 := F1.trans (E2.mono F1.size)
      have t9 : 2 ≤ x2.heap.size := Nat.le_trans t9 E2.size
      clear CB E2 V1 F1
      have CS := same_any x2 a1 a2 m1 c1 m2 c2 _ _ S1 S2
      rw [decide_eq_true rfl] at CS
      go_wp2_with fail
      refine CS.mono ?_
      rintro x x3 ⟨rfl, q, hq⟩
      have E3 : Below x2.heap.size x2 x3 := by rw [hq]; exact belN (Below.refl _ _) q
      have U1 := U1.below E3
      have U2 := U2.below E3
      have V3 := V2.below E3 t9
      have F3 := F2.trans (E3.mono F2.size)
      have t9 : 2 ≤ x3.heap.size := Nat.le_trans t9 E3.size
      clear CS E3 V2 F2 hq S1 S2
      have CB := cSum_any x3 p1 g1 lz U1 V3
      go_wp2_with fail
      refine CB.mono ?_
      rintro x x4 ⟨a4, m4, c4, rfl, S4, E4⟩
      have U2 := U2.below E4
      have V4 := V3.below E4 t9
      have F4 := F3.trans (E4.mono F3.size)
      clear CB E4 V3 F3 U1
      have CB := cSum_any x4 p2 g2 lz U2 V4
      go_wp2_with fail
      refine CB.mono ?_
      rintro x x5 ⟨a5, m5, c5, rfl, S5, E5⟩
      have S4 := S4.below E5
      have F5 := F4.trans (E5.mono F4.size)
      clear CB E5 V4 F4 U2
      have CS := same_any x5 a4 a5 m4 c4 m5 c5 _ _ S4 S5
      rw [decide_eq_true rfl] at CS
      go_wp2_with fail
      refine CS.mono ?_
      rintro x x6 ⟨rfl, q, hq⟩
      have F6 : Below w.heap.size w x6 := by rw [hq]; exact belN F5 q
      clear CS hq S4 S5 F5
      have CA := alive12 x6
      go_wp2_with fail
      refine CA.mono ?_
      rintro x x7 ⟨rfl, C7⟩
      have F7 := F6.trans (C7.mono F6.size)
      clear CA
      go_wp2
      go_ret
      exact ⟨rfl, F7⟩
  · have hj1 : jdg ns = 1 := by
      unfold jdg at hj ⊢
      by_cases q : 1 ≤ ns.length ∧ ns.length ≤ 8 ∧ riseF 0 ns = true
      · rw [if_pos q] at hj; exact absurd rfl hj
      · rw [if_neg q]
    clear hj
    have CN := cNew_bad W0 ao n cap ns hN hj1
    refine CN.mono ?_
    rintro x w1 ⟨rfl, hw⟩
    obtain rfl := hw.symm
    clear hw
    go_wp2_with fail
    refine CN.mono ?_
    rintro x w1 ⟨rfl, hw⟩
    obtain rfl := hw.symm
    clear hw CN hN
    by_cases hb : 100 < n
    · have i1 : (100 : Int) < (n : Int) := by omega
      have CA := alive12 W0
      clear hb
      go_wp2_with fail
      refine CA.mono ?_
      rintro x w5 ⟨rfl, C5⟩
      have B5 := BX.trans (C5.mono BX.size)
      clear CA
      go_wp2
      go_ret
      exact ⟨rfl, B5⟩
    · have i1 : (n : Int) ≤ 100 := by omega
      clear hb
      have BW : Below W0.heap.size W0 W0 := Below.refl _ _
      obtain ⟨s0, s1, s2, s3, s4, s5, s6, s7, s8, s9⟩ := HS.out W0 BW
      have AB : Below W0.heap.size W0 (W0.alloc (.cells #[.int .u64 ya.cl, .int .u64 ya.st, .int .i64 ya.e, .slice ya.ao ya.n ya.cap, .bool ya.m, .int .u64 yb.cl, .int .u64 yb.st, .int .i64 yb.e, .slice yb.ao yb.n yb.cap, .bool yb.m] 39)) := (Below.refl _ _).alloc (Nat.le_refl _) _
      have LLB : LL12 (W0.alloc (.cells #[.int .u64 ya.cl, .int .u64 ya.st, .int .i64 ya.e, .slice ya.ao ya.n ya.cap, .bool ya.m, .int .u64 yb.cl, .int .u64 yb.st, .int .i64 yb.e, .slice yb.ao yb.n yb.cap, .bool yb.m] 39)) (some ⟨W0.heap.size, 0, none⟩) 2 2 [ya, yb] := two_new W0 ya yb (okya.below BW) (okyb.below BW)
      have CC := llight_any _ _ _ _ _ LLB (fun y hy => by
        simp only [List.mem_cons, List.not_mem_nil, or_false] at hy
        rcases hy with rfl | rfl
        · exact smya
        · exact smyb)
      have BL := BW.trans (AB.mono BW.size)
      go_wp2_with fail
      refine CC.mono ?_
      rintro x w4 ⟨rfl, C4⟩
      have D4 := BL.trans (C4.mono BL.size)
      have B4 := BX.trans (D4.mono BX.size)
      clear CC C4 BL LLB AB BW
      have CA := alive12 w4
      cases hlt : lightL [ya, yb] with
      | false =>
        clear hlt
        go_wp2_with fail
        refine CA.mono ?_
        rintro x w5 ⟨rfl, C5⟩
        have B5 := B4.trans (C5.mono B4.size)
        clear CA
        go_wp2
        go_ret
        exact ⟨rfl, B5⟩
      | true =>
        clear hlt
        go_wp2_with fail
        refine CA.mono ?_
        rintro x w5 ⟨rfl, C5⟩
        have B5 := B4.trans (C5.mono B4.size)
        clear CA
        go_wp2
        go_ret
        exact ⟨rfl, B5⟩
end Go.Proofs.YtoagkffokfbpfaaDoor
