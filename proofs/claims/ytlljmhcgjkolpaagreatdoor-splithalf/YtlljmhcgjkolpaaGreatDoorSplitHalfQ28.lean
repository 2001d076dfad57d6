/-
  Texts in one: HalfLaw11.
-/
import Derived.Test.YtlljmhcgjkolpaaGreatDoorSplitHalfQFL
import Derived.Test.YtlljmhcgjkolpaaGreatDoorSplitHalfQ27
namespace Go.Proofs.YtlljmhcgjkolpaaGreatDoor
open Go.RowKit Go.Sort
theorem merge_nil (w : World) (v : Option Addr) : Calls Tryz.prog 25 #[.pointer none, .pointer v] w fun e w' => e = .returned (.tuple #[.pointer none, .int .i64 17]) ∧ Below w.heap.size w w' := by
  go_enter Tryz.func25, Tryz.ntmps25
  go_wp2
  go_ret2
  exact ⟨rfl, Below.refl _ _⟩
theorem inE (r : ByteArray) (h : 1 ≤ r.size) : cmpL (sb ⟨#[]⟩) (sb r) < 0 := by
  have : sb ⟨#[]⟩ = [] := rfl
  rw [this]
  cases hs : sb r with
  | nil => have := sb_len r; rw [hs] at this; simp at this; omega
  | cons x xs => simp [cmpL]
set_option maxHeartbeats 8000000 in
set_option maxRecDepth 100000 in
theorem splitHalf_any (W : World) (a0 : Option Addr) (n0 c0 : Nat) (l : List CA) (L0 : CL W a0 n0 c0 l) (sm0 : ∀ c ∈ l, c.small) (hT : Tabs W) :
    Calls Tryz.prog 8 #[.slice a0 n0 c0] W fun e w' => e = .returned (.bool true) ∧ Below W.heap.size W w' := by
  have t2 := hT.two
  have HTb : Hid (Tabs W) := hT
  have AL := fun (V : World) (hV : Below W.heap.size W V) => alive11 V (hT.below hV t2)
  have HAL : Hid (∀ (V : World) (hV : Below W.heap.size W V), Calls Tryz.prog 19 #[] V fun e w' => e = .returned (.bool true) ∧ Below V.heap.size V w') := AL
  have CM := made_any W ⟨#[]⟩ ⟨#[]⟩ a0 n0 c0 l hT (by show 0 ≤ maxLen; decide) (by show 0 ≤ maxLen; decide) L0 sm0
  clear AL hT sm0 L0
  go_enter Tryz.func8, Tryz.ntmps8
  go_wp2_with fail
  refine CM.mono ?_
  rintro e w1 (⟨p, bo, bm, bc, ml, rfl, hp, hst, hlm, hnk, X1, L1, hml, B1⟩ | ⟨x, y, z, a, b, c, rfl, B1⟩)
  case inr =>
    have BA : Below w1.heap.size w1 (w1.alloc (.cells #[.string y, .string z, .slice a b c] 39)) := (Below.refl _ _).alloc (Nat.le_refl _) _
    have B2 := B1.trans (BA.mono B1.size)
    have AV := HAL.out _ B2
    clear CM
    go_wp2_with fail
    refine AV.mono ?_
    rintro e wz ⟨rfl, Cz⟩
    go_wp2
    go_ret
    exact ⟨rfl, B2.trans (Cz.mono B2.size)⟩
  obtain ⟨cs, hcs⟩ : ∃ cs, cs = layAll [] (l.map CA.c) := ⟨_, rfl⟩
  rw [← hcs] at hst hlm X1 hml
  clear hcs CM
  have HST : Hid (Stand ⟨#[]⟩ ⟨#[]⟩ 20 cs) := hst
  have HLM : Hid (Lim cs) := hlm
  have HML : Hid (ml.map CA.c = cs) := hml
  obtain ⟨q, hq⟩ : ∃ q, q = w1.heap.size := ⟨_, rfl⟩
  obtain ⟨w2, hw2⟩ : ∃ V, V = w1.alloc (.cells #[.string ⟨#[]⟩, .string ⟨#[]⟩, .slice bo bm bc] 39) := ⟨_, rfl⟩
  have C2 : Below w1.heap.size w1 w2 := by rw [hw2]; exact (Below.refl _ _).alloc (Nat.le_refl _) _
  have M2 : Arr w2 q 39 [.string ⟨#[]⟩, .string ⟨#[]⟩, .slice bo bm bc] := by rw [hw2, hq]; exact heap_alloc_new w1 _
  have B2 := B1.trans (C2.mono B1.size)
  have X2 := X1.below C2
  have L2 := L1.below C2
  have CMd := middle_any w2 p ⟨#[]⟩ ⟨#[]⟩ cs X2 HST.out.srt HST.out.good (by decide) (by decide) HST.out.rows (by have := HST.out.len; omega)
  clear hst hlm hml X1 L1
  go_wp2_with fail
  rw [← hw2, ← hq]
  clear hw2 hq
  refine CMd.mono ?_
  rintro e w3 (⟨hlt, rfl, C3⟩ | ⟨x, h2, hx, rfl, C3⟩)
  · have B3 := B2.trans (C3.mono B2.size)
    have X3 := X2.below C3
    have M3 := arr_below M2 C3
    have CS := split_any w3 p ⟨#[]⟩ ⟨#[]⟩ ⟨#[]⟩ cs (HTb.out.below B3 t2) X3 (HST.out.mono (by decide)) HLM.out hnk (by decide)
    clear CMd
    go_wp2_with fail
    refine CS.mono ?_
    have hk : splitK ⟨#[]⟩ ⟨#[]⟩ ⟨#[]⟩ = 1 := by kernel_rfl
    rintro e w5 (⟨h0, -⟩ | ⟨-, rfl, C5⟩)
    · rw [hk] at h0; exact absurd h0 (by decide)
    have HK : Hid (splitK ⟨#[]⟩ ⟨#[]⟩ ⟨#[]⟩ = 1) := hk
    rw [HK.out]
    have B5 := B3.trans (C5.mono B3.size)
    have M5 := arr_below M3 C5
    have L5 := (L2.below C3).below C5
    have m2 : w5.cell? ⟨q, 2, none⟩ = some (.slice bo bm bc) := M5.cell 2
    clear CS hk X3 M3
    by_cases hz : bm = 0
    · subst hz
      go_wp2
      have zHS : Hid (∀ V, Below w5.heap.size w5 V → V.cell? ⟨q, 2, none⟩ = some (.slice bo 0 bc)) := fun V hV => (hV.cell (World.block_lt_of_cell? _ _ m2)).trans m2
      have zE0 : Below w5.heap.size w5 w5.drew := (Below.refl _ _).drew
      refine wp_region_noPanic ?_
      refine wp_region_held_drew (S := fun V => V.cell? ⟨q, 2, none⟩ = some (.slice bo 0 bc)) (by kernel_rfl) (zHS.out _ zE0) (fun zH0 => ?_)
      obtain ⟨zv0, hv0⟩ : ∃ v, v = w5.drew := ⟨_, rfl⟩
      rw [← hv0] at zH0 zE0 ⊢
      clear hv0
      refine hr_take_w 0 (some 39) (.string ⟨#[]⟩) rfl rfl (by kernel_rfl) (by kernel_rfl) (by kernel_rfl) rfl (fun W hW => by go_simp) zH0 ?_
      simp only [FL]
      refine hr_take_w 1 (some 40) (.bool true) rfl rfl (by kernel_rfl) (by kernel_rfl) (by kernel_rfl) rfl (fun W hW => by go_simp) zH0 ?_
      simp only [FL]
      refine hr_take_w 2 (some 41) (.bool true) rfl rfl (by kernel_rfl) (by kernel_rfl) (by kernel_rfl) rfl (fun W hW => by go_simp) zH0 ?_
      simp only [FL]
      refine hr_take_w 3 (some 42) (.int .i64 1) rfl rfl (by kernel_rfl) (by kernel_rfl) (by kernel_rfl) rfl (fun W hW => by go_simp) zH0 ?_
      simp only [FL]
      refine hr_take_w 4 (some 43) (.bool true) rfl rfl (by kernel_rfl) (by kernel_rfl) (by kernel_rfl) rfl (fun W hW => by go_simp) zH0 ?_
      simp only [FL]
      refine hr_take_w 5 (some 44) (.bool true) rfl rfl (by kernel_rfl) (by kernel_rfl) (by kernel_rfl) rfl (fun W hW => by go_simp) zH0 ?_
      simp only [FL]
      refine hr_take_w 6 (some 45) (.bool true) rfl rfl (by kernel_rfl) (by kernel_rfl) (by kernel_rfl) rfl (fun W hW => by go_simp) zH0 ?_
      simp only [FL]
      refine hr_take_w 7 (some 46) (.pointer (some ⟨q, 2, none⟩)) rfl rfl (by kernel_rfl) (by kernel_rfl) (by kernel_rfl) rfl (fun W hW => by go_simp) zH0 ?_
      simp only [FL]
      refine hr_take_w 8 (some 47) (.slice bo 0 bc) rfl rfl (by kernel_rfl) (by kernel_rfl) (by kernel_rfl) rfl (fun W hW => by go_simp) zH0 ?_
      simp only [FL]
      refine hr_take_w 9 (some 48) (.int .i64 0) rfl rfl (by kernel_rfl) (by kernel_rfl) (by kernel_rfl) rfl (fun W hW => by go_simp) zH0 ?_
      simp only [FL]
      refine hr_take_w 10 (some 49) (.bool true) rfl rfl (by kernel_rfl) (by kernel_rfl) (by kernel_rfl) rfl (fun W hW => by go_simp) zH0 ?_
      simp only [FL]
      refine hr_take_w 11 (some 50) (.bool true) rfl rfl (by kernel_rfl) (by kernel_rfl) (by kernel_rfl) rfl (fun W hW => by go_simp) zH0 ?_
      simp only [FL]
      refine hr_none 12 (some 51) rfl rfl (by kernel_rfl) (by kernel_rfl) (by kernel_rfl) rfl zH0 ?_
      simp only [FL]
      refine hr_none 13 (some 52) rfl rfl (by kernel_rfl) (by kernel_rfl) (by kernel_rfl) rfl zH0 ?_
      simp only [FL]
      refine hr_none 14 (some 53) rfl rfl (by kernel_rfl) (by kernel_rfl) (by kernel_rfl) rfl zH0 ?_
      simp only [FL]
      refine hr_none 15 (some 54) rfl rfl (by kernel_rfl) (by kernel_rfl) (by kernel_rfl) rfl zH0 ?_
      simp only [FL]
      refine hr_none 16 (some 55) rfl rfl (by kernel_rfl) (by kernel_rfl) (by kernel_rfl) rfl zH0 ?_
      simp only [FL]
      refine hr_none 17 (some 56) rfl rfl (by kernel_rfl) (by kernel_rfl) (by kernel_rfl) rfl zH0 ?_
      simp only [FL]
      refine hr_none 18 (some 57) rfl rfl (by kernel_rfl) (by kernel_rfl) (by kernel_rfl) rfl zH0 ?_
      simp only [FL]
      refine hr_none 19 (some 58) rfl rfl (by kernel_rfl) (by kernel_rfl) (by kernel_rfl) rfl zH0 ?_
      simp only [FL]
      refine hr_none 20 (some 59) rfl rfl (by kernel_rfl) (by kernel_rfl) (by kernel_rfl) rfl zH0 ?_
      simp only [FL]
      refine hr_none 21 (some 60) rfl rfl (by kernel_rfl) (by kernel_rfl) (by kernel_rfl) rfl zH0 ?_
      simp only [FL]
      refine hr_none 22 (some 61) rfl rfl (by kernel_rfl) (by kernel_rfl) (by kernel_rfl) rfl zH0 ?_
      simp only [FL]
      refine hr_none 23 (some 62) rfl rfl (by kernel_rfl) (by kernel_rfl) (by kernel_rfl) rfl zH0 ?_
      simp only [FL]
      refine hr_none 24 (some 63) rfl rfl (by kernel_rfl) (by kernel_rfl) (by kernel_rfl) rfl zH0 ?_
      simp only [FL]
      refine hr_none 25 (some 64) rfl rfl (by kernel_rfl) (by kernel_rfl) (by kernel_rfl) rfl zH0 ?_
      simp only [FL]
      refine hr_none 26 (some 65) rfl rfl (by kernel_rfl) (by kernel_rfl) (by kernel_rfl) rfl zH0 ?_
      simp only [FL]
      refine hr_none 27 (some 66) rfl rfl (by kernel_rfl) (by kernel_rfl) (by kernel_rfl) rfl zH0 ?_
      simp only [FL]
      refine hr_none 28 (some 67) rfl rfl (by kernel_rfl) (by kernel_rfl) (by kernel_rfl) rfl zH0 ?_
      simp only [FL]
      refine hr_take_w 29 (some 68) (.bool true) rfl rfl (by kernel_rfl) (by kernel_rfl) (by kernel_rfl) rfl (fun W hW => by go_simp) zH0 ?_
      simp only [FL]
      refine hr_take_w 30 (some 69) (.bool true) rfl rfl (by kernel_rfl) (by kernel_rfl) (by kernel_rfl) rfl (fun W hW => by go_simp) zH0 ?_
      simp only [FL]
      refine hr_take_w 31 (some 70) (.bool true) rfl rfl (by kernel_rfl) (by kernel_rfl) (by kernel_rfl) rfl (fun W hW => by go_simp) zH0 ?_
      simp only [FL]
      refine hr_call_w 32 (some 71) 19 #[] rfl rfl (by kernel_rfl) rfl (by go_simp) (fun v w' => v = .bool true ∧ Below zv0.heap.size zv0 w') ((HAL.out zv0 (B5.trans (zE0.mono B5.size))).mono (by
        rintro e w' ⟨rfl, C⟩
        exact ⟨_, rfl, rfl, C⟩)) ?_
      rintro v zv1 ⟨rfl, zC0⟩
      have zE1 := zE0.trans (zC0.mono zE0.size)
      have zH1 := zHS.out zv1 zE1
      refine ⟨zH1, ?_⟩
      simp only [FL]
      refine hr_take_w 33 (some 72) (.bool true) rfl rfl (by kernel_rfl) (by kernel_rfl) (by kernel_rfl) rfl (fun W hW => by go_simp) zH1 ?_
      simp only [FL]
      refine hr_take_w 34 (some 2) (.bool true) rfl rfl (by kernel_rfl) (by kernel_rfl) (by kernel_rfl) rfl (fun W hW => by go_simp) zH1 ?_
      simp only [FL]
      refine wpAnyH_done (by kernel_rfl) ?_ _
      refine NoPanic.normal ?_
      go_wp2
      go_ret
      exact ⟨rfl, B5.trans (zE1.mono B5.size)⟩
    · have hln := L5.len
      obtain ⟨b, off, ea, hc⟩ := L5.at (by omega)
      have hcl : cs.length = ml.length := by rw [← HML.out, List.length_map]
      have x0 := (hc 0 (by omega)).c0
      have y0 := (hc (bm - 1) (by omega)).c0
      have hrow : ∀ j (hj : j < ml.length), ml[j].row = (cs[0]'(by omega)).row := fun j hj => by
        have h := rows_one hlt j (by omega)
        have h3 : cs[j]'(by omega) = ml[j].c := by
          have := HML.out
          subst this
          exact List.getElem_map ..
        rw [h3] at h
        exact h
      rw [hrow 0 (by omega), show off + 0 * 6 = off by omega] at x0
      rw [hrow (bm - 1) (by omega)] at y0
      obtain ⟨r, hr⟩ : ∃ r, r = (cs[0]'(by omega)).row := ⟨_, rfl⟩
      rw [← hr] at x0 y0
      subst ea
      have hb0 : (0 : Int) < (bm : Int) := by omega
      have hbw : IntKind.i64.wrap ((bm : Int) - 1) = ((bm - 1 : Nat) : Int) := by
        have h1 := HST.out.len
        rw [IntKind.wrap_i64]; omega
      have hbl : ((bm - 1 : Nat) : Int) < (bm : Int) := by omega
      have hbe : ((bm : Int) == 0) = false := by simp; omega
      have hrr : (r.toList == r.toList) = true := by simp
      clear hc hrow hr hcl hln
      go_wp2
      have zHS : Hid (∀ V, Below w5.heap.size w5 V → V.cell? ⟨q, 2, none⟩ = some (.slice (some ⟨b, off, none⟩) bm bc) ∧ V.cell? ⟨b, off, none⟩ = some (.string r) ∧ V.cell? ⟨b, off + (bm - 1) * 6, none⟩ = some (.string r)) := fun V hV => ⟨(hV.cell (World.block_lt_of_cell? _ _ m2)).trans m2, (hV.cell (World.block_lt_of_cell? _ _ x0)).trans x0, (hV.cell (World.block_lt_of_cell? _ _ y0)).trans y0⟩
      have zE0 : Below w5.heap.size w5 w5.drew := (Below.refl _ _).drew
      refine wp_region_noPanic ?_
      refine wp_region_held_drew (S := fun V => V.cell? ⟨q, 2, none⟩ = some (.slice (some ⟨b, off, none⟩) bm bc) ∧ V.cell? ⟨b, off, none⟩ = some (.string r) ∧ V.cell? ⟨b, off + (bm - 1) * 6, none⟩ = some (.string r)) (by kernel_rfl) (zHS.out _ zE0) (fun zH0 => ?_)
      obtain ⟨zv0, hv0⟩ : ∃ v, v = w5.drew := ⟨_, rfl⟩
      rw [← hv0] at zH0 zE0 ⊢
      clear hv0
      refine hr_take_w 0 (some 39) (.string ⟨#[]⟩) rfl rfl (by kernel_rfl) (by kernel_rfl) (by kernel_rfl) rfl (fun W hW => by obtain ⟨h0, h1, h2⟩ := hW; go_simp) zH0 ?_
      simp only [FL]
      refine hr_take_w 1 (some 40) (.bool true) rfl rfl (by kernel_rfl) (by kernel_rfl) (by kernel_rfl) rfl (fun W hW => by obtain ⟨h0, h1, h2⟩ := hW; go_simp) zH0 ?_
      simp only [FL]
      refine hr_take_w 2 (some 41) (.bool true) rfl rfl (by kernel_rfl) (by kernel_rfl) (by kernel_rfl) rfl (fun W hW => by obtain ⟨h0, h1, h2⟩ := hW; go_simp) zH0 ?_
      simp only [FL]
      refine hr_take_w 3 (some 42) (.int .i64 1) rfl rfl (by kernel_rfl) (by kernel_rfl) (by kernel_rfl) rfl (fun W hW => by obtain ⟨h0, h1, h2⟩ := hW; go_simp) zH0 ?_
      simp only [FL]
      refine hr_take_w 4 (some 43) (.bool true) rfl rfl (by kernel_rfl) (by kernel_rfl) (by kernel_rfl) rfl (fun W hW => by obtain ⟨h0, h1, h2⟩ := hW; go_simp) zH0 ?_
      simp only [FL]
      refine hr_take_w 5 (some 44) (.bool true) rfl rfl (by kernel_rfl) (by kernel_rfl) (by kernel_rfl) rfl (fun W hW => by obtain ⟨h0, h1, h2⟩ := hW; go_simp) zH0 ?_
      simp only [FL]
      refine hr_take_w 6 (some 45) (.bool true) rfl rfl (by kernel_rfl) (by kernel_rfl) (by kernel_rfl) rfl (fun W hW => by obtain ⟨h0, h1, h2⟩ := hW; go_simp) zH0 ?_
      simp only [FL]
      refine hr_take_w 7 (some 46) (.pointer (some ⟨q, 2, none⟩)) rfl rfl (by kernel_rfl) (by kernel_rfl) (by kernel_rfl) rfl (fun W hW => by obtain ⟨h0, h1, h2⟩ := hW; go_simp) zH0 ?_
      simp only [FL]
      refine hr_take_w 8 (some 47) (.slice (some ⟨b, off, none⟩) bm bc) rfl rfl (by kernel_rfl) (by kernel_rfl) (by kernel_rfl) rfl (fun W hW => by obtain ⟨h0, h1, h2⟩ := hW; go_simp) zH0 ?_
      simp only [FL]
      refine hr_take_w 9 (some 48) (.int .i64 bm) rfl rfl (by kernel_rfl) (by kernel_rfl) (by kernel_rfl) rfl (fun W hW => by obtain ⟨h0, h1, h2⟩ := hW; go_simp) zH0 ?_
      simp only [FL]
      refine hr_take_w 10 (some 49) (.bool false) rfl rfl (by kernel_rfl) (by kernel_rfl) (by kernel_rfl) rfl (fun W hW => by obtain ⟨h0, h1, h2⟩ := hW; go_simp) zH0 ?_
      simp only [FL]
      refine hr_take_w 11 (some 50) (.bool false) rfl rfl (by kernel_rfl) (by kernel_rfl) (by kernel_rfl) rfl (fun W hW => by obtain ⟨h0, h1, h2⟩ := hW; go_simp) zH0 ?_
      simp only [FL]
      refine hr_take_w 12 (some 51) (.pointer (some ⟨q, 2, none⟩)) rfl rfl (by kernel_rfl) (by kernel_rfl) (by kernel_rfl) rfl (fun W hW => by obtain ⟨h0, h1, h2⟩ := hW; go_simp) zH0 ?_
      simp only [FL]
      refine hr_take_w 13 (some 52) (.slice (some ⟨b, off, none⟩) bm bc) rfl rfl (by kernel_rfl) (by kernel_rfl) (by kernel_rfl) rfl (fun W hW => by obtain ⟨h0, h1, h2⟩ := hW; go_simp) zH0 ?_
      simp only [FL]
      refine hr_take_w 14 (some 53) (.pointer (some ⟨b, off, none⟩)) rfl rfl (by kernel_rfl) (by kernel_rfl) (by kernel_rfl) rfl (fun W hW => by obtain ⟨h0, h1, h2⟩ := hW; go_simp) zH0 ?_
      simp only [FL]
      refine hr_take_w 15 (some 54) (.pointer (some ⟨b, off, none⟩)) rfl rfl (by kernel_rfl) (by kernel_rfl) (by kernel_rfl) rfl (fun W hW => by obtain ⟨h0, h1, h2⟩ := hW; go_simp) zH0 ?_
      simp only [FL]
      refine hr_take_w 16 (some 55) (.pointer (some ⟨b, off, none⟩)) rfl rfl (by kernel_rfl) (by kernel_rfl) (by kernel_rfl) rfl (fun W hW => by obtain ⟨h0, h1, h2⟩ := hW; go_simp) zH0 ?_
      simp only [FL]
      refine hr_take_w 17 (some 56) (.string r) rfl rfl (by kernel_rfl) (by kernel_rfl) (by kernel_rfl) rfl (fun W hW => by obtain ⟨h0, h1, h2⟩ := hW; go_simp) zH0 ?_
      simp only [FL]
      refine hr_take_w 18 (some 57) (.pointer (some ⟨q, 2, none⟩)) rfl rfl (by kernel_rfl) (by kernel_rfl) (by kernel_rfl) rfl (fun W hW => by obtain ⟨h0, h1, h2⟩ := hW; go_simp) zH0 ?_
      simp only [FL]
      refine hr_take_w 19 (some 58) (.slice (some ⟨b, off, none⟩) bm bc) rfl rfl (by kernel_rfl) (by kernel_rfl) (by kernel_rfl) rfl (fun W hW => by obtain ⟨h0, h1, h2⟩ := hW; go_simp) zH0 ?_
      simp only [FL]
      refine hr_take_w 20 (some 59) (.pointer (some ⟨q, 2, none⟩)) rfl rfl (by kernel_rfl) (by kernel_rfl) (by kernel_rfl) rfl (fun W hW => by obtain ⟨h0, h1, h2⟩ := hW; go_simp) zH0 ?_
      simp only [FL]
      refine hr_take_w 21 (some 60) (.slice (some ⟨b, off, none⟩) bm bc) rfl rfl (by kernel_rfl) (by kernel_rfl) (by kernel_rfl) rfl (fun W hW => by obtain ⟨h0, h1, h2⟩ := hW; go_simp) zH0 ?_
      simp only [FL]
      refine hr_take_w 22 (some 61) (.int .i64 bm) rfl rfl (by kernel_rfl) (by kernel_rfl) (by kernel_rfl) rfl (fun W hW => by obtain ⟨h0, h1, h2⟩ := hW; go_simp) zH0 ?_
      simp only [FL]
      refine hr_take_w 23 (some 62) (.int .i64 ((bm - 1 : Nat) : Int)) rfl rfl (by kernel_rfl) (by kernel_rfl) (by kernel_rfl) rfl (fun W hW => by obtain ⟨h0, h1, h2⟩ := hW; go_simp) zH0 ?_
      simp only [FL]
      refine hr_take_w 24 (some 63) (.pointer (some ⟨b, off + (bm - 1) * 6, none⟩)) rfl rfl (by kernel_rfl) (by kernel_rfl) (by kernel_rfl) rfl (fun W hW => by obtain ⟨h0, h1, h2⟩ := hW; go_simp) zH0 ?_
      simp only [FL]
      refine hr_take_w 25 (some 64) (.pointer (some ⟨b, off + (bm - 1) * 6, none⟩)) rfl rfl (by kernel_rfl) (by kernel_rfl) (by kernel_rfl) rfl (fun W hW => by obtain ⟨h0, h1, h2⟩ := hW; go_simp) zH0 ?_
      simp only [FL]
      refine hr_take_w 26 (some 65) (.pointer (some ⟨b, off + (bm - 1) * 6, none⟩)) rfl rfl (by kernel_rfl) (by kernel_rfl) (by kernel_rfl) rfl (fun W hW => by obtain ⟨h0, h1, h2⟩ := hW; go_simp) zH0 ?_
      simp only [FL]
      refine hr_take_w 27 (some 66) (.string r) rfl rfl (by kernel_rfl) (by kernel_rfl) (by kernel_rfl) rfl (fun W hW => by obtain ⟨h0, h1, h2⟩ := hW; go_simp) zH0 ?_
      simp only [FL]
      refine hr_take_w 28 (some 67) (.bool true) rfl rfl (by kernel_rfl) (by kernel_rfl) (by kernel_rfl) rfl (fun W hW => by obtain ⟨h0, h1, h2⟩ := hW; go_simp) zH0 ?_
      simp only [FL]
      refine hr_take_w 29 (some 68) (.bool true) rfl rfl (by kernel_rfl) (by kernel_rfl) (by kernel_rfl) rfl (fun W hW => by obtain ⟨h0, h1, h2⟩ := hW; go_simp) zH0 ?_
      simp only [FL]
      refine hr_take_w 30 (some 69) (.bool true) rfl rfl (by kernel_rfl) (by kernel_rfl) (by kernel_rfl) rfl (fun W hW => by obtain ⟨h0, h1, h2⟩ := hW; go_simp) zH0 ?_
      simp only [FL]
      refine hr_take_w 31 (some 70) (.bool true) rfl rfl (by kernel_rfl) (by kernel_rfl) (by kernel_rfl) rfl (fun W hW => by obtain ⟨h0, h1, h2⟩ := hW; go_simp) zH0 ?_
      simp only [FL]
      refine hr_call_w 32 (some 71) 19 #[] rfl rfl (by kernel_rfl) rfl (by go_simp) (fun v w' => v = .bool true ∧ Below zv0.heap.size zv0 w') ((HAL.out zv0 (B5.trans (zE0.mono B5.size))).mono (by
        rintro e w' ⟨rfl, C⟩
        exact ⟨_, rfl, rfl, C⟩)) ?_
      rintro v zv1 ⟨rfl, zC0⟩
      have zE1 := zE0.trans (zC0.mono zE0.size)
      have zH1 := zHS.out zv1 zE1
      refine ⟨zH1, ?_⟩
      simp only [FL]
      refine hr_take_w 33 (some 72) (.bool true) rfl rfl (by kernel_rfl) (by kernel_rfl) (by kernel_rfl) rfl (fun W hW => by obtain ⟨h0, h1, h2⟩ := hW; go_simp) zH1 ?_
      simp only [FL]
      refine hr_take_w 34 (some 2) (.bool true) rfl rfl (by kernel_rfl) (by kernel_rfl) (by kernel_rfl) rfl (fun W hW => by obtain ⟨h0, h1, h2⟩ := hW; go_simp) zH1 ?_
      simp only [FL]
      refine wpAnyH_done (by kernel_rfl) ?_ _
      refine NoPanic.normal ?_
      go_wp2
      go_ret
      exact ⟨rfl, B5.trans (zE1.mono B5.size)⟩
  · have B3 := B2.trans (C3.mono B2.size)
    have X3 := X2.below C3
    obtain ⟨j, hj0, hjl, hxe, hlow, hhigh⟩ := rows_half HST.out.srt (fun c hc => (HST.out.good c hc).time) h2 hx
    have hgd := HST.out.good _ (List.getElem_mem hjl)
    have hsz : 1 ≤ cs[j].row.size ∧ cs[j].row.size ≤ 32 := by
      have h := hgd.right
      have h1 : 1 ≤ (sb cs[j].row).length ∧ (sb cs[j].row).length ≤ 32 := ⟨h.1, h.2.1⟩
      rw [sb_len] at h1
      exact h1
    have hhd : cs.drop j = cs[j] :: cs.drop (j + 1) := List.drop_eq_getElem_cons hjl
    obtain ⟨d, hde⟩ : ∃ d, d = cs[j] := ⟨_, rfl⟩
    rw [← hde] at hxe hlow hhigh hsz hhd
    rw [hhd] at hhigh
    obtain ⟨a, ha⟩ : ∃ a, a = d.row := ⟨_, rfl⟩
    rw [← ha] at hxe hlow hhigh hsz
    have hk0 : splitK ⟨#[]⟩ ⟨#[]⟩ a = 0 := by
      unfold splitK
      rw [if_neg (by omega), if_neg]
      rintro (h | ⟨h, -⟩)
      · exact h (inE a hsz.1)
      · exact h rfl
    have HTL : Hid ((cs.take j).length = j) := by show _ = _; rw [List.length_take]; omega
    have SL := (low_rows HST.out : Stand ⟨#[]⟩ a 20 _)
    have SH := (high_rows HST.out : Stand a ⟨#[]⟩ 20 _)
    rw [hlow] at SL
    rw [hhigh] at SH
    have CS := split_any w3 p ⟨#[]⟩ ⟨#[]⟩ a cs (HTb.out.below B3 t2) X3 (HST.out.mono (by decide)) HLM.out hnk (by omega)
    rw [hxe]
    have HLO : Hid (cs.filter (belR a) = cs.take j) := hlow
    have HHI : Hid ((cs.filter fun c => !(belR a c)) = d :: cs.drop (j + 1)) := hhigh
    have HA : Hid (a = d.row) := ha
    clear CMd hlow hhigh hx hxe hhd hde h2 ha
    go_wp2_with fail
    refine CS.mono ?_
    rintro e w5 (⟨-, q1, q2, hq1, hq2, rfl, Y1, Y2, C5⟩ | ⟨hne, -⟩)
    case inr => exact absurd hk0 hne
    rw [HLO.out] at Y1
    rw [HHI.out] at Y2
    have B5 := B3.trans (C5.mono B3.size)
    have CN := split_nil w5 a
    clear CS X2 X3
    go_wp2_with fail
    refine CN.mono ?_
    rintro e w6 ⟨rfl, C6⟩
    have B6 := B5.trans (C6.mono B5.size)
    have CG := merge_nil w6 (some ⟨p, 0, none⟩)
    clear CN
    go_wp2_with fail
    refine CG.mono ?_
    rintro e w7 ⟨rfl, C7⟩
    have B7 := B6.trans (C7.mono B6.size)
    have Y1 := (Y1.below C6).below C7
    have Y2 := (Y2.below C6).below C7
    clear CG
    have CE := cells_st w7 q1 ⟨#[]⟩ a _ Y1 SL.srt SL.good (by decide) (by omega) SL.rows (by have := SL.len; omega)
    go_wp2_with fail
    refine CE.mono ?_
    rintro e w8 ⟨ao1, n1, cap1, l1, rfl, L8, -, hl8, C8⟩
    have hn1 : (0 : Int) < (n1 : Int) := by
      have h := congrArg List.length hl8
      rw [List.length_map, L8.len, HTL.out] at h
      omega
    have B8 := B7.trans (C8.mono B7.size)
    have Y2 := Y2.below C8
    clear CE
    have CE := cells_st w8 q2 a ⟨#[]⟩ _ Y2 SH.srt SH.good (by omega) (by decide) SH.rows (by have := SH.len; omega)
    go_wp2_with fail
    refine CE.mono ?_
    rintro e w9 ⟨ao2, n2, cap2, l2, rfl, L9, -, hl9, C9⟩
    have hn2 : (0 : Int) < (n2 : Int) := by
      have h := congrArg List.length hl9
      rw [List.length_map, L9.len, List.length_cons] at h
      omega
    have B9 := B8.trans (C9.mono B8.size)
    have Y2 := Y2.below C9
    clear CE
    have CE := cells_st w9 q2 a ⟨#[]⟩ _ Y2 SH.srt SH.good (by omega) (by decide) SH.rows (by have := SH.len; omega)
    go_wp2_with fail
    refine CE.mono ?_
    rintro e w10 ⟨ao3, n3, cap3, l3, rfl, L10, -, hl10, C10⟩
    have hn3 : 0 < n3 := by
      have h := congrArg List.length hl10
      rw [List.length_map, L10.len, List.length_cons] at h
      omega
    have hn3i : (0 : Int) < (n3 : Int) := by omega
    have B10 := B9.trans (C10.mono B9.size)
    obtain ⟨b, off, ea, hc⟩ := L10.at hn3
    have hl3 : 0 < l3.length := by have := L10.len; omega
    have x0 := (hc 0 hl3).c0
    have hr0 : l3[0].row = a := by
      have h3 : (l3.map CA.c)[0]? = some d := by rw [hl10]; rfl
      rw [List.getElem?_map, List.getElem?_eq_getElem hl3] at h3
      have h4 : l3[0].c = d := by simpa using h3
      have h5 : l3[0].row = d.row := congrArg CV.row h4
      rw [h5]; exact HA.out.symm
    rw [hr0, show off + 0 * 6 = off by omega] at x0
    subst ea
    have haa : (a.toList == a.toList) = true := by simp
    have AV := HAL.out w10 B10
    clear CE hc L10 L9 L8 hl8 hl9 hl10 hr0
    go_wp2_with fail
    refine AV.mono ?_
    rintro e wz ⟨rfl, Cz⟩
    go_wp2
    go_ret
    exact ⟨rfl, B10.trans (Cz.mono B10.size)⟩
end Go.Proofs.YtlljmhcgjkolpaaGreatDoor
