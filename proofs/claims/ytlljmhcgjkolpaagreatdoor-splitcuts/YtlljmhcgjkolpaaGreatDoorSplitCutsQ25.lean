/-
  Texts in one: RbPut.
-/
import Derived.Test.YtlljmhcgjkolpaaGreatDoorSplitCutsQFL
import Derived.Test.YtlljmhcgjkolpaaGreatDoorSplitCutsQ24
import Derived.Test.YtlljmhcgjkolpaaGreatDoorSplitCutsQ22
import Derived.Test.YtlljmhcgjkolpaaGreatDoorSplitCutsQ17
namespace Go.Proofs.YtlljmhcgjkolpaaGreatDoor
open Go.RowKit
set_option maxHeartbeats 8000000 in
set_option maxRecDepth 100000 in
theorem rput10_any (w : World) (ao : Option Addr) (n cap : Nat) (l : List CA) (c : CA) (L : CL w ao n cap l) (hs : CSrt (l.map CA.c)) (hok : c.ok w) (hn : n ≤ 1000) :
    Calls Tryz.prog 35 #[.slice ao n cap, c.val] w (LsPost w (cIns (l.map CA.c) c.c)) := by
  have hl1 := Nat.le_of_eq L.len
  have hl2 := Nat.le_of_eq L.len.symm
  have hle := L.le
  obtain ⟨W1, hW1⟩ : ∃ V, V = w.alloc (.cells #[.string c.row, .string c.fam, .string c.qual, .int .u64 c.time, .slice c.va.ao c.va.n c.va.cap, .bool c.gone] 33) := ⟨_, rfl⟩
  have C1 : Below w.heap.size w W1 := by rw [hW1]; exact (Below.refl _ _).alloc (Nat.le_refl _) _
  have K1 : Arr W1 w.heap.size 33 [.string c.row, .string c.fam, .string c.qual, .int .u64 c.time, .slice c.va.ao c.va.n c.va.cap, .bool c.gone] := by rw [hW1]; exact heap_alloc_new w _
  have HS : Hid (CSrt (l.map CA.c)) := hs
  have HOK : Hid (∀ x ∈ l, x.ok w) := L.ok
  clear hs
  unfold CA.val
  go_enter Tryz.func35, Tryz.ntmps35
  go_wp2
  rw [← hW1]
  clear hW1
  go_loopw [5] (fun i wr => ∃ k : Nat, k ≤ n ∧ i = .int .i64 k ∧ Hid (∀ z ∈ (l.map CA.c).take k, cmpL (keyL z.kv) (keyL c.c.kv) < 0) ∧ Below W1.heap.size W1 wr) (fun i _ => n - (intOf i).toNat)
  case atStart => exact ⟨0, Nat.zero_le _, rfl, fun z hz => by simp at hz, Below.refl _ _⟩
  case round =>
    obtain ⟨k, hk, rfl, HL, B1⟩ := hrel
    have K2 := arr_below K1 B1
    have y0 : wr.cell? ⟨w.heap.size, 0, none⟩ = some (.string c.row) := K2.cell 0
    have y1 : wr.cell? ⟨w.heap.size, 1, none⟩ = some (.string c.fam) := K2.cell 1
    have y2 : wr.cell? ⟨w.heap.size, 2, none⟩ = some (.string c.qual) := K2.cell 2
    have y3 : wr.cell? ⟨w.heap.size, 3, none⟩ = some (.int .u64 c.time) := K2.cell 3
    have y4 : wr.cell? ⟨w.heap.size, 4, none⟩ = some (.slice c.va.ao c.va.n c.va.cap) := K2.cell 4
    have y5 : wr.cell? ⟨w.heap.size, 5, none⟩ = some (.bool c.gone) := K2.cell 5
    have BR := C1.trans (B1.mono C1.size)
    obtain ⟨dn, hdn⟩ : ∃ d, d = n - k := ⟨_, rfl⟩
    have F1 : ∀ W, _ := fun W => run_uptoC (W := W) (ao := ao) (n := n) (cap := cap) (i := k) (by omega)
    have F2 : ∀ W, _ := fun W => run_backC (W := W) (ao := ao) (n := n) (cap := cap) (j := k) hk
    have LF := L.front k hk
    have LD := L.from k hk
    rw [← hdn] at F2 LD
    clear K2
    by_cases hlt : k < n
    · have hkl : k < l.length := by omega
      have hki : (k : Int) < (n : Int) := by omega
      have hd0 : (0 : Int) < (dn : Int) := by omega
      have hdl : dn ≤ n := by omega
      obtain ⟨b, off, ea, hc⟩ := L.at (by omega)
      have X := (hc k hkl).below BR
      subst ea
      have ebk := bk6_some (b := b) (off := off) (cap := cap) (k := k) (by omega)
      rw [ebk] at F2 LD
      have F3 : ∀ W, _ := fun W => run_backC (W := W) (ao := some ⟨b, off + k * 6, none⟩) (n := dn) (cap := cap - k) (j := 1) (by omega)
      simp only [Int.natCast_one] at F3
      have LE := LD.from 1 (by omega)
      obtain ⟨eo, heo⟩ : ∃ a, a = bk6 (some ⟨b, off + k * 6, none⟩) (cap - k) 1 := ⟨_, rfl⟩
      rw [← heo] at F3 LE
      have hdk := HOK.out _ (List.getElem_mem hkl)
      have HDR : Hid ((l.map CA.c).drop k = l[k].c :: (l.map CA.c).drop (k + 1)) := by
        show _ = _
        rw [List.drop_eq_getElem_cons (by rw [List.length_map]; exact hkl), List.getElem_map]
      have HTK : Hid ((l.map CA.c).take (k + 1) = (l.map CA.c).take k ++ [l[k].c]) := by
        show _ = _
        rw [List.take_succ_eq_append_getElem (by rw [List.length_map]; exact hkl), List.getElem_map]
      obtain ⟨d, hde⟩ : ∃ d, d = l[k] := ⟨_, rfl⟩
      rw [← hde] at X hdk HDR HTK
      have HCMP : Hid (cmpL (keyL d.c.kv) (keyL c.c.kv) = cmpK d.c.kv c.c.kv) := keyL_cmp _ _ (CV.kvByt hdk.time) (CV.kvByt hok.time)
      have HCM : Hid (∀ V, Calls Tryz.prog 71 #[.agg #[.string d.row, .string d.fam, .string d.qual, .int .u64 d.time], .agg #[.string c.row, .string c.fam, .string c.qual, .int .u64 c.time]] V fun e w' => e = .returned (.int .i64 (cmpK d.c.kv c.c.kv)) ∧ Below V.heap.size V w') := fun V => rcmp_any V d.key c.key ⟨hdk.row, hdk.fam, hdk.qual, hdk.time⟩ ⟨hok.row, hok.fam, hok.qual, hok.time⟩
      obtain ⟨ck, hck⟩ : ∃ k, k = cmpK d.c.kv c.c.kv := ⟨_, rfl⟩
      rw [← hck] at HCM HCMP
      obtain ⟨tb, htb⟩ : ∃ b, b = decide (ck < 0) := ⟨_, rfl⟩
      have HTB : Hid (decide (ck < 0) = tb) := htb.symm
      obtain ⟨kb, hkb⟩ : ∃ b, b = keyB d.key c.key := ⟨_, rfl⟩
      have HKB : Hid (keyB d.key c.key = kb) := hkb.symm
      clear hc hde hck htb hkb heo ebk hdn
      obtain ⟨x0, x1, x2, x3, x4, x5⟩ := X
      go_wp2
      have zHS : Hid (∀ V, Below wr.heap.size wr V → V.cell? ⟨b, off + k * 6, none⟩ = some (.string d.row) ∧ V.cell? ⟨b, off + k * 6 + 1, none⟩ = some (.string d.fam) ∧ V.cell? ⟨b, off + k * 6 + 2, none⟩ = some (.string d.qual) ∧ V.cell? ⟨b, off + k * 6 + 3, none⟩ = some (.int .u64 d.time) ∧ V.cell? ⟨w.heap.size, 0, none⟩ = some (.string c.row) ∧ V.cell? ⟨w.heap.size, 1, none⟩ = some (.string c.fam) ∧ V.cell? ⟨w.heap.size, 2, none⟩ = some (.string c.qual) ∧ V.cell? ⟨w.heap.size, 3, none⟩ = some (.int .u64 c.time)) := fun V hV => ⟨(hV.cell (World.block_lt_of_cell? _ _ x0)).trans x0, (hV.cell (World.block_lt_of_cell? _ _ x1)).trans x1, (hV.cell (World.block_lt_of_cell? _ _ x2)).trans x2, (hV.cell (World.block_lt_of_cell? _ _ x3)).trans x3, (hV.cell (World.block_lt_of_cell? _ _ y0)).trans y0, (hV.cell (World.block_lt_of_cell? _ _ y1)).trans y1, (hV.cell (World.block_lt_of_cell? _ _ y2)).trans y2, (hV.cell (World.block_lt_of_cell? _ _ y3)).trans y3⟩
      have zE0 : Below wr.heap.size wr wr.drew := (Below.refl _ _).drew
      refine wp_region_noPanic ?_
      refine wp_region_held_drew (S := fun V => V.cell? ⟨b, off + k * 6, none⟩ = some (.string d.row) ∧ V.cell? ⟨b, off + k * 6 + 1, none⟩ = some (.string d.fam) ∧ V.cell? ⟨b, off + k * 6 + 2, none⟩ = some (.string d.qual) ∧ V.cell? ⟨b, off + k * 6 + 3, none⟩ = some (.int .u64 d.time) ∧ V.cell? ⟨w.heap.size, 0, none⟩ = some (.string c.row) ∧ V.cell? ⟨w.heap.size, 1, none⟩ = some (.string c.fam) ∧ V.cell? ⟨w.heap.size, 2, none⟩ = some (.string c.qual) ∧ V.cell? ⟨w.heap.size, 3, none⟩ = some (.int .u64 c.time)) (by kernel_rfl) (zHS.out _ zE0) (fun zH0 => ?_)
      obtain ⟨zv0, hv0⟩ : ∃ v, v = wr.drew := ⟨_, rfl⟩
      rw [← hv0] at zH0 zE0 ⊢
      clear hv0
      refine hr_take_w 0 (some 7) (.int .i64 (k : Nat)) rfl rfl (by kernel_rfl) (by kernel_rfl) (by kernel_rfl) rfl (fun W hW => by obtain ⟨h0, h1, h2, h3, h4, h5, h6, h7⟩ := hW; go_simp) zH0 ?_
      simp only [FL]
      refine hr_take_w 1 (some 8) (.slice (some ⟨b, off, none⟩) n cap) rfl rfl (by kernel_rfl) (by kernel_rfl) (by kernel_rfl) rfl (fun W hW => by obtain ⟨h0, h1, h2, h3, h4, h5, h6, h7⟩ := hW; go_simp) zH0 ?_
      simp only [FL]
      refine hr_take_w 2 (some 9) (.int .i64 n) rfl rfl (by kernel_rfl) (by kernel_rfl) (by kernel_rfl) rfl (fun W hW => by obtain ⟨h0, h1, h2, h3, h4, h5, h6, h7⟩ := hW; go_simp) zH0 ?_
      simp only [FL]
      refine hr_take_w 3 (some 10) (.bool true) rfl rfl (by kernel_rfl) (by kernel_rfl) (by kernel_rfl) rfl (fun W hW => by obtain ⟨h0, h1, h2, h3, h4, h5, h6, h7⟩ := hW; go_simp) zH0 ?_
      simp only [FL]
      refine hr_take_w 4 (some 11) (.bool true) rfl rfl (by kernel_rfl) (by kernel_rfl) (by kernel_rfl) rfl (fun W hW => by obtain ⟨h0, h1, h2, h3, h4, h5, h6, h7⟩ := hW; go_simp) zH0 ?_
      simp only [FL]
      refine hr_take_w 5 (some 12) (.slice (some ⟨b, off, none⟩) n cap) rfl rfl (by kernel_rfl) (by kernel_rfl) (by kernel_rfl) rfl (fun W hW => by obtain ⟨h0, h1, h2, h3, h4, h5, h6, h7⟩ := hW; go_simp) zH0 ?_
      simp only [FL]
      refine hr_take_w 6 (some 13) (.int .i64 (k : Nat)) rfl rfl (by kernel_rfl) (by kernel_rfl) (by kernel_rfl) rfl (fun W hW => by obtain ⟨h0, h1, h2, h3, h4, h5, h6, h7⟩ := hW; go_simp) zH0 ?_
      simp only [FL]
      refine hr_take_w 7 (some 14) (.pointer (some ⟨b, off + k * 6, none⟩)) rfl rfl (by kernel_rfl) (by kernel_rfl) (by kernel_rfl) rfl (fun W hW => by obtain ⟨h0, h1, h2, h3, h4, h5, h6, h7⟩ := hW; go_simp) zH0 ?_
      simp only [FL]
      refine hr_take_w 8 (some 15) (.pointer (some ⟨b, off + k * 6, none⟩)) rfl rfl (by kernel_rfl) (by kernel_rfl) (by kernel_rfl) rfl (fun W hW => by obtain ⟨h0, h1, h2, h3, h4, h5, h6, h7⟩ := hW; go_simp) zH0 ?_
      simp only [FL]
      refine hr_take_w 9 (some 16) (.agg #[.string d.row, .string d.fam, .string d.qual, .int .u64 d.time]) rfl rfl (by kernel_rfl) (by kernel_rfl) (by kernel_rfl) rfl (fun W hW => by obtain ⟨h0, h1, h2, h3, h4, h5, h6, h7⟩ := hW; go_simp) zH0 ?_
      simp only [FL]
      refine hr_take_w 10 (some 17) (.pointer (some ⟨w.heap.size, 0, none⟩)) rfl rfl (by kernel_rfl) (by kernel_rfl) (by kernel_rfl) rfl (fun W hW => by obtain ⟨h0, h1, h2, h3, h4, h5, h6, h7⟩ := hW; go_simp) zH0 ?_
      simp only [FL]
      refine hr_take_w 11 (some 18) (.agg #[.string c.row, .string c.fam, .string c.qual, .int .u64 c.time]) rfl rfl (by kernel_rfl) (by kernel_rfl) (by kernel_rfl) rfl (fun W hW => by obtain ⟨h0, h1, h2, h3, h4, h5, h6, h7⟩ := hW; go_simp) zH0 ?_
      simp only [FL]
      refine hr_call_w 12 (some 19) 71 #[.agg #[.string d.row, .string d.fam, .string d.qual, .int .u64 d.time], .agg #[.string c.row, .string c.fam, .string c.qual, .int .u64 c.time]] rfl rfl (by kernel_rfl) rfl (by go_simp) (fun v w' => v = .int .i64 ck ∧ Below zv0.heap.size zv0 w') ((HCM.out zv0).mono (by
        rintro e w' ⟨rfl, C⟩
        exact ⟨_, rfl, rfl, C⟩)) ?_
      rintro v zv1 ⟨rfl, zC0⟩
      have zE1 := zE0.trans (zC0.mono zE0.size)
      have zH1 := zHS.out zv1 zE1
      refine ⟨zH1, ?_⟩
      simp only [FL]
      refine hr_take_w 13 (some 20) (.bool tb) rfl rfl (by kernel_rfl) (by kernel_rfl) (by kernel_rfl) rfl (fun W hW => by obtain ⟨h0, h1, h2, h3, h4, h5, h6, h7⟩ := hW; rw [← HTB.out]; go_simp) zH1 ?_
      simp only [FL]
      refine hr_take_w 14 (some 21) (.bool tb) rfl rfl (by kernel_rfl) (by kernel_rfl) (by kernel_rfl) rfl (fun W hW => by obtain ⟨h0, h1, h2, h3, h4, h5, h6, h7⟩ := hW; go_simp) zH1 ?_
      simp only [FL]
      refine wpAnyH_done (by kernel_rfl) ?_ _
      refine NoPanic.normal ?_
      have zB : Below wr.heap.size wr zv1 := zE1
      have x0 := (zB.cell (World.block_lt_of_cell? _ _ x0)).trans x0
      have x1 := (zB.cell (World.block_lt_of_cell? _ _ x1)).trans x1
      have x2 := (zB.cell (World.block_lt_of_cell? _ _ x2)).trans x2
      have x3 := (zB.cell (World.block_lt_of_cell? _ _ x3)).trans x3
      have y0 := (zB.cell (World.block_lt_of_cell? _ _ y0)).trans y0
      have y1 := (zB.cell (World.block_lt_of_cell? _ _ y1)).trans y1
      have y2 := (zB.cell (World.block_lt_of_cell? _ _ y2)).trans y2
      have y3 := (zB.cell (World.block_lt_of_cell? _ _ y3)).trans y3
      have y4 := (zB.cell (World.block_lt_of_cell? _ _ y4)).trans y4
      have y5 := (zB.cell (World.block_lt_of_cell? _ _ y5)).trans y5
      have BV := BR.trans (zB.mono BR.size)
      clear zHS zH0 zH1 HCM x4 x5
      cases tb with
      | true =>
        have HL2 : Hid (∀ z ∈ (l.map CA.c).take (k + 1), cmpL (keyL z.kv) (keyL c.c.kv) < 0) := by
          intro z hz
          rw [HTK.out] at hz
          rcases List.mem_append.1 hz with hz | hz
          · exact HL.out z hz
          · rw [List.mem_singleton.1 hz, HCMP.out]
            exact of_decide_eq_true HTB.out
        clear F1 F2 F3
        go_wp2
        go_roundw
        case rel => exact ⟨k + 1, by omega, by go_num, HL2, B1.trans (zB.mono B1.size)⟩
        case measure => simp [intOf]; omega
      | false =>
        have HGE : Hid (¬ cmpL (keyL d.c.kv) (keyL c.c.kv) < 0) := by
          show ¬ _
          rw [HCMP.out]
          exact of_decide_eq_false HTB.out
        go_wp2
        have yHS : Hid (∀ V, Below zv1.heap.size zv1 V → V.cell? ⟨b, off + k * 6, none⟩ = some (.string d.row) ∧ V.cell? ⟨b, off + k * 6 + 1, none⟩ = some (.string d.fam) ∧ V.cell? ⟨b, off + k * 6 + 2, none⟩ = some (.string d.qual) ∧ V.cell? ⟨b, off + k * 6 + 3, none⟩ = some (.int .u64 d.time) ∧ V.cell? ⟨w.heap.size, 0, none⟩ = some (.string c.row) ∧ V.cell? ⟨w.heap.size, 1, none⟩ = some (.string c.fam) ∧ V.cell? ⟨w.heap.size, 2, none⟩ = some (.string c.qual) ∧ V.cell? ⟨w.heap.size, 3, none⟩ = some (.int .u64 c.time)) := fun V hV => ⟨(hV.cell (World.block_lt_of_cell? _ _ x0)).trans x0, (hV.cell (World.block_lt_of_cell? _ _ x1)).trans x1, (hV.cell (World.block_lt_of_cell? _ _ x2)).trans x2, (hV.cell (World.block_lt_of_cell? _ _ x3)).trans x3, (hV.cell (World.block_lt_of_cell? _ _ y0)).trans y0, (hV.cell (World.block_lt_of_cell? _ _ y1)).trans y1, (hV.cell (World.block_lt_of_cell? _ _ y2)).trans y2, (hV.cell (World.block_lt_of_cell? _ _ y3)).trans y3⟩
        have yE0 : Below zv1.heap.size zv1 zv1.drew := (Below.refl _ _).drew
        refine wp_region_noPanic ?_
        refine wp_region_held_drew (S := fun V => V.cell? ⟨b, off + k * 6, none⟩ = some (.string d.row) ∧ V.cell? ⟨b, off + k * 6 + 1, none⟩ = some (.string d.fam) ∧ V.cell? ⟨b, off + k * 6 + 2, none⟩ = some (.string d.qual) ∧ V.cell? ⟨b, off + k * 6 + 3, none⟩ = some (.int .u64 d.time) ∧ V.cell? ⟨w.heap.size, 0, none⟩ = some (.string c.row) ∧ V.cell? ⟨w.heap.size, 1, none⟩ = some (.string c.fam) ∧ V.cell? ⟨w.heap.size, 2, none⟩ = some (.string c.qual) ∧ V.cell? ⟨w.heap.size, 3, none⟩ = some (.int .u64 c.time)) (by kernel_rfl) (yHS.out _ yE0) (fun yH0 => ?_)
        obtain ⟨yv0, hv0⟩ : ∃ v, v = zv1.drew := ⟨_, rfl⟩
        rw [← hv0] at yH0 yE0 ⊢
        clear hv0
        refine hr_take_w 0 (some 27) (.slice (some ⟨b, off + k * 6, none⟩) dn (cap - k)) rfl rfl (by kernel_rfl) (by kernel_rfl) (by kernel_rfl) rfl (fun W hW => by obtain ⟨h0, h1, h2, h3, h4, h5, h6, h7⟩ := hW; go_simp) yH0 ?_
        simp only [FL]
        refine hr_take_w 1 (some 28) (.int .i64 dn) rfl rfl (by kernel_rfl) (by kernel_rfl) (by kernel_rfl) rfl (fun W hW => by obtain ⟨h0, h1, h2, h3, h4, h5, h6, h7⟩ := hW; go_simp) yH0 ?_
        simp only [FL]
        refine hr_take_w 2 (some 29) (.bool true) rfl rfl (by kernel_rfl) (by kernel_rfl) (by kernel_rfl) rfl (fun W hW => by obtain ⟨h0, h1, h2, h3, h4, h5, h6, h7⟩ := hW; go_simp; omega) yH0 ?_
        simp only [FL]
        refine hr_take_w 3 (some 30) (.bool true) rfl rfl (by kernel_rfl) (by kernel_rfl) (by kernel_rfl) rfl (fun W hW => by obtain ⟨h0, h1, h2, h3, h4, h5, h6, h7⟩ := hW; go_simp) yH0 ?_
        simp only [FL]
        refine hr_take_w 4 (some 31) (.slice (some ⟨b, off + k * 6, none⟩) dn (cap - k)) rfl rfl (by kernel_rfl) (by kernel_rfl) (by kernel_rfl) rfl (fun W hW => by obtain ⟨h0, h1, h2, h3, h4, h5, h6, h7⟩ := hW; go_simp) yH0 ?_
        simp only [FL]
        refine hr_take_w 5 (some 32) (.pointer (some ⟨b, off + k * 6, none⟩)) rfl rfl (by kernel_rfl) (by kernel_rfl) (by kernel_rfl) rfl (fun W hW => by obtain ⟨h0, h1, h2, h3, h4, h5, h6, h7⟩ := hW; go_simp; intro hz; omega) yH0 ?_
        simp only [FL]
        refine hr_take_w 6 (some 33) (.pointer (some ⟨b, off + k * 6, none⟩)) rfl rfl (by kernel_rfl) (by kernel_rfl) (by kernel_rfl) rfl (fun W hW => by obtain ⟨h0, h1, h2, h3, h4, h5, h6, h7⟩ := hW; go_simp) yH0 ?_
        simp only [FL]
        refine hr_take_w 7 (some 34) (.agg #[.string d.row, .string d.fam, .string d.qual, .int .u64 d.time]) rfl rfl (by kernel_rfl) (by kernel_rfl) (by kernel_rfl) rfl (fun W hW => by obtain ⟨h0, h1, h2, h3, h4, h5, h6, h7⟩ := hW; go_simp) yH0 ?_
        simp only [FL]
        refine hr_take_w 8 (some 35) (.pointer (some ⟨w.heap.size, 0, none⟩)) rfl rfl (by kernel_rfl) (by kernel_rfl) (by kernel_rfl) rfl (fun W hW => by obtain ⟨h0, h1, h2, h3, h4, h5, h6, h7⟩ := hW; go_simp) yH0 ?_
        simp only [FL]
        refine hr_take_w 9 (some 36) (.agg #[.string c.row, .string c.fam, .string c.qual, .int .u64 c.time]) rfl rfl (by kernel_rfl) (by kernel_rfl) (by kernel_rfl) rfl (fun W hW => by obtain ⟨h0, h1, h2, h3, h4, h5, h6, h7⟩ := hW; go_simp) yH0 ?_
        simp only [FL]
        refine hr_take_w 10 (some 37) (.bool kb) rfl rfl (by kernel_rfl) (by kernel_rfl) (by kernel_rfl) rfl (fun W hW => by obtain ⟨h0, h1, h2, h3, h4, h5, h6, h7⟩ := hW; rw [← HKB.out]; have hq := key_ifs d.key c.key true false W; rw [if_yes] at hq; simp [execOp, Act.eval, eqGuard, go_sem]; exact hq) yH0 ?_
        simp only [FL]
        refine hr_take_w 11 (some 38) (.bool kb) rfl rfl (by kernel_rfl) (by kernel_rfl) (by kernel_rfl) rfl (fun W hW => by obtain ⟨h0, h1, h2, h3, h4, h5, h6, h7⟩ := hW; go_simp) yH0 ?_
        simp only [FL]
        refine wpAnyH_done (by kernel_rfl) ?_ _
        refine NoPanic.normal ?_
        have yB : Below zv1.heap.size zv1 yv0 := yE0
        have y0 := (yB.cell (World.block_lt_of_cell? _ _ y0)).trans y0
        have y1 := (yB.cell (World.block_lt_of_cell? _ _ y1)).trans y1
        have y2 := (yB.cell (World.block_lt_of_cell? _ _ y2)).trans y2
        have y3 := (yB.cell (World.block_lt_of_cell? _ _ y3)).trans y3
        have y4 := (yB.cell (World.block_lt_of_cell? _ _ y4)).trans y4
        have y5 := (yB.cell (World.block_lt_of_cell? _ _ y5)).trans y5
        have BW := BV.trans (yB.mono BV.size)
        clear yHS yH0 x0 x1 x2 x3
        cases kb with
        | true =>
          have HEQ : Hid (keyL d.c.kv = keyL c.c.kv) := by
            have h := HKB.out
            obtain ⟨h1, h2, h3, h4⟩ := of_decide_eq_true h
            show keyL ⟨sb d.row, sb d.fam, sb d.qual, d.time⟩ = keyL ⟨sb c.row, sb c.fam, sb c.qual, c.time⟩
            rw [show d.row = c.row from h1, show d.fam = c.fam from h2, show d.qual = c.qual from h3, show d.time = c.time from h4]
          have LK := LF.below BW
          have LR := LE.below BW
          have hmm : dn - 1 ≤ 1000 := by omega
          clear LD LE LF F2
          go_wp2
          have tHS : Hid (∀ V, Below yv0.heap.size yv0 V → V.cell? ⟨w.heap.size, 0, none⟩ = some (.string c.row) ∧ V.cell? ⟨w.heap.size, 1, none⟩ = some (.string c.fam) ∧ V.cell? ⟨w.heap.size, 2, none⟩ = some (.string c.qual) ∧ V.cell? ⟨w.heap.size, 3, none⟩ = some (.int .u64 c.time) ∧ V.cell? ⟨w.heap.size, 4, none⟩ = some (.slice c.va.ao c.va.n c.va.cap) ∧ V.cell? ⟨w.heap.size, 5, none⟩ = some (.bool c.gone)) := fun V hV => ⟨(hV.cell (World.block_lt_of_cell? _ _ y0)).trans y0, (hV.cell (World.block_lt_of_cell? _ _ y1)).trans y1, (hV.cell (World.block_lt_of_cell? _ _ y2)).trans y2, (hV.cell (World.block_lt_of_cell? _ _ y3)).trans y3, (hV.cell (World.block_lt_of_cell? _ _ y4)).trans y4, (hV.cell (World.block_lt_of_cell? _ _ y5)).trans y5⟩
          have tE0 : Below yv0.heap.size yv0 yv0.drew := (Below.refl _ _).drew
          refine wp_region_noPanic ?_
          refine wp_region_held_drew (S := fun V => V.cell? ⟨w.heap.size, 0, none⟩ = some (.string c.row) ∧ V.cell? ⟨w.heap.size, 1, none⟩ = some (.string c.fam) ∧ V.cell? ⟨w.heap.size, 2, none⟩ = some (.string c.qual) ∧ V.cell? ⟨w.heap.size, 3, none⟩ = some (.int .u64 c.time) ∧ V.cell? ⟨w.heap.size, 4, none⟩ = some (.slice c.va.ao c.va.n c.va.cap) ∧ V.cell? ⟨w.heap.size, 5, none⟩ = some (.bool c.gone)) (by kernel_rfl) (tHS.out _ tE0) (fun tH0 => ?_)
          obtain ⟨tv0, hv0⟩ : ∃ v, v = yv0.drew := ⟨_, rfl⟩
          rw [← hv0] at tH0 tE0 ⊢
          clear hv0
          refine hr_take_w 1 (some 42) (.slice (some ⟨b, off, none⟩) n cap) rfl rfl (by kernel_rfl) (by kernel_rfl) (by kernel_rfl) rfl (fun W hW => by obtain ⟨h0, h1, h2, h3, h4, h5⟩ := hW; go_simp) tH0 ?_
          simp only [FL]
          refine hr_take_w 2 (some 43) (.int .i64 (k : Nat)) rfl rfl (by kernel_rfl) (by kernel_rfl) (by kernel_rfl) rfl (fun W hW => by obtain ⟨h0, h1, h2, h3, h4, h5⟩ := hW; go_simp) tH0 ?_
          simp only [FL]
          refine hr_take_w 3 (some 44) (.slice (some ⟨b, off, none⟩) k cap) rfl rfl (by kernel_rfl) (by kernel_rfl) (by kernel_rfl) rfl (fun W hW => by obtain ⟨h0, h1, h2, h3, h4, h5⟩ := hW; simp [execOp, Act.eval, F1]) tH0 ?_
          simp only [FL]
          refine hr_take_w 5 (some 46) (.agg #[.string c.row, .string c.fam, .string c.qual, .int .u64 c.time, .slice c.va.ao c.va.n c.va.cap, .bool c.gone]) rfl rfl (by kernel_rfl) (by kernel_rfl) (by kernel_rfl) rfl (fun W hW => by obtain ⟨h0, h1, h2, h3, h4, h5⟩ := hW; go_simp) tH0 ?_
          simp only [FL]
          refine hr_take_w 8 (some 49) (.slice eo (dn - 1) (cap - k - 1)) rfl rfl (by kernel_rfl) (by kernel_rfl) (by kernel_rfl) rfl (fun W hW => by obtain ⟨h0, h1, h2, h3, h4, h5⟩ := hW; go_simp) tH0 ?_
          simp only [FL]
          refine wpAnyH_effto 3 (fun zi zv zw => (zi = 0 → ∃ g, zv = .slice (some ⟨g, 0, none⟩) 0 0 ∧ yv0.heap.size ≤ g ∧ Arr zw g 33 []) ∧ (zi = 4 → ∃ vo vn vc, zv = .slice vo vn vc ∧ zw.ownsRow yv0.heap.size 33 6 (.slice vo vn vc) (l.take k).length (cellsC (l.take k))) ∧ (zi = 6 → ∃ g, zv = .slice (some ⟨g, 0, none⟩) 1 1 ∧ Arr zw g 33 [.string c.row, .string c.fam, .string c.qual, .int .u64 c.time, .slice c.va.ao c.va.n c.va.cap, .bool c.gone])) [(0, 41), (4, 45), (6, 47)] 51 (by kernel_rfl) (by decide) (by decide) rfl ?_ (fun W hW => tHS.out W (tE0.trans (hW.mono tE0.size))) ?_ ?_
          · intro zi v w w' h hb
            refine ⟨fun e => ?_, fun e => ?_, fun e => ?_⟩
            · have h := h.1 e
              obtain ⟨g, h1, h2, h3⟩ := h
              exact ⟨g, h1, h2, arr_below h3 hb⟩
            · have h := h.2.1 e
              obtain ⟨vo, vn, vc, h1, h2⟩ := h
              exact ⟨vo, vn, vc, h1, own_below h2 hb⟩
            · have h := h.2.2 e
              obtain ⟨g, h1, h2⟩ := h
              exact ⟨g, h1, arr_below h2 hb⟩
          · intro zp zhi o a w ho hs hb hdep
            have tEB := tE0.trans (hb.mono tE0.size)
            simp only [List.mem_cons, List.not_mem_nil, or_false] at zhi
            rcases zhi with rfl | rfl | rfl
            · obtain rfl : _ = o := Option.some.inj (show some _ = some o from ho)
              exact .inl ⟨_, _, by go_simp, ⟨fun _ => ⟨_, rfl, tEB.size, heap_alloc_new w _⟩, fun e => absurd e (by decide), fun e => absurd e (by decide)⟩, (Below.refl _ _).alloc (Nat.le_refl _) _⟩
            · obtain rfl : _ = o := Option.some.inj (show some _ = some o from ho)
              obtain ⟨x41, t41, f41⟩ := (hdep 0 (by kernel_rfl)).at 41 (by kernel_rfl)
              replace f41 := f41.1 rfl
              have t44 : a.tmps[44]? = some (.slice (some ⟨b, off, none⟩) k cap) := hs.get 44 (by kernel_rfl) rfl
              obtain ⟨g, rfl, hg1, hg2⟩ := f41
              obtain ⟨v', w', hr, h1, h2⟩ := run_appC0 31 hg1 hg2 (LK.below tEB) (by omega) tEB.size
              obtain ⟨vo, vn, vc, rfl⟩ := own_slice3 h1
              exact .inl ⟨_, w', by simp [execOp, Act.eval, resolve, invoke, builtin, hr, t41, t44], ⟨fun e => absurd e (by decide), fun _ => ⟨_, _, _, rfl, h1⟩, fun e => absurd e (by decide)⟩, h2⟩
            · obtain rfl : _ = o := Option.some.inj (show some _ = some o from ho)
              have t46 : a.tmps[46]? = some (.agg #[.string c.row, .string c.fam, .string c.qual, .int .u64 c.time, .slice c.va.ao c.va.n c.va.cap, .bool c.gone]) := hs.get 46 (by kernel_rfl) rfl
              exact .inl ⟨_, _, by go_simp, ⟨fun e => absurd e (by decide), fun e => absurd e (by decide), fun _ => ⟨_, rfl, heap_alloc_new w _⟩⟩, (Below.refl _ _).alloc (Nat.le_refl _) _⟩
          intro zf tv1 hb hh
          have tE1 := tE0.trans (hb.mono tE0.size)
          obtain ⟨vo, vn, vc, e4, O4⟩ := (hh (4, 45) (by simp)).2.1 rfl
          obtain ⟨gc, e6, A6⟩ := (hh (6, 47) (by simp)).2.2 rfl
          clear hh hb
          simp only [putL, List.foldl_cons, List.foldl_nil, e4, e6]
          clear e4 e6
          simp only [FL]
          have N4 : CNew w tv1 yv0.heap.size (.slice vo vn vc) (l.take k) := ⟨O4, fun x hx => HOK.out x (List.mem_of_mem_take hx)⟩
          clear O4
          refine hr_ex 7 (some 48) rfl rfl (by kernel_rfl) rfl (R := fun v w' => ∃ r1 n1 c1, v = .slice r1 n1 c1 ∧ CNew w w' yv0.heap.size (.slice r1 n1 c1) (l.take k ++ [c]) ∧ Below yv0.heap.size tv1 w') (by obtain ⟨v', w', hr, h3, h4⟩ := run_appN 31 N4 (cp := 1) A6 hok (by rw [List.length_take]; omega) tE1.size; obtain ⟨r1, n1, c1, rfl⟩ := h3.slice; exact ⟨_, w', by simp [execOp, Act.eval, resolve, invoke, builtin, hr], _, _, _, rfl, h3, h4⟩) ?_
          rintro v tv2 ⟨r1, n1, c1, rfl, N5, tC1⟩
          have tE2 := tE1.trans tC1
          have tH2 := tHS.out tv2 tE2
          refine ⟨tH2, ?_⟩
          simp only [FL]
          refine hr_ex 9 (some 50) rfl rfl (by kernel_rfl) rfl (R := fun v w' => ∃ r2 n2 c2, v = .slice r2 n2 c2 ∧ CNew w w' yv0.heap.size (.slice r2 n2 c2) (l.take k ++ [c] ++ (l.drop k).drop 1) ∧ Below yv0.heap.size tv2 w') (by obtain ⟨v', w', hr, h3, h4⟩ := run_appNs 31 N5 (LR.below tE2) (fun x hx => HOK.out x (List.mem_of_mem_drop (List.mem_of_mem_drop hx))) (by rw [List.length_append, List.length_take]; simp; omega) tE2.size; obtain ⟨r2, n2, c2, rfl⟩ := h3.slice; exact ⟨_, w', by simp [execOp, Act.eval, resolve, invoke, builtin, hr], _, _, _, rfl, h3, h4⟩) ?_
          rintro v tv3 ⟨r2, n2, c2, rfl, N6, tC2⟩
          have tE3 := tE2.trans tC2
          have tH3 := tHS.out tv3 tE3
          refine ⟨tH3, ?_⟩
          simp only [FL]
          refine hr_take_w 10 (some 4) (.slice r2 n2 c2) rfl rfl (by kernel_rfl) (by kernel_rfl) (by kernel_rfl) rfl (fun W hW => by obtain ⟨h0, h1, h2, h3, h4, h5⟩ := hW; go_simp) tH3 ?_
          simp only [FL]
          refine wpAnyH_done (by kernel_rfl) ?_ _
          refine NoPanic.normal ?_
          clear tHS tH2 tH3
          have BF := BW.trans (tE3.mono BW.size)
          obtain ⟨ao2, cap2, hv, L2⟩ := N6.cl BF
          have L3 : CL tv3 r2 n2 c2 (l.take k ++ [c] ++ (l.drop k).drop 1) := by
            simp only [Value.slice.injEq] at hv
            obtain ⟨e1, e2, e3⟩ := hv
            rw [e1, e2, e3]
            exact L2
          clear hv L2 N6
          go_wp2
          go_ret
          exact ⟨_, _, _, _, rfl, L3, by
            rw [List.map_append, List.map_append, List.map_take, List.map_drop, List.map_drop, List.drop_drop, List.append_assoc]
            exact cput_same HS.out HL.out HDR.out HEQ.out, BF⟩
        | false =>
          have HNE : Hid (keyL d.c.kv ≠ keyL c.c.kv) := fun h => by
            have h2 := keyL_inj (CV.kvByt hdk.time) (CV.kvByt hok.time) h
            obtain ⟨h1, h2, h3, h4⟩ := CV.kv_eq h2
            have h5 := HKB.out
            rw [show keyB d.key c.key = true from decide_eq_true ⟨h1, h2, h3, h4⟩] at h5
            simp at h5
          have LK := LF.below BW
          have LR := LD.below BW
          clear LD LE LF F2 F3
          go_wp2
          have tHS : Hid (∀ V, Below yv0.heap.size yv0 V → V.cell? ⟨w.heap.size, 0, none⟩ = some (.string c.row) ∧ V.cell? ⟨w.heap.size, 1, none⟩ = some (.string c.fam) ∧ V.cell? ⟨w.heap.size, 2, none⟩ = some (.string c.qual) ∧ V.cell? ⟨w.heap.size, 3, none⟩ = some (.int .u64 c.time) ∧ V.cell? ⟨w.heap.size, 4, none⟩ = some (.slice c.va.ao c.va.n c.va.cap) ∧ V.cell? ⟨w.heap.size, 5, none⟩ = some (.bool c.gone)) := fun V hV => ⟨(hV.cell (World.block_lt_of_cell? _ _ y0)).trans y0, (hV.cell (World.block_lt_of_cell? _ _ y1)).trans y1, (hV.cell (World.block_lt_of_cell? _ _ y2)).trans y2, (hV.cell (World.block_lt_of_cell? _ _ y3)).trans y3, (hV.cell (World.block_lt_of_cell? _ _ y4)).trans y4, (hV.cell (World.block_lt_of_cell? _ _ y5)).trans y5⟩
          have tE0 : Below yv0.heap.size yv0 yv0.drew := (Below.refl _ _).drew
          refine wp_region_noPanic ?_
          refine wp_region_held_drew (S := fun V => V.cell? ⟨w.heap.size, 0, none⟩ = some (.string c.row) ∧ V.cell? ⟨w.heap.size, 1, none⟩ = some (.string c.fam) ∧ V.cell? ⟨w.heap.size, 2, none⟩ = some (.string c.qual) ∧ V.cell? ⟨w.heap.size, 3, none⟩ = some (.int .u64 c.time) ∧ V.cell? ⟨w.heap.size, 4, none⟩ = some (.slice c.va.ao c.va.n c.va.cap) ∧ V.cell? ⟨w.heap.size, 5, none⟩ = some (.bool c.gone)) (by kernel_rfl) (tHS.out _ tE0) (fun tH0 => ?_)
          obtain ⟨tv0, hv0⟩ : ∃ v, v = yv0.drew := ⟨_, rfl⟩
          rw [← hv0] at tH0 tE0 ⊢
          clear hv0
          refine hr_take_w 1 (some 42) (.slice (some ⟨b, off, none⟩) n cap) rfl rfl (by kernel_rfl) (by kernel_rfl) (by kernel_rfl) rfl (fun W hW => by obtain ⟨h0, h1, h2, h3, h4, h5⟩ := hW; go_simp) tH0 ?_
          simp only [FL]
          refine hr_take_w 2 (some 43) (.int .i64 (k : Nat)) rfl rfl (by kernel_rfl) (by kernel_rfl) (by kernel_rfl) rfl (fun W hW => by obtain ⟨h0, h1, h2, h3, h4, h5⟩ := hW; go_simp) tH0 ?_
          simp only [FL]
          refine hr_take_w 3 (some 44) (.slice (some ⟨b, off, none⟩) k cap) rfl rfl (by kernel_rfl) (by kernel_rfl) (by kernel_rfl) rfl (fun W hW => by obtain ⟨h0, h1, h2, h3, h4, h5⟩ := hW; simp [execOp, Act.eval, F1]) tH0 ?_
          simp only [FL]
          refine hr_take_w 5 (some 46) (.agg #[.string c.row, .string c.fam, .string c.qual, .int .u64 c.time, .slice c.va.ao c.va.n c.va.cap, .bool c.gone]) rfl rfl (by kernel_rfl) (by kernel_rfl) (by kernel_rfl) rfl (fun W hW => by obtain ⟨h0, h1, h2, h3, h4, h5⟩ := hW; go_simp) tH0 ?_
          simp only [FL]
          refine hr_take_w 8 (some 49) (.slice (some ⟨b, off + k * 6, none⟩) dn (cap - k)) rfl rfl (by kernel_rfl) (by kernel_rfl) (by kernel_rfl) rfl (fun W hW => by obtain ⟨h0, h1, h2, h3, h4, h5⟩ := hW; go_simp) tH0 ?_
          simp only [FL]
          refine wpAnyH_effto 3 (fun zi zv zw => (zi = 0 → ∃ g, zv = .slice (some ⟨g, 0, none⟩) 0 0 ∧ yv0.heap.size ≤ g ∧ Arr zw g 33 []) ∧ (zi = 4 → ∃ vo vn vc, zv = .slice vo vn vc ∧ zw.ownsRow yv0.heap.size 33 6 (.slice vo vn vc) (l.take k).length (cellsC (l.take k))) ∧ (zi = 6 → ∃ g, zv = .slice (some ⟨g, 0, none⟩) 1 1 ∧ Arr zw g 33 [.string c.row, .string c.fam, .string c.qual, .int .u64 c.time, .slice c.va.ao c.va.n c.va.cap, .bool c.gone])) [(0, 41), (4, 45), (6, 47)] 51 (by kernel_rfl) (by decide) (by decide) rfl ?_ (fun W hW => tHS.out W (tE0.trans (hW.mono tE0.size))) ?_ ?_
          · intro zi v w w' h hb
            refine ⟨fun e => ?_, fun e => ?_, fun e => ?_⟩
            · have h := h.1 e
              obtain ⟨g, h1, h2, h3⟩ := h
              exact ⟨g, h1, h2, arr_below h3 hb⟩
            · have h := h.2.1 e
              obtain ⟨vo, vn, vc, h1, h2⟩ := h
              exact ⟨vo, vn, vc, h1, own_below h2 hb⟩
            · have h := h.2.2 e
              obtain ⟨g, h1, h2⟩ := h
              exact ⟨g, h1, arr_below h2 hb⟩
          · intro zp zhi o a w ho hs hb hdep
            have tEB := tE0.trans (hb.mono tE0.size)
            simp only [List.mem_cons, List.not_mem_nil, or_false] at zhi
            rcases zhi with rfl | rfl | rfl
            · obtain rfl : _ = o := Option.some.inj (show some _ = some o from ho)
              exact .inl ⟨_, _, by go_simp, ⟨fun _ => ⟨_, rfl, tEB.size, heap_alloc_new w _⟩, fun e => absurd e (by decide), fun e => absurd e (by decide)⟩, (Below.refl _ _).alloc (Nat.le_refl _) _⟩
            · obtain rfl : _ = o := Option.some.inj (show some _ = some o from ho)
              obtain ⟨x41, t41, f41⟩ := (hdep 0 (by kernel_rfl)).at 41 (by kernel_rfl)
              replace f41 := f41.1 rfl
              have t44 : a.tmps[44]? = some (.slice (some ⟨b, off, none⟩) k cap) := hs.get 44 (by kernel_rfl) rfl
              obtain ⟨g, rfl, hg1, hg2⟩ := f41
              obtain ⟨v', w', hr, h1, h2⟩ := run_appC0 31 hg1 hg2 (LK.below tEB) (by omega) tEB.size
              obtain ⟨vo, vn, vc, rfl⟩ := own_slice3 h1
              exact .inl ⟨_, w', by simp [execOp, Act.eval, resolve, invoke, builtin, hr, t41, t44], ⟨fun e => absurd e (by decide), fun _ => ⟨_, _, _, rfl, h1⟩, fun e => absurd e (by decide)⟩, h2⟩
            · obtain rfl : _ = o := Option.some.inj (show some _ = some o from ho)
              have t46 : a.tmps[46]? = some (.agg #[.string c.row, .string c.fam, .string c.qual, .int .u64 c.time, .slice c.va.ao c.va.n c.va.cap, .bool c.gone]) := hs.get 46 (by kernel_rfl) rfl
              exact .inl ⟨_, _, by go_simp, ⟨fun e => absurd e (by decide), fun e => absurd e (by decide), fun _ => ⟨_, rfl, heap_alloc_new w _⟩⟩, (Below.refl _ _).alloc (Nat.le_refl _) _⟩
          intro zf tv1 hb hh
          have tE1 := tE0.trans (hb.mono tE0.size)
          obtain ⟨vo, vn, vc, e4, O4⟩ := (hh (4, 45) (by simp)).2.1 rfl
          obtain ⟨gc, e6, A6⟩ := (hh (6, 47) (by simp)).2.2 rfl
          clear hh hb
          simp only [putL, List.foldl_cons, List.foldl_nil, e4, e6]
          clear e4 e6
          simp only [FL]
          have N4 : CNew w tv1 yv0.heap.size (.slice vo vn vc) (l.take k) := ⟨O4, fun x hx => HOK.out x (List.mem_of_mem_take hx)⟩
          clear O4
          refine hr_ex 7 (some 48) rfl rfl (by kernel_rfl) rfl (R := fun v w' => ∃ r1 n1 c1, v = .slice r1 n1 c1 ∧ CNew w w' yv0.heap.size (.slice r1 n1 c1) (l.take k ++ [c]) ∧ Below yv0.heap.size tv1 w') (by obtain ⟨v', w', hr, h3, h4⟩ := run_appN 31 N4 (cp := 1) A6 hok (by rw [List.length_take]; omega) tE1.size; obtain ⟨r1, n1, c1, rfl⟩ := h3.slice; exact ⟨_, w', by simp [execOp, Act.eval, resolve, invoke, builtin, hr], _, _, _, rfl, h3, h4⟩) ?_
          rintro v tv2 ⟨r1, n1, c1, rfl, N5, tC1⟩
          have tE2 := tE1.trans tC1
          have tH2 := tHS.out tv2 tE2
          refine ⟨tH2, ?_⟩
          simp only [FL]
          refine hr_ex 9 (some 50) rfl rfl (by kernel_rfl) rfl (R := fun v w' => ∃ r2 n2 c2, v = .slice r2 n2 c2 ∧ CNew w w' yv0.heap.size (.slice r2 n2 c2) (l.take k ++ [c] ++ l.drop k) ∧ Below yv0.heap.size tv2 w') (by obtain ⟨v', w', hr, h3, h4⟩ := run_appNs 31 N5 (LR.below tE2) (fun x hx => HOK.out x (List.mem_of_mem_drop hx)) (by rw [List.length_append, List.length_take]; simp; omega) tE2.size; obtain ⟨r2, n2, c2, rfl⟩ := h3.slice; exact ⟨_, w', by simp [execOp, Act.eval, resolve, invoke, builtin, hr], _, _, _, rfl, h3, h4⟩) ?_
          rintro v tv3 ⟨r2, n2, c2, rfl, N6, tC2⟩
          have tE3 := tE2.trans tC2
          have tH3 := tHS.out tv3 tE3
          refine ⟨tH3, ?_⟩
          simp only [FL]
          refine hr_take_w 10 (some 4) (.slice r2 n2 c2) rfl rfl (by kernel_rfl) (by kernel_rfl) (by kernel_rfl) rfl (fun W hW => by obtain ⟨h0, h1, h2, h3, h4, h5⟩ := hW; go_simp) tH3 ?_
          simp only [FL]
          refine wpAnyH_done (by kernel_rfl) ?_ _
          refine NoPanic.normal ?_
          clear tHS tH2 tH3
          have BF := BW.trans (tE3.mono BW.size)
          obtain ⟨ao2, cap2, hv, L2⟩ := N6.cl BF
          have L3 : CL tv3 r2 n2 c2 (l.take k ++ [c] ++ l.drop k) := by
            simp only [Value.slice.injEq] at hv
            obtain ⟨e1, e2, e3⟩ := hv
            rw [e1, e2, e3]
            exact L2
          clear hv L2 N6
          go_wp2
          go_ret
          exact ⟨_, _, _, _, rfl, L3, by
            rw [List.map_append, List.map_append, List.map_take, List.map_drop, List.append_assoc]
            exact cput_new HS.out HL.out (fun y r hy => by rw [HDR.out] at hy; obtain ⟨rfl, -⟩ := List.cons.inj hy; have hg := HGE.out; exact ⟨by omega, HNE.out⟩), BF⟩
    · have hge : ¬ (k : Int) < (n : Int) := by omega
      have hd0 : ¬ (0 : Int) < (dn : Int) := by omega
      have hdl : dn ≤ n := by omega
      have HZ : Hid ((l.map CA.c).drop k = []) := List.drop_eq_nil_of_le (by rw [List.length_map]; omega)
      obtain ⟨ro, hro⟩ : ∃ a, a = bk6 ao cap k := ⟨_, rfl⟩
      rw [← hro] at F2 LD
      clear hro hdn
      go_wp2
      have zHS : Hid (∀ V, Below wr.heap.size wr V → True) := fun _ _ => trivial
      have zE0 : Below wr.heap.size wr wr.drew := (Below.refl _ _).drew
      refine wp_region_noPanic ?_
      refine wp_region_held_drew (S := fun V => True) (by kernel_rfl) (zHS.out _ zE0) (fun zH0 => ?_)
      obtain ⟨zv0, hv0⟩ : ∃ v, v = wr.drew := ⟨_, rfl⟩
      rw [← hv0] at zE0 ⊢
      clear hv0
      refine hr_take_w 0 (some 7) (.int .i64 (k : Nat)) rfl rfl (by kernel_rfl) (by kernel_rfl) (by kernel_rfl) rfl (fun W hW => by go_simp) zH0 ?_
      simp only [FL]
      refine hr_take_w 1 (some 8) (.slice ao n cap) rfl rfl (by kernel_rfl) (by kernel_rfl) (by kernel_rfl) rfl (fun W hW => by go_simp) zH0 ?_
      simp only [FL]
      refine hr_take_w 2 (some 9) (.int .i64 n) rfl rfl (by kernel_rfl) (by kernel_rfl) (by kernel_rfl) rfl (fun W hW => by go_simp) zH0 ?_
      simp only [FL]
      refine hr_take_w 3 (some 10) (.bool false) rfl rfl (by kernel_rfl) (by kernel_rfl) (by kernel_rfl) rfl (fun W hW => by go_simp) zH0 ?_
      simp only [FL]
      refine hr_take_w 4 (some 11) (.bool false) rfl rfl (by kernel_rfl) (by kernel_rfl) (by kernel_rfl) rfl (fun W hW => by go_simp) zH0 ?_
      simp only [FL]
      refine hr_none 5 (some 12) rfl rfl (by kernel_rfl) (by kernel_rfl) (by kernel_rfl) rfl zH0 ?_
      simp only [FL]
      refine hr_none 6 (some 13) rfl rfl (by kernel_rfl) (by kernel_rfl) (by kernel_rfl) rfl zH0 ?_
      simp only [FL]
      refine hr_none 7 (some 14) rfl rfl (by kernel_rfl) (by kernel_rfl) (by kernel_rfl) rfl zH0 ?_
      simp only [FL]
      refine hr_none 8 (some 15) rfl rfl (by kernel_rfl) (by kernel_rfl) (by kernel_rfl) rfl zH0 ?_
      simp only [FL]
      refine hr_none 9 (some 16) rfl rfl (by kernel_rfl) (by kernel_rfl) (by kernel_rfl) rfl zH0 ?_
      simp only [FL]
      refine hr_none 10 (some 17) rfl rfl (by kernel_rfl) (by kernel_rfl) (by kernel_rfl) rfl zH0 ?_
      simp only [FL]
      refine hr_none 11 (some 18) rfl rfl (by kernel_rfl) (by kernel_rfl) (by kernel_rfl) rfl zH0 ?_
      simp only [FL]
      refine hr_none 12 (some 19) rfl rfl (by kernel_rfl) (by kernel_rfl) (by kernel_rfl) rfl zH0 ?_
      simp only [FL]
      refine hr_none 13 (some 20) rfl rfl (by kernel_rfl) (by kernel_rfl) (by kernel_rfl) rfl zH0 ?_
      simp only [FL]
      refine hr_take_w 14 (some 21) (.bool false) rfl rfl (by kernel_rfl) (by kernel_rfl) (by kernel_rfl) rfl (fun W hW => by go_simp) zH0 ?_
      simp only [FL]
      refine wpAnyH_done (by kernel_rfl) ?_ _
      refine NoPanic.normal ?_
      have zB : Below wr.heap.size wr zv0 := zE0
      have y0 := (zB.cell (World.block_lt_of_cell? _ _ y0)).trans y0
      have y1 := (zB.cell (World.block_lt_of_cell? _ _ y1)).trans y1
      have y2 := (zB.cell (World.block_lt_of_cell? _ _ y2)).trans y2
      have y3 := (zB.cell (World.block_lt_of_cell? _ _ y3)).trans y3
      have y4 := (zB.cell (World.block_lt_of_cell? _ _ y4)).trans y4
      have y5 := (zB.cell (World.block_lt_of_cell? _ _ y5)).trans y5
      have BV := BR.trans (zB.mono BR.size)
      clear zHS zH0
      go_wp2
      have yHS : Hid (∀ V, Below zv0.heap.size zv0 V → True) := fun _ _ => trivial
      have yE0 : Below zv0.heap.size zv0 zv0.drew := (Below.refl _ _).drew
      refine wp_region_noPanic ?_
      refine wp_region_held_drew (S := fun V => True) (by kernel_rfl) (yHS.out _ yE0) (fun yH0 => ?_)
      obtain ⟨yv0, hv0⟩ : ∃ v, v = zv0.drew := ⟨_, rfl⟩
      rw [← hv0] at yE0 ⊢
      clear hv0
      refine hr_take_w 0 (some 27) (.slice ro dn (cap - k)) rfl rfl (by kernel_rfl) (by kernel_rfl) (by kernel_rfl) rfl (fun W hW => by go_simp) yH0 ?_
      simp only [FL]
      refine hr_take_w 1 (some 28) (.int .i64 dn) rfl rfl (by kernel_rfl) (by kernel_rfl) (by kernel_rfl) rfl (fun W hW => by go_simp) yH0 ?_
      simp only [FL]
      refine hr_take_w 2 (some 29) (.bool false) rfl rfl (by kernel_rfl) (by kernel_rfl) (by kernel_rfl) rfl (fun W hW => by go_simp; omega) yH0 ?_
      simp only [FL]
      refine hr_take_w 3 (some 30) (.bool false) rfl rfl (by kernel_rfl) (by kernel_rfl) (by kernel_rfl) rfl (fun W hW => by go_simp) yH0 ?_
      simp only [FL]
      refine hr_none 4 (some 31) rfl rfl (by kernel_rfl) (by kernel_rfl) (by kernel_rfl) rfl yH0 ?_
      simp only [FL]
      refine hr_none 5 (some 32) rfl rfl (by kernel_rfl) (by kernel_rfl) (by kernel_rfl) rfl yH0 ?_
      simp only [FL]
      refine hr_none 6 (some 33) rfl rfl (by kernel_rfl) (by kernel_rfl) (by kernel_rfl) rfl yH0 ?_
      simp only [FL]
      refine hr_none 7 (some 34) rfl rfl (by kernel_rfl) (by kernel_rfl) (by kernel_rfl) rfl yH0 ?_
      simp only [FL]
      refine hr_none 8 (some 35) rfl rfl (by kernel_rfl) (by kernel_rfl) (by kernel_rfl) rfl yH0 ?_
      simp only [FL]
      refine hr_none 9 (some 36) rfl rfl (by kernel_rfl) (by kernel_rfl) (by kernel_rfl) rfl yH0 ?_
      simp only [FL]
      refine hr_none 10 (some 37) rfl rfl (by kernel_rfl) (by kernel_rfl) (by kernel_rfl) rfl yH0 ?_
      simp only [FL]
      refine hr_take_w 11 (some 38) (.bool false) rfl rfl (by kernel_rfl) (by kernel_rfl) (by kernel_rfl) rfl (fun W hW => by go_simp) yH0 ?_
      simp only [FL]
      refine wpAnyH_done (by kernel_rfl) ?_ _
      refine NoPanic.normal ?_
      have yB : Below zv0.heap.size zv0 yv0 := yE0
      have y0 := (yB.cell (World.block_lt_of_cell? _ _ y0)).trans y0
      have y1 := (yB.cell (World.block_lt_of_cell? _ _ y1)).trans y1
      have y2 := (yB.cell (World.block_lt_of_cell? _ _ y2)).trans y2
      have y3 := (yB.cell (World.block_lt_of_cell? _ _ y3)).trans y3
      have y4 := (yB.cell (World.block_lt_of_cell? _ _ y4)).trans y4
      have y5 := (yB.cell (World.block_lt_of_cell? _ _ y5)).trans y5
      have BW := BV.trans (yB.mono BV.size)
      clear yHS yH0
      have LK := LF.below BW
      have LR := LD.below BW
      clear LD LF F2
      go_wp2
      have tHS : Hid (∀ V, Below yv0.heap.size yv0 V → V.cell? ⟨w.heap.size, 0, none⟩ = some (.string c.row) ∧ V.cell? ⟨w.heap.size, 1, none⟩ = some (.string c.fam) ∧ V.cell? ⟨w.heap.size, 2, none⟩ = some (.string c.qual) ∧ V.cell? ⟨w.heap.size, 3, none⟩ = some (.int .u64 c.time) ∧ V.cell? ⟨w.heap.size, 4, none⟩ = some (.slice c.va.ao c.va.n c.va.cap) ∧ V.cell? ⟨w.heap.size, 5, none⟩ = some (.bool c.gone)) := fun V hV => ⟨(hV.cell (World.block_lt_of_cell? _ _ y0)).trans y0, (hV.cell (World.block_lt_of_cell? _ _ y1)).trans y1, (hV.cell (World.block_lt_of_cell? _ _ y2)).trans y2, (hV.cell (World.block_lt_of_cell? _ _ y3)).trans y3, (hV.cell (World.block_lt_of_cell? _ _ y4)).trans y4, (hV.cell (World.block_lt_of_cell? _ _ y5)).trans y5⟩
      have tE0 : Below yv0.heap.size yv0 yv0.drew := (Below.refl _ _).drew
      refine wp_region_noPanic ?_
      refine wp_region_held_drew (S := fun V => V.cell? ⟨w.heap.size, 0, none⟩ = some (.string c.row) ∧ V.cell? ⟨w.heap.size, 1, none⟩ = some (.string c.fam) ∧ V.cell? ⟨w.heap.size, 2, none⟩ = some (.string c.qual) ∧ V.cell? ⟨w.heap.size, 3, none⟩ = some (.int .u64 c.time) ∧ V.cell? ⟨w.heap.size, 4, none⟩ = some (.slice c.va.ao c.va.n c.va.cap) ∧ V.cell? ⟨w.heap.size, 5, none⟩ = some (.bool c.gone)) (by kernel_rfl) (tHS.out _ tE0) (fun tH0 => ?_)
      obtain ⟨tv0, hv0⟩ : ∃ v, v = yv0.drew := ⟨_, rfl⟩
      rw [← hv0] at tH0 tE0 ⊢
      clear hv0
      refine hr_take_w 1 (some 42) (.slice ao n cap) rfl rfl (by kernel_rfl) (by kernel_rfl) (by kernel_rfl) rfl (fun W hW => by obtain ⟨h0, h1, h2, h3, h4, h5⟩ := hW; go_simp) tH0 ?_
      simp only [FL]
      refine hr_take_w 2 (some 43) (.int .i64 (k : Nat)) rfl rfl (by kernel_rfl) (by kernel_rfl) (by kernel_rfl) rfl (fun W hW => by obtain ⟨h0, h1, h2, h3, h4, h5⟩ := hW; go_simp) tH0 ?_
      simp only [FL]
      refine hr_take_w 3 (some 44) (.slice ao k cap) rfl rfl (by kernel_rfl) (by kernel_rfl) (by kernel_rfl) rfl (fun W hW => by obtain ⟨h0, h1, h2, h3, h4, h5⟩ := hW; simp [execOp, Act.eval, F1]) tH0 ?_
      simp only [FL]
      refine hr_take_w 5 (some 46) (.agg #[.string c.row, .string c.fam, .string c.qual, .int .u64 c.time, .slice c.va.ao c.va.n c.va.cap, .bool c.gone]) rfl rfl (by kernel_rfl) (by kernel_rfl) (by kernel_rfl) rfl (fun W hW => by obtain ⟨h0, h1, h2, h3, h4, h5⟩ := hW; go_simp) tH0 ?_
      simp only [FL]
      refine hr_take_w 8 (some 49) (.slice ro dn (cap - k)) rfl rfl (by kernel_rfl) (by kernel_rfl) (by kernel_rfl) rfl (fun W hW => by obtain ⟨h0, h1, h2, h3, h4, h5⟩ := hW; go_simp) tH0 ?_
      simp only [FL]
      refine wpAnyH_effto 3 (fun zi zv zw => (zi = 0 → ∃ g, zv = .slice (some ⟨g, 0, none⟩) 0 0 ∧ yv0.heap.size ≤ g ∧ Arr zw g 33 []) ∧ (zi = 4 → ∃ vo vn vc, zv = .slice vo vn vc ∧ zw.ownsRow yv0.heap.size 33 6 (.slice vo vn vc) (l.take k).length (cellsC (l.take k))) ∧ (zi = 6 → ∃ g, zv = .slice (some ⟨g, 0, none⟩) 1 1 ∧ Arr zw g 33 [.string c.row, .string c.fam, .string c.qual, .int .u64 c.time, .slice c.va.ao c.va.n c.va.cap, .bool c.gone])) [(0, 41), (4, 45), (6, 47)] 51 (by kernel_rfl) (by decide) (by decide) rfl ?_ (fun W hW => tHS.out W (tE0.trans (hW.mono tE0.size))) ?_ ?_
      · intro zi v w w' h hb
        refine ⟨fun e => ?_, fun e => ?_, fun e => ?_⟩
        · have h := h.1 e
          obtain ⟨g, h1, h2, h3⟩ := h
          exact ⟨g, h1, h2, arr_below h3 hb⟩
        · have h := h.2.1 e
          obtain ⟨vo, vn, vc, h1, h2⟩ := h
          exact ⟨vo, vn, vc, h1, own_below h2 hb⟩
        · have h := h.2.2 e
          obtain ⟨g, h1, h2⟩ := h
          exact ⟨g, h1, arr_below h2 hb⟩
      · intro zp zhi o a w ho hs hb hdep
        have tEB := tE0.trans (hb.mono tE0.size)
        simp only [List.mem_cons, List.not_mem_nil, or_false] at zhi
        rcases zhi with rfl | rfl | rfl
        · obtain rfl : _ = o := Option.some.inj (show some _ = some o from ho)
          exact .inl ⟨_, _, by go_simp, ⟨fun _ => ⟨_, rfl, tEB.size, heap_alloc_new w _⟩, fun e => absurd e (by decide), fun e => absurd e (by decide)⟩, (Below.refl _ _).alloc (Nat.le_refl _) _⟩
        · obtain rfl : _ = o := Option.some.inj (show some _ = some o from ho)
          obtain ⟨x41, t41, f41⟩ := (hdep 0 (by kernel_rfl)).at 41 (by kernel_rfl)
          replace f41 := f41.1 rfl
          have t44 : a.tmps[44]? = some (.slice ao k cap) := hs.get 44 (by kernel_rfl) rfl
          obtain ⟨g, rfl, hg1, hg2⟩ := f41
          obtain ⟨v', w', hr, h1, h2⟩ := run_appC0 31 hg1 hg2 (LK.below tEB) (by omega) tEB.size
          obtain ⟨vo, vn, vc, rfl⟩ := own_slice3 h1
          exact .inl ⟨_, w', by simp [execOp, Act.eval, resolve, invoke, builtin, hr, t41, t44], ⟨fun e => absurd e (by decide), fun _ => ⟨_, _, _, rfl, h1⟩, fun e => absurd e (by decide)⟩, h2⟩
        · obtain rfl : _ = o := Option.some.inj (show some _ = some o from ho)
          have t46 : a.tmps[46]? = some (.agg #[.string c.row, .string c.fam, .string c.qual, .int .u64 c.time, .slice c.va.ao c.va.n c.va.cap, .bool c.gone]) := hs.get 46 (by kernel_rfl) rfl
          exact .inl ⟨_, _, by go_simp, ⟨fun e => absurd e (by decide), fun e => absurd e (by decide), fun _ => ⟨_, rfl, heap_alloc_new w _⟩⟩, (Below.refl _ _).alloc (Nat.le_refl _) _⟩
      intro zf tv1 hb hh
      have tE1 := tE0.trans (hb.mono tE0.size)
      obtain ⟨vo, vn, vc, e4, O4⟩ := (hh (4, 45) (by simp)).2.1 rfl
      obtain ⟨gc, e6, A6⟩ := (hh (6, 47) (by simp)).2.2 rfl
      clear hh hb
      simp only [putL, List.foldl_cons, List.foldl_nil, e4, e6]
      clear e4 e6
      simp only [FL]
      have N4 : CNew w tv1 yv0.heap.size (.slice vo vn vc) (l.take k) := ⟨O4, fun x hx => HOK.out x (List.mem_of_mem_take hx)⟩
      clear O4
      refine hr_ex 7 (some 48) rfl rfl (by kernel_rfl) rfl (R := fun v w' => ∃ r1 n1 c1, v = .slice r1 n1 c1 ∧ CNew w w' yv0.heap.size (.slice r1 n1 c1) (l.take k ++ [c]) ∧ Below yv0.heap.size tv1 w') (by obtain ⟨v', w', hr, h3, h4⟩ := run_appN 31 N4 (cp := 1) A6 hok (by rw [List.length_take]; omega) tE1.size; obtain ⟨r1, n1, c1, rfl⟩ := h3.slice; exact ⟨_, w', by simp [execOp, Act.eval, resolve, invoke, builtin, hr], _, _, _, rfl, h3, h4⟩) ?_
      rintro v tv2 ⟨r1, n1, c1, rfl, N5, tC1⟩
      have tE2 := tE1.trans tC1
      have tH2 := tHS.out tv2 tE2
      refine ⟨tH2, ?_⟩
      simp only [FL]
      refine hr_ex 9 (some 50) rfl rfl (by kernel_rfl) rfl (R := fun v w' => ∃ r2 n2 c2, v = .slice r2 n2 c2 ∧ CNew w w' yv0.heap.size (.slice r2 n2 c2) (l.take k ++ [c] ++ l.drop k) ∧ Below yv0.heap.size tv2 w') (by obtain ⟨v', w', hr, h3, h4⟩ := run_appNs 31 N5 (LR.below tE2) (fun x hx => HOK.out x (List.mem_of_mem_drop hx)) (by rw [List.length_append, List.length_take]; simp; omega) tE2.size; obtain ⟨r2, n2, c2, rfl⟩ := h3.slice; exact ⟨_, w', by simp [execOp, Act.eval, resolve, invoke, builtin, hr], _, _, _, rfl, h3, h4⟩) ?_
      rintro v tv3 ⟨r2, n2, c2, rfl, N6, tC2⟩
      have tE3 := tE2.trans tC2
      have tH3 := tHS.out tv3 tE3
      refine ⟨tH3, ?_⟩
      simp only [FL]
      refine hr_take_w 10 (some 4) (.slice r2 n2 c2) rfl rfl (by kernel_rfl) (by kernel_rfl) (by kernel_rfl) rfl (fun W hW => by obtain ⟨h0, h1, h2, h3, h4, h5⟩ := hW; go_simp) tH3 ?_
      simp only [FL]
      refine wpAnyH_done (by kernel_rfl) ?_ _
      refine NoPanic.normal ?_
      clear tHS tH2 tH3
      have BF := BW.trans (tE3.mono BW.size)
      obtain ⟨ao2, cap2, hv, L2⟩ := N6.cl BF
      have L3 : CL tv3 r2 n2 c2 (l.take k ++ [c] ++ l.drop k) := by
        simp only [Value.slice.injEq] at hv
        obtain ⟨e1, e2, e3⟩ := hv
        rw [e1, e2, e3]
        exact L2
      clear hv L2 N6
      go_wp2
      go_ret
      exact ⟨_, _, _, _, rfl, L3, by
        rw [List.map_append, List.map_append, List.map_take, List.map_drop, List.append_assoc]
        exact cput_new HS.out HL.out (fun y r hy => by rw [HZ.out] at hy; simp at hy), BF⟩
end Go.Proofs.YtlljmhcgjkolpaaGreatDoor
