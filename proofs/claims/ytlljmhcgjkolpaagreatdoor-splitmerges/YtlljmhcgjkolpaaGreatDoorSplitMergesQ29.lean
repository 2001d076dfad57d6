/-
  Texts in one: SpMade, SpAlive, GrowP, SpConcat, SpMerge.
-/
import Derived.Test.YtlljmhcgjkolpaaGreatDoorSplitMergesQFL
import Derived.Test.YtlljmhcgjkolpaaGreatDoorSplitMergesQ27
import Derived.Test.YtlljmhcgjkolpaaGreatDoorSplitMergesQ22
import Derived.Test.YtlljmhcgjkolpaaGreatDoorSplitMergesQ28
import Derived.Test.YtlljmhcgjkolpaaGreatDoorSplitMergesQ23
import Derived.Test.YtlljmhcgjkolpaaGreatDoorSplitMergesQ24
import Derived.Shelf.Spec.SlicesGrow
import Derived.Ground.Names8Prog
import Derived.Test.YtlljmhcgjkolpaaGreatDoorProg
namespace Go.Proofs.YtlljmhcgjkolpaaGreatDoor
open Go.RowKit
theorem cellsB_few {l : List CA} {m : Nat} (h : cellsB l (m : Int) = true) : l.length ≤ m := by
  have := of_decide_eq_true (Bool.and_eq_true_iff.1 h).1
  omega
theorem cIns_perm {ds : List CV} {c : CV} (h : ∀ x ∈ ds, keyL x.kv ≠ keyL c.kv) : (cIns ds c).Perm (c :: ds) := by
  unfold cIns cLo cHi
  refine List.perm_middle.trans (List.Perm.cons c ?_)
  have e : ds.filter (fun x => decide (cmpL (keyL c.kv) (keyL x.kv) < 0)) = ds.filter (fun x => !(decide (cmpL (keyL x.kv) (keyL c.kv) < 0))) := List.filter_congr fun x hx => by
    rcases cmpL_total (keyL x.kv) (keyL c.kv) with g | g | g
    · rw [decide_eq_true g, decide_eq_false (cmpL_asym g)]; rfl
    · exact absurd g (h x hx)
    · rw [decide_eq_true g, decide_eq_false (cmpL_asym g)]; rfl
  rw [e]
  exact List.filter_append_perm _ ds
theorem layAll_perm : ∀ (cs ds : List CV), (layAll ds cs).length = ds.length + cs.length → (layAll ds cs).Perm (ds ++ cs)
  | [], ds, _ => by rw [List.append_nil]; exact List.Perm.refl _
  | c :: cs, ds, h => by
    have h1 := layAll_len cs (cIns ds c)
    have h2 := cIns_len ds c
    have h0 : (layAll (cIns ds c) cs).length = ds.length + (cs.length + 1) := h
    have hf := (cIns_full ds c).1 (by omega)
    have ih := layAll_perm cs (cIns ds c) (by omega)
    show (layAll (cIns ds c) cs).Perm _
    refine ih.trans (((cIns_perm hf).append_right cs).trans ?_)
    rw [List.cons_append]
    exact List.perm_middle.symm
theorem of_made {f t : ByteArray} {cs : List CV} (h : ofK f t cs = 0) (ht : ∀ c ∈ cs, c.time < 18446744073709551616) (hb : ∀ c ∈ cs, Byt c.value) : Stand f t cs.length (layAll [] cs) ∧ Lim (layAll [] cs) ∧ newK f t = 0 := by
  have hk : newK f t = 0 := by
    unfold ofK at h
    split at h
    · assumption
    · simp at h
  unfold ofK at h
  rw [if_pos hk] at h
  obtain ⟨h1, h2, h3, h4⟩ := judgeK_ok h
  have hs := (Stand.nil f t).layAll cs (fun c hc => ⟨good_of (h1 c hc).1 (h1 c hc).2.2 (ht c hc) (hb c hc), (h1 c hc).2.1⟩)
  rw [Nat.zero_add] at hs
  refine ⟨hs, ⟨by have := hs.len; omega, fun k => ?_⟩, hk⟩
  have hp : (layAll [] cs).Perm cs := by
    have hd : ¬ (layAll [] cs).length ≠ cs.length := fun g => by
      have := (dup_iff ht).1 g
      omega
    have := layAll_perm cs [] (by rw [List.length_nil, Nat.zero_add]; omega)
    rwa [List.nil_append] at this
  have hc : (colC k (layAll [] cs)).length = (colC k cs).length := (hp.filter _).length_eq
  rw [hc, col_cntK]
  have := mostK_iff (cs.map fun c => c.ky.colK) 4
  exact Nat.le_of_not_lt fun g => by
    have := this.2 ⟨_, g⟩
    omega
def MkPost (w : World) (f t : ByteArray) (cs : List CV) (e : Ending) (w' : World) : Prop :=
  (∃ p bo bm bc ml, e = .returned (.tuple #[.pointer (some ⟨p, 0, none⟩), .agg #[.string f, .string t, .slice bo bm bc], .bool true]) ∧ w.heap.size ≤ p ∧ Stand f t 20 cs ∧ Lim cs ∧ newK f t = 0 ∧ TB w' p f t cs ∧ CL w' bo bm bc ml ∧ ml.map CA.c = cs ∧ Below w.heap.size w w') ∨
  (∃ x y z a b c, e = .returned (.tuple #[.pointer x, .agg #[.string y, .string z, .slice a b c], .bool false]) ∧ Below w.heap.size w w')
set_option maxHeartbeats 8000000 in
set_option maxRecDepth 100000 in
theorem made_any (w : World) (f t : ByteArray) (ao : Option Addr) (n cap : Nat) (l : List CA) (hTb : Tabs w) (hf0 : f.size ≤ maxLen) (ht0 : t.size ≤ maxLen) (L : CL w ao n cap l) (sm : ∀ c ∈ l, c.small) :
    Calls Tryz.prog 18 #[.string f, .string t, .slice ao n cap] w (MkPost w f t (layAll [] (l.map CA.c))) := by
  have t2 := hTb.two
  have HTb : Hid (Tabs w) := hTb
  have hl1 := Nat.le_of_eq L.len
  have hl2 := Nat.le_of_eq L.len.symm
  obtain ⟨W1, hW1⟩ : ∃ V, V = w.alloc (.cells #[.string ⟨#[]⟩, .string ⟨#[]⟩, .slice none 0 0] 39) := ⟨_, rfl⟩
  have C1 : Below w.heap.size w W1 := by rw [hW1]; exact (Below.refl _ _).alloc (Nat.le_refl _) _
  have R1 : Arr W1 w.heap.size 39 [.string ⟨#[]⟩, .string ⟨#[]⟩, .slice none 0 0] := by rw [hW1]; exact heap_alloc_new w _
  have CLg := lcells_any W1 ao n cap l 20 (L.below C1) sm
  obtain ⟨b1, hb1⟩ : ∃ b, b = cellsB l 20 := ⟨_, rfl⟩
  have HB1 : Hid (b1 = cellsB l 20) := hb1
  rw [← hb1] at CLg
  clear hb1 sm hTb
  go_enter Tryz.func18, Tryz.ntmps18
  go_wp2_with fail
  rw [← hW1]
  clear hW1
  refine CLg.mono ?_
  rintro e w1 ⟨rfl, D1⟩
  have B1 := C1.trans (D1.mono C1.size)
  have RX := arr_below R1 D1
  have HWP : Hid (w.heap.size < w1.heap.size) := RX.lt
  clear CLg R1
  cases b1 with
  | false =>
    have r0 : w1.cell? ⟨w.heap.size, 0, none⟩ = some (.string ⟨#[]⟩) := RX.cell 0
    have f0 := RX.free 0
    have r1 : w1.cell? ⟨w.heap.size, 1, none⟩ = some (.string ⟨#[]⟩) := RX.cell 1
    have f1 := RX.free 1
    have r2 : w1.cell? ⟨w.heap.size, 2, none⟩ = some (.slice none 0 0) := RX.cell 2
    have f2 := RX.free 2
    have KW : Wr w.heap.size w1 (((w1.setCell ⟨w.heap.size, 0, none⟩ (.string ⟨#[]⟩)).setCell ⟨w.heap.size, 1, none⟩ (.string ⟨#[]⟩)).setCell ⟨w.heap.size, 2, none⟩ (.slice none 0 0)) := (((Wr.refl _ _).set 0 _).set 1 _).set 2 _
    have BX := KW.below B1 B1.size (Nat.le_refl _)
    go_wp2
    exact bodyPost_ret (v := .tuple #[.pointer none, .agg #[.string ⟨#[]⟩, .string ⟨#[]⟩, .slice none 0 0], .bool false]) (by simp [results, Tryz.results18, go_sem, r0, r1, r2]) rfl (.inr ⟨none, _, _, _, _, _, rfl, BX⟩)
  | true =>
    by_cases g1 : f.size ≤ 100
    case neg =>
      have i1 : (100 : Int) < (f.size : Int) := by omega
      have r0 : w1.cell? ⟨w.heap.size, 0, none⟩ = some (.string ⟨#[]⟩) := RX.cell 0
      have f0 := RX.free 0
      have r1 : w1.cell? ⟨w.heap.size, 1, none⟩ = some (.string ⟨#[]⟩) := RX.cell 1
      have f1 := RX.free 1
      have r2 : w1.cell? ⟨w.heap.size, 2, none⟩ = some (.slice none 0 0) := RX.cell 2
      have f2 := RX.free 2
      have KW : Wr w.heap.size w1 (((w1.setCell ⟨w.heap.size, 0, none⟩ (.string ⟨#[]⟩)).setCell ⟨w.heap.size, 1, none⟩ (.string ⟨#[]⟩)).setCell ⟨w.heap.size, 2, none⟩ (.slice none 0 0)) := (((Wr.refl _ _).set 0 _).set 1 _).set 2 _
      have BX := KW.below B1 B1.size (Nat.le_refl _)
      go_wp2
      exact bodyPost_ret (v := .tuple #[.pointer none, .agg #[.string ⟨#[]⟩, .string ⟨#[]⟩, .slice none 0 0], .bool false]) (by simp [results, Tryz.results18, go_sem, r0, r1, r2]) rfl (.inr ⟨none, _, _, _, _, _, rfl, BX⟩)
    have i1 : ¬ (100 : Int) < (f.size : Int) := by omega
    by_cases g2 : t.size ≤ 100
    case neg =>
      have i2 : (100 : Int) < (t.size : Int) := by omega
      have r0 : w1.cell? ⟨w.heap.size, 0, none⟩ = some (.string ⟨#[]⟩) := RX.cell 0
      have f0 := RX.free 0
      have r1 : w1.cell? ⟨w.heap.size, 1, none⟩ = some (.string ⟨#[]⟩) := RX.cell 1
      have f1 := RX.free 1
      have r2 : w1.cell? ⟨w.heap.size, 2, none⟩ = some (.slice none 0 0) := RX.cell 2
      have f2 := RX.free 2
      have KW : Wr w.heap.size w1 (((w1.setCell ⟨w.heap.size, 0, none⟩ (.string ⟨#[]⟩)).setCell ⟨w.heap.size, 1, none⟩ (.string ⟨#[]⟩)).setCell ⟨w.heap.size, 2, none⟩ (.slice none 0 0)) := (((Wr.refl _ _).set 0 _).set 1 _).set 2 _
      have BX := KW.below B1 B1.size (Nat.le_refl _)
      go_wp2
      exact bodyPost_ret (v := .tuple #[.pointer none, .agg #[.string ⟨#[]⟩, .string ⟨#[]⟩, .slice none 0 0], .bool false]) (by simp [results, Tryz.results18, go_sem, r0, r1, r2]) rfl (.inr ⟨none, _, _, _, _, _, rfl, BX⟩)
    have i2 : ¬ (100 : Int) < (t.size : Int) := by omega
    have hn20 : n ≤ 20 := by
      have h := HB1.out.symm
      have := cellsB_few (m := 20) h
      omega
    clear HB1
    have CO := of_any10 w1 f t ao n cap l (HTb.out.below B1 t2) (by omega) (by omega) (L.below B1) (by omega)
    obtain ⟨cs, hcs⟩ : ∃ cs, cs = l.map CA.c := ⟨_, rfl⟩
    have hcn : cs.length = n := by rw [hcs, List.length_map]; exact L.len
    have HTM : Hid (∀ c ∈ cs, c.time < 18446744073709551616) := fun c hc => by
      rw [hcs] at hc
      obtain ⟨x, hx, rfl⟩ := List.mem_map.1 hc
      exact (L.ok x hx).time
    have HBY : Hid (∀ c ∈ cs, Byt c.value) := fun c hc => by
      rw [hcs] at hc
      obtain ⟨x, hx, rfl⟩ := List.mem_map.1 hc
      exact (L.ok x hx).va.byte
    rw [← hcs] at CO
    have HCSE : Hid (cs = l.map CA.c) := hcs
    have HRO : Hid (∀ V, Below w.heap.size w V → Calls Tryz.prog 12 #[.string f, .string t, .slice ao n cap] V (ROfPost V f t cs)) := fun V hV => by
      have := rof10_any V f t ao n cap l hf0 ht0 (L.below hV) (by omega)
      rw [← hcs] at this
      exact this
    have HCN : Hid (cs.length ≤ 20) := by show _ ≤ _; omega
    clear hcs hcn L hl1 hl2
    go_wp2_with fail
    refine CO.mono ?_
    rintro e w2 (⟨hk0, p, hp, rfl, X2, C2⟩ | ⟨hk1, rfl, C2⟩)
    case inr =>
      have B2 := B1.trans (C2.mono B1.size)
      have RY := arr_below RX C2
      have CR := HRO.out w2 B2
      clear CO HRO RX
      go_wp2_with fail
      refine CR.mono ?_
      rintro e w3 (⟨hk0, -⟩ | ⟨-, rfl, C3⟩)
      · exact absurd hk0 hk1
      have B3 := B2.trans (C3.mono B2.size)
      have RZ := arr_below RY C3
      clear CR RY
      obtain ⟨k, hk⟩ : ∃ k, k = ofK f t cs := ⟨_, rfl⟩
      rw [← hk] at hk1 ⊢
      clear hk
      have z0 : (k == 0) = false := by simp [hk1]
      obtain ⟨w4, hw4⟩ : ∃ V, V = w3.alloc (.cells #[.string ⟨#[]⟩, .string ⟨#[]⟩, .slice none 0 0] 39) := ⟨_, rfl⟩
      have C4 : Below w3.heap.size w3 w4 := by rw [hw4]; exact (Below.refl _ _).alloc (Nat.le_refl _) _
      have M4 : Arr w4 w3.heap.size 39 [.string ⟨#[]⟩, .string ⟨#[]⟩, .slice none 0 0] := by rw [hw4]; exact heap_alloc_new w3 _
      have B4 := B3.trans (C4.mono B3.size)
      have R4 := arr_below RZ C4
      have hqw : w.heap.size < w3.heap.size := RZ.lt
      obtain ⟨q, hq⟩ : ∃ q, q = w3.heap.size := ⟨_, rfl⟩
      rw [← hq] at M4 hqw
      have m0 : w4.cell? ⟨q, 0, none⟩ = some (.string ⟨#[]⟩) := M4.cell 0
      have m1 : w4.cell? ⟨q, 1, none⟩ = some (.string ⟨#[]⟩) := M4.cell 1
      have m2 : w4.cell? ⟨q, 2, none⟩ = some (.slice none 0 0) := M4.cell 2
      go_wp2
      rw [← hw4, ← hq]
      clear hw4 hq RZ
      have zHS : Hid (∀ V, Below w4.heap.size w4 V → V.cell? ⟨q, 0, none⟩ = some (.string ⟨#[]⟩) ∧ V.cell? ⟨q, 1, none⟩ = some (.string ⟨#[]⟩) ∧ V.cell? ⟨q, 2, none⟩ = some (.slice none 0 0)) := fun V hV => ⟨(hV.cell (World.block_lt_of_cell? _ _ m0)).trans m0, (hV.cell (World.block_lt_of_cell? _ _ m1)).trans m1, (hV.cell (World.block_lt_of_cell? _ _ m2)).trans m2⟩
      have zE0 : Below w4.heap.size w4 w4.drew := (Below.refl _ _).drew
      refine wp_region_noPanic ?_
      refine wp_region_held_drew (S := fun V => V.cell? ⟨q, 0, none⟩ = some (.string ⟨#[]⟩) ∧ V.cell? ⟨q, 1, none⟩ = some (.string ⟨#[]⟩) ∧ V.cell? ⟨q, 2, none⟩ = some (.slice none 0 0)) (by kernel_rfl) (zHS.out _ zE0) (fun zH0 => ?_)
      obtain ⟨zv0, hv0⟩ : ∃ v, v = w4.drew := ⟨_, rfl⟩
      rw [← hv0] at zH0 zE0 ⊢
      clear hv0
      refine hr_take_w 0 (some 41) (.pointer none) rfl rfl (by kernel_rfl) (by kernel_rfl) (by kernel_rfl) rfl (fun W hW => by obtain ⟨h0, h1, h2⟩ := hW; go_simp) zH0 ?_
      simp only [FL]
      refine hr_take_w 1 (some 42) (.agg #[.string ⟨#[]⟩, .string ⟨#[]⟩, .slice none 0 0]) rfl rfl (by kernel_rfl) (by kernel_rfl) (by kernel_rfl) rfl (fun W hW => by obtain ⟨h0, h1, h2⟩ := hW; go_simp) zH0 ?_
      simp only [FL]
      refine hr_take_w 2 (some 43) (.int .i64 k) rfl rfl (by kernel_rfl) (by kernel_rfl) (by kernel_rfl) rfl (fun W hW => by obtain ⟨h0, h1, h2⟩ := hW; go_simp) zH0 ?_
      simp only [FL]
      refine hr_take_w 3 (some 44) (.bool false) rfl rfl (by kernel_rfl) (by kernel_rfl) (by kernel_rfl) rfl (fun W hW => by obtain ⟨h0, h1, h2⟩ := hW; go_simp) zH0 ?_
      simp only [FL]
      refine hr_take_w 4 (some 45) (.bool false) rfl rfl (by kernel_rfl) (by kernel_rfl) (by kernel_rfl) rfl (fun W hW => by obtain ⟨h0, h1, h2⟩ := hW; go_simp) zH0 ?_
      simp only [FL]
      refine hr_none 5 (some 46) rfl rfl (by kernel_rfl) (by kernel_rfl) (by kernel_rfl) rfl zH0 ?_
      simp only [FL]
      refine hr_none 6 (some 47) rfl rfl (by kernel_rfl) (by kernel_rfl) (by kernel_rfl) rfl zH0 ?_
      simp only [FL]
      refine hr_take_w 7 (some 48) (.bool false) rfl rfl (by kernel_rfl) (by kernel_rfl) (by kernel_rfl) rfl (fun W hW => by obtain ⟨h0, h1, h2⟩ := hW; go_simp) zH0 ?_
      simp only [FL]
      refine hr_take_w 8 (some 49) (.bool false) rfl rfl (by kernel_rfl) (by kernel_rfl) (by kernel_rfl) rfl (fun W hW => by obtain ⟨h0, h1, h2⟩ := hW; go_simp) zH0 ?_
      simp only [FL]
      refine hr_none 9 (some 50) rfl rfl (by kernel_rfl) (by kernel_rfl) (by kernel_rfl) rfl zH0 ?_
      simp only [FL]
      refine hr_none 10 (some 51) rfl rfl (by kernel_rfl) (by kernel_rfl) (by kernel_rfl) rfl zH0 ?_
      simp only [FL]
      refine hr_take_w 11 (some 52) (.bool false) rfl rfl (by kernel_rfl) (by kernel_rfl) (by kernel_rfl) rfl (fun W hW => by obtain ⟨h0, h1, h2⟩ := hW; go_simp) zH0 ?_
      simp only [FL]
      refine hr_take_w 12 (some 6) (.pointer none) rfl rfl (by kernel_rfl) (by kernel_rfl) (by kernel_rfl) rfl (fun W hW => by obtain ⟨h0, h1, h2⟩ := hW; go_simp) zH0 ?_
      simp only [FL]
      have r0 : zv0.cell? ⟨w.heap.size, 0, none⟩ = some (.string ⟨#[]⟩) := (arr_below R4 zE0).cell 0
      have f0 := (arr_below R4 zE0).free 0
      have r1 : zv0.cell? ⟨w.heap.size, 1, none⟩ = some (.string ⟨#[]⟩) := (arr_below R4 zE0).cell 1
      have f1 := (arr_below R4 zE0).free 1
      have r2 : zv0.cell? ⟨w.heap.size, 2, none⟩ = some (.slice none 0 0) := (arr_below R4 zE0).cell 2
      have f2 := (arr_below R4 zE0).free 2
      have KW : Wr w.heap.size zv0 (((zv0.setCell ⟨w.heap.size, 0, none⟩ (.string ⟨#[]⟩)).setCell ⟨w.heap.size, 1, none⟩ (.string ⟨#[]⟩)).setCell ⟨w.heap.size, 2, none⟩ (.slice none 0 0)) := (((Wr.refl _ _).set 0 _).set 1 _).set 2 _
      have QZ : Arr zv0 q 39 [.string ⟨#[]⟩, .string ⟨#[]⟩, .slice none 0 0] := arr_below M4 zE0
      have zH1 : (((zv0.setCell ⟨w.heap.size, 0, none⟩ (.string ⟨#[]⟩)).setCell ⟨w.heap.size, 1, none⟩ (.string ⟨#[]⟩)).setCell ⟨w.heap.size, 2, none⟩ (.slice none 0 0)).cell? ⟨q, 0, none⟩ = some (.string ⟨#[]⟩) ∧ (((zv0.setCell ⟨w.heap.size, 0, none⟩ (.string ⟨#[]⟩)).setCell ⟨w.heap.size, 1, none⟩ (.string ⟨#[]⟩)).setCell ⟨w.heap.size, 2, none⟩ (.slice none 0 0)).cell? ⟨q, 1, none⟩ = some (.string ⟨#[]⟩) ∧ (((zv0.setCell ⟨w.heap.size, 0, none⟩ (.string ⟨#[]⟩)).setCell ⟨w.heap.size, 1, none⟩ (.string ⟨#[]⟩)).setCell ⟨w.heap.size, 2, none⟩ (.slice none 0 0)).cell? ⟨q, 2, none⟩ = some (.slice none 0 0) := by
        have h : Arr (((zv0.setCell ⟨w.heap.size, 0, none⟩ (.string ⟨#[]⟩)).setCell ⟨w.heap.size, 1, none⟩ (.string ⟨#[]⟩)).setCell ⟨w.heap.size, 2, none⟩ (.slice none 0 0)) q 39 [.string ⟨#[]⟩, .string ⟨#[]⟩, .slice none 0 0] := (KW.block q QZ.lt (by omega)).trans QZ
        exact ⟨h.cell 0, h.cell 1, h.cell 2⟩
      refine hr_skip 13 none (w' := (((zv0.setCell ⟨w.heap.size, 0, none⟩ (.string ⟨#[]⟩)).setCell ⟨w.heap.size, 1, none⟩ (.string ⟨#[]⟩)).setCell ⟨w.heap.size, 2, none⟩ (.slice none 0 0))) rfl rfl (by kernel_rfl) rfl (by go_simp) zH1 ?_
      simp only [Act.put]
      refine hr_take_w 14 (some 8) (.bool false) rfl rfl (by kernel_rfl) (by kernel_rfl) (by kernel_rfl) rfl (fun W hW => by obtain ⟨h0, h1, h2⟩ := hW; go_simp) zH1 ?_
      simp only [FL]
      refine wpAnyH_done (by kernel_rfl) ?_ _
      refine NoPanic.normal ?_
      have BX := KW.below (B4.trans (zE0.mono B4.size)) (B4.trans (zE0.mono B4.size)).size (Nat.le_refl _)
      go_wp2
      exact bodyPost_ret (v := .tuple #[.pointer none, .agg #[.string ⟨#[]⟩, .string ⟨#[]⟩, .slice none 0 0], .bool false]) (by simp [results, Tryz.results18, go_sem, r0, r1, r2]) rfl (.inr ⟨none, _, _, _, _, _, rfl, BX⟩)
    have B2 := B1.trans (C2.mono B1.size)
    have RY := arr_below RX C2
    have CR := HRO.out w2 B2
    clear CO HRO RX
    go_wp2_with fail
    refine CR.mono ?_
    rintro e w3 (⟨-, bo, bm, bc, ml, rfl, L3, hml, C3⟩ | ⟨hk1, -⟩)
    case inr => exact absurd hk0 hk1
    have B3 := B2.trans (C3.mono B2.size)
    have X3 := X2.below C3
    have RZ := arr_below RY C3
    clear CR X2 RY
    obtain ⟨hst, hlm, hnk⟩ := of_made hk0 HTM.out HBY.out
    have hst := hst.mono HCN.out
    obtain ⟨w4, hw4⟩ : ∃ V, V = w3.alloc (.cells #[.string f, .string t, .slice bo bm bc] 39) := ⟨_, rfl⟩
    have C4 : Below w3.heap.size w3 w4 := by rw [hw4]; exact (Below.refl _ _).alloc (Nat.le_refl _) _
    have M4 : Arr w4 w3.heap.size 39 [.string f, .string t, .slice bo bm bc] := by rw [hw4]; exact heap_alloc_new w3 _
    have B4 := B3.trans (C4.mono B3.size)
    have X4 := X3.below C4
    have L4 := L3.below C4
    have R4 := arr_below RZ C4
    have hqw : w.heap.size < w3.heap.size := RZ.lt
    obtain ⟨q, hq⟩ : ∃ q, q = w3.heap.size := ⟨_, rfl⟩
    rw [← hq] at M4 hqw
    have m0 : w4.cell? ⟨q, 0, none⟩ = some (.string f) := M4.cell 0
    have m1 : w4.cell? ⟨q, 1, none⟩ = some (.string t) := M4.cell 1
    have m2 : w4.cell? ⟨q, 2, none⟩ = some (.slice bo bm bc) := M4.cell 2
    have HP : Hid (w.heap.size ≤ p) := Nat.le_trans B1.size hp
    have hpw : w.heap.size < p := Nat.lt_of_lt_of_le HWP.out hp
    clear L3 X3
    go_wp2
    rw [← hw4, ← hq]
    clear hw4 hq RZ
    have zHS : Hid (∀ V, Below w4.heap.size w4 V → V.cell? ⟨q, 0, none⟩ = some (.string f) ∧ V.cell? ⟨q, 1, none⟩ = some (.string t) ∧ V.cell? ⟨q, 2, none⟩ = some (.slice bo bm bc)) := fun V hV => ⟨(hV.cell (World.block_lt_of_cell? _ _ m0)).trans m0, (hV.cell (World.block_lt_of_cell? _ _ m1)).trans m1, (hV.cell (World.block_lt_of_cell? _ _ m2)).trans m2⟩
    have zE0 : Below w4.heap.size w4 w4.drew := (Below.refl _ _).drew
    refine wp_region_noPanic ?_
    refine wp_region_held_drew (S := fun V => V.cell? ⟨q, 0, none⟩ = some (.string f) ∧ V.cell? ⟨q, 1, none⟩ = some (.string t) ∧ V.cell? ⟨q, 2, none⟩ = some (.slice bo bm bc)) (by kernel_rfl) (zHS.out _ zE0) (fun zH0 => ?_)
    obtain ⟨zv0, hv0⟩ : ∃ v, v = w4.drew := ⟨_, rfl⟩
    rw [← hv0] at zH0 zE0 ⊢
    clear hv0
    refine hr_take_w 0 (some 41) (.pointer (some ⟨p, 0, none⟩)) rfl rfl (by kernel_rfl) (by kernel_rfl) (by kernel_rfl) rfl (fun W hW => by obtain ⟨h0, h1, h2⟩ := hW; go_simp) zH0 ?_
    simp only [FL]
    refine hr_take_w 1 (some 42) (.agg #[.string f, .string t, .slice bo bm bc]) rfl rfl (by kernel_rfl) (by kernel_rfl) (by kernel_rfl) rfl (fun W hW => by obtain ⟨h0, h1, h2⟩ := hW; go_simp) zH0 ?_
    simp only [FL]
    refine hr_take_w 2 (some 43) (.int .i64 0) rfl rfl (by kernel_rfl) (by kernel_rfl) (by kernel_rfl) rfl (fun W hW => by obtain ⟨h0, h1, h2⟩ := hW; go_simp) zH0 ?_
    simp only [FL]
    refine hr_take_w 3 (some 44) (.bool true) rfl rfl (by kernel_rfl) (by kernel_rfl) (by kernel_rfl) rfl (fun W hW => by obtain ⟨h0, h1, h2⟩ := hW; go_simp) zH0 ?_
    simp only [FL]
    refine hr_take_w 4 (some 45) (.bool true) rfl rfl (by kernel_rfl) (by kernel_rfl) (by kernel_rfl) rfl (fun W hW => by obtain ⟨h0, h1, h2⟩ := hW; go_simp) zH0 ?_
    simp only [FL]
    refine hr_take_w 5 (some 46) (.int .i64 0) rfl rfl (by kernel_rfl) (by kernel_rfl) (by kernel_rfl) rfl (fun W hW => by obtain ⟨h0, h1, h2⟩ := hW; go_simp) zH0 ?_
    simp only [FL]
    refine hr_take_w 6 (some 47) (.bool true) rfl rfl (by kernel_rfl) (by kernel_rfl) (by kernel_rfl) rfl (fun W hW => by obtain ⟨h0, h1, h2⟩ := hW; go_simp) zH0 ?_
    simp only [FL]
    refine hr_take_w 7 (some 48) (.bool true) rfl rfl (by kernel_rfl) (by kernel_rfl) (by kernel_rfl) rfl (fun W hW => by obtain ⟨h0, h1, h2⟩ := hW; go_simp) zH0 ?_
    simp only [FL]
    refine hr_take_w 8 (some 49) (.bool true) rfl rfl (by kernel_rfl) (by kernel_rfl) (by kernel_rfl) rfl (fun W hW => by obtain ⟨h0, h1, h2⟩ := hW; go_simp) zH0 ?_
    simp only [FL]
    refine hr_take_w 9 (some 50) (.pointer (some ⟨p, 0, none⟩)) rfl rfl (by kernel_rfl) (by kernel_rfl) (by kernel_rfl) rfl (fun W hW => by obtain ⟨h0, h1, h2⟩ := hW; go_simp) zH0 ?_
    simp only [FL]
    refine hr_take_w 10 (some 51) (.bool true) rfl rfl (by kernel_rfl) (by kernel_rfl) (by kernel_rfl) rfl (fun W hW => by obtain ⟨h0, h1, h2⟩ := hW; go_simp) zH0 ?_
    simp only [FL]
    refine hr_take_w 11 (some 52) (.bool true) rfl rfl (by kernel_rfl) (by kernel_rfl) (by kernel_rfl) rfl (fun W hW => by obtain ⟨h0, h1, h2⟩ := hW; go_simp) zH0 ?_
    simp only [FL]
    refine hr_take_w 12 (some 6) (.pointer (some ⟨p, 0, none⟩)) rfl rfl (by kernel_rfl) (by kernel_rfl) (by kernel_rfl) rfl (fun W hW => by obtain ⟨h0, h1, h2⟩ := hW; go_simp) zH0 ?_
    simp only [FL]
    have r0 : zv0.cell? ⟨w.heap.size, 0, none⟩ = some (.string ⟨#[]⟩) := (arr_below R4 zE0).cell 0
    have f0 := (arr_below R4 zE0).free 0
    have r1 : zv0.cell? ⟨w.heap.size, 1, none⟩ = some (.string ⟨#[]⟩) := (arr_below R4 zE0).cell 1
    have f1 := (arr_below R4 zE0).free 1
    have r2 : zv0.cell? ⟨w.heap.size, 2, none⟩ = some (.slice none 0 0) := (arr_below R4 zE0).cell 2
    have f2 := (arr_below R4 zE0).free 2
    have KW : Wr w.heap.size zv0 (((zv0.setCell ⟨w.heap.size, 0, none⟩ (.string f)).setCell ⟨w.heap.size, 1, none⟩ (.string t)).setCell ⟨w.heap.size, 2, none⟩ (.slice bo bm bc)) := (((Wr.refl _ _).set 0 _).set 1 _).set 2 _
    have QZ : Arr zv0 q 39 [.string f, .string t, .slice bo bm bc] := arr_below M4 zE0
    have zH1 : (((zv0.setCell ⟨w.heap.size, 0, none⟩ (.string f)).setCell ⟨w.heap.size, 1, none⟩ (.string t)).setCell ⟨w.heap.size, 2, none⟩ (.slice bo bm bc)).cell? ⟨q, 0, none⟩ = some (.string f) ∧ (((zv0.setCell ⟨w.heap.size, 0, none⟩ (.string f)).setCell ⟨w.heap.size, 1, none⟩ (.string t)).setCell ⟨w.heap.size, 2, none⟩ (.slice bo bm bc)).cell? ⟨q, 1, none⟩ = some (.string t) ∧ (((zv0.setCell ⟨w.heap.size, 0, none⟩ (.string f)).setCell ⟨w.heap.size, 1, none⟩ (.string t)).setCell ⟨w.heap.size, 2, none⟩ (.slice bo bm bc)).cell? ⟨q, 2, none⟩ = some (.slice bo bm bc) := by
      have h : Arr (((zv0.setCell ⟨w.heap.size, 0, none⟩ (.string f)).setCell ⟨w.heap.size, 1, none⟩ (.string t)).setCell ⟨w.heap.size, 2, none⟩ (.slice bo bm bc)) q 39 [.string f, .string t, .slice bo bm bc] := (KW.block q QZ.lt (by omega)).trans QZ
      exact ⟨h.cell 0, h.cell 1, h.cell 2⟩
    refine hr_skip 13 none (w' := (((zv0.setCell ⟨w.heap.size, 0, none⟩ (.string f)).setCell ⟨w.heap.size, 1, none⟩ (.string t)).setCell ⟨w.heap.size, 2, none⟩ (.slice bo bm bc))) rfl rfl (by kernel_rfl) rfl (by go_simp) zH1 ?_
    simp only [Act.put]
    refine hr_take_w 14 (some 8) (.bool true) rfl rfl (by kernel_rfl) (by kernel_rfl) (by kernel_rfl) rfl (fun W hW => by obtain ⟨h0, h1, h2⟩ := hW; go_simp) zH1 ?_
    simp only [FL]
    refine wpAnyH_done (by kernel_rfl) ?_ _
    refine NoPanic.normal ?_
    have BX := KW.below (B4.trans (zE0.mono B4.size)) (B4.trans (zE0.mono B4.size)).size (Nat.le_refl _)
    have X5 : TB (((zv0.setCell ⟨w.heap.size, 0, none⟩ (.string f)).setCell ⟨w.heap.size, 1, none⟩ (.string t)).setCell ⟨w.heap.size, 2, none⟩ (.slice bo bm bc)) p f t (layAll [] cs) := TB.dull (arr_below R4 zE0) ⟨fun n h => by simp at h, fun x h => by simp at h, fun a n c h => by simp at h; exact h.2.1, fun L h => by simp at h⟩ KW (by omega) (X4.below zE0)
    have L5 := (L4.below zE0).rt (arr_below R4 zE0) KW
    have hE := HCSE.out
    rw [hE] at hst hlm X5 hml
    clear hE
    go_wp2
    exact bodyPost_ret (v := .tuple #[.pointer (some ⟨p, 0, none⟩), .agg #[.string f, .string t, .slice bo bm bc], .bool true]) (by simp [results, Tryz.results18, go_sem, r0, r1, r2]) rfl (.inl ⟨p, bo, bm, bc, ml, rfl, HP.out, hst, hlm, hnk, X5, L5, hml, BX⟩)
open Go.RowKit Go.Sort
def exC (x : UInt8) : CA := ⟨⟨#[x]⟩, ⟨#[102]⟩, ⟨#[]⟩, 0, ⟨none, 0, 0, []⟩, false⟩
theorem exC_ok (w : World) (x : UInt8) : (exC x).ok w := ⟨by show 1 ≤ maxLen; decide, by show 1 ≤ maxLen; decide, by show 0 ≤ maxLen; decide, by show 0 < _; decide, Sl.nothing w⟩
theorem ex_cl (w : World) : CL (w.alloc (.cells #[.string ⟨#[97]⟩, .string ⟨#[102]⟩, .string ⟨#[]⟩, .int .u64 0, .slice none 0 0, .bool false, .string ⟨#[98]⟩, .string ⟨#[102]⟩, .string ⟨#[]⟩, .int .u64 0, .slice none 0 0, .bool false] 33)) (some ⟨w.heap.size, 0, none⟩) 2 2 [exC 97, exC 98] := by
  refine ⟨rfl, Nat.le_refl _, by decide, fun h => by simp at h, fun a ha i hi j v hv => ?_, fun c hc => ?_⟩
  · obtain rfl := Option.some.inj ha
    rw [Addr.add_lit, Nat.zero_add, cell_of_row _ w.heap.size (i * 6 + j) _ _ _ (heap_alloc_new w _)]
    have hj : j < 6 := by
      have := (List.getElem?_eq_some_iff.1 hv).1
      match i, hi with
      | 0, _ => exact this
      | 1, _ => exact this
    match i, hi, j, hj, hv with
    | 0, _, 0, _, hv | 0, _, 1, _, hv | 0, _, 2, _, hv | 0, _, 3, _, hv | 0, _, 4, _, hv | 0, _, 5, _, hv => exact hv
    | 1, _, 0, _, hv | 1, _, 1, _, hv | 1, _, 2, _, hv | 1, _, 3, _, hv | 1, _, 4, _, hv | 1, _, 5, _, hv => exact hv
  · simp only [List.mem_cons, List.not_mem_nil, or_false] at hc
    rcases hc with rfl | rfl <;> exact exC_ok _ _
def exL : List CV := [(exC 97).c, (exC 98).c]
theorem ex_of : ofK ⟨#[]⟩ ⟨#[]⟩ exL = 0 := by kernel_rfl
theorem ex_lay : layAll [] exL = exL := by kernel_rfl
theorem ex_split : splitK ⟨#[]⟩ ⟨#[]⟩ ⟨#[98]⟩ = 0 := by kernel_rfl
theorem ex_low : exL.filter (belR ⟨#[98]⟩) = [(exC 97).c] := by kernel_rfl
theorem ex_high : (exL.filter fun c => !(belR ⟨#[98]⟩ c)) = [(exC 98).c] := by kernel_rfl
theorem ex_rows : rowsR exL = [[97], [98]] := by kernel_rfl
set_option maxHeartbeats 4000000 in
set_option maxRecDepth 100000 in
theorem alive11 (w : World) (hTb : Tabs w) : Calls Tryz.prog 19 #[] w fun e w' => e = .returned (.bool true) ∧ Below w.heap.size w w' := by
  have t2 := hTb.two
  obtain ⟨W1, hW1⟩ : ∃ V, V = w.alloc (.cells #[.string ⟨#[97]⟩, .string ⟨#[102]⟩, .string ⟨#[]⟩, .int .u64 0, .slice none 0 0, .bool false, .string ⟨#[98]⟩, .string ⟨#[102]⟩, .string ⟨#[]⟩, .int .u64 0, .slice none 0 0, .bool false] 33) := ⟨_, rfl⟩
  have C1 : Below w.heap.size w W1 := by rw [hW1]; exact (Below.refl _ _).alloc (Nat.le_refl _) _
  have L1 : CL W1 (some ⟨w.heap.size, 0, none⟩) 2 2 [exC 97, exC 98] := by rw [hW1]; exact ex_cl w
  have CO := of_any10 W1 ⟨#[]⟩ ⟨#[]⟩ _ 2 2 _ (hTb.below C1 t2) (by decide) (by decide) L1 (by omega)
  rw [show [exC 97, exC 98].map CA.c = exL from rfl] at CO
  obtain ⟨hst, hlm, hnk⟩ := of_made ex_of (fun c hc => by
    unfold exL at hc
    simp only [List.mem_cons, List.not_mem_nil, or_false] at hc
    rcases hc with rfl | rfl <;> (show 0 < _; decide)) (fun c hc => by
    unfold exL at hc
    simp only [List.mem_cons, List.not_mem_nil, or_false] at hc
    rcases hc with rfl | rfl <;> exact fun x hx => by simp [exC, CA.c] at hx)
  rw [ex_lay] at hst hlm
  go_enter Tryz.func19, Tryz.ntmps19
  go_wp2_with fail
  rw [← hW1]
  clear hW1
  refine CO.mono ?_
  rintro e w2 (⟨-, p, hp, rfl, X2, C2⟩ | ⟨hne, -⟩)
  case inr => exact absurd ex_of hne
  rw [ex_lay] at X2
  have B2 := C1.trans (C2.mono C1.size)
  have CM := middle_any w2 p ⟨#[]⟩ ⟨#[]⟩ exL X2 hst.srt hst.good (by decide) (by decide) hst.rows (by decide)
  clear CO L1
  go_wp2_with fail
  refine CM.mono ?_
  rintro e w3 (⟨h, -⟩ | ⟨x, -, hx, rfl, C3⟩)
  · rw [ex_rows] at h; exact absurd h (by decide)
  rw [ex_rows] at hx
  obtain rfl : [98] = x := Option.some.inj (show some [98] = some x from hx)
  have B3 := B2.trans (C3.mono B2.size)
  have X3 := X2.below C3
  have CS := split_any w3 p ⟨#[]⟩ ⟨#[]⟩ ⟨#[98]⟩ exL (hTb.below B3 t2) X3 (hst.mono (by decide)) hlm hnk (by decide)
  rw [show encStr [98] = .string ⟨#[98]⟩ from rfl]
  clear CM X2 hx
  go_wp2_with fail
  refine CS.mono ?_
  rintro e w4 (⟨-, q1, q2, hq1, hq2, rfl, Y1, Y2, C4⟩ | ⟨hne, -⟩)
  case inr => exact absurd ex_split hne
  have B4 := B3.trans (C4.mono B3.size)
  have SL := (low_rows hst : Stand ⟨#[]⟩ ⟨#[98]⟩ _ _)
  have SH := (high_rows hst : Stand ⟨#[98]⟩ ⟨#[]⟩ _ _)
  rw [ex_low] at Y1 SL
  rw [ex_high] at Y2 SH
  have CE := cells_st w4 q1 ⟨#[]⟩ ⟨#[98]⟩ _ Y1 SL.srt SL.good (by decide) (by decide) SL.rows (by decide)
  clear CS
  go_wp2_with fail
  refine CE.mono ?_
  rintro e w5 ⟨ao, n, cap, l, rfl, L5, -, hl5, C5⟩
  have hn5 : n = 1 := by
    have := congrArg List.length hl5
    rw [List.length_map, L5.len] at this
    exact this
  subst hn5
  have B5 := B4.trans (C5.mono B4.size)
  have CE := cells_st w5 q2 ⟨#[98]⟩ ⟨#[]⟩ _ (Y2.below C5) SH.srt SH.good (by decide) (by decide) SH.rows (by decide)
  go_wp2_with fail
  refine CE.mono ?_
  rintro e w6 ⟨ao2, n2, cap2, l2, rfl, L6, -, hl6, C6⟩
  have hn6 : n2 = 1 := by
    have := congrArg List.length hl6
    rw [List.length_map, L6.len] at this
    exact this
  subst hn6
  go_wp2
  go_ret
  exact ⟨rfl, B5.trans (C6.mono B5.size)⟩
end Go.Proofs.YtlljmhcgjkolpaaGreatDoor
namespace Go.Proofs
open Go.Shelf
def Tryz.growC_ren : Go.Shelf.Ren := ⟨fun | 4 => 92 | n => n, fun | 22 => 31 | 25 => 33 | 3 => 3 | 4 => 4 | 9 => 9 | 20 => 20 | 0 => 0 | n => n, fun | n => n⟩
theorem Tryz.growC : Go.Proofs.Lays8.n4 Tryz.prog Tryz.growC_ren := {
  mixed := by kernel_rfl
  f4 := ⟨Tryz.f92.name, by decide, Tryz.func92.trans (congrArg some (by kernel_rfl))⟩
  t0 := Tryz.underlying0
  a0 := Tryz.isAgg0
  z0 := Tryz.sizeOf0
  v0 := Tryz.zeroValue0
  t3 := Tryz.underlying3
  a3 := Tryz.isAgg3
  z3 := Tryz.sizeOf3
  v3 := Tryz.zeroValue3
  t4 := Tryz.underlying4
  a4 := Tryz.isAgg4
  z4 := Tryz.sizeOf4
  v4 := Tryz.zeroValue4
  t9 := Tryz.underlying9
  a9 := Tryz.isAgg9
  z9 := Tryz.sizeOf9
  v9 := Tryz.zeroValue9
  t20 := Tryz.underlying20
  a20 := Tryz.isAgg20
  z20 := Tryz.sizeOf20
  v20 := Tryz.zeroValue20
  t22 := Tryz.underlying31
  a22 := Tryz.isAgg31
  z22 := Tryz.sizeOf31
  v22 := Tryz.zeroValue31 }
end Go.Proofs
namespace Go.Proofs.YtlljmhcgjkolpaaGreatDoor
open Go.RowKit
theorem zeros_size (z : Array Value) (k : Nat) : (Builtin.zeroCells z k).size = k * z.size := by
  simp [Builtin.zeroCells]
set_option maxHeartbeats 4000000 in
set_option maxRecDepth 100000 in
theorem concat_any (w : World) (ad : Option Addr) (ao bo : Option Addr) (n m cap cap2 : Nat) (l l2 : List CA) (hv : VL w ad 2 2 [.slice ao n cap, .slice bo m cap2]) (L : CL w ao n cap l) (L2 : CL w bo m cap2 l2) (hn : n ≤ 1000) (hm : m ≤ 1000) :
    Calls Tryz.prog 56 #[.slice ad 2 2] w (LsPost w (l.map CA.c ++ l2.map CA.c)) := by
  obtain ⟨i0, hi, hz0, hz1, hz2⟩ := info_parts cellInfo
  obtain ⟨b, off, ea, hc⟩ := hv.at (by omega)
  have x0 : w.cell? ⟨b, off, none⟩ = some (.slice ao n cap) := hc 0 (by simp)
  have x1 : w.cell? ⟨b, off + 1, none⟩ = some (.slice bo m cap2) := hc 1 (by simp)
  have hl1 := L.len
  have hl2 := L2.len
  have HL : Hid (l.length = n) := hl1
  have HL2 : Hid (l2.length = m) := hl2
  subst ea
  clear hc hv hl1 hl2
  go_enter Tryz.func56, Tryz.ntmps56
  go_wp2
  go_loopw [3, 11] (fun s i wr => ∃ (j k : Nat), i = .int .i64 j ∧ s = .int .i64 k ∧ (j = 0 ∧ k = 0 ∨ j = 1 ∧ k = n ∨ j = 2 ∧ k = n + m) ∧ Below w.heap.size w wr) (fun _ i _ => 2 - (intOf i).toNat)
  case atStart => exact ⟨0, 0, rfl, rfl, .inl ⟨rfl, rfl⟩, Below.refl _ _⟩
  case round =>
    obtain ⟨j, k, rfl, rfl, hjk, B⟩ := hrel
    have y0 := (B.cell (World.block_lt_of_cell? _ _ x0)).trans x0
    have y1 := (B.cell (World.block_lt_of_cell? _ _ x1)).trans x1
    rcases hjk with ⟨rfl, rfl⟩ | ⟨rfl, rfl⟩ | ⟨rfl, rfl⟩
    · have h0 : ¬ (n : Int) < 0 := by omega
      go_wp2
      go_roundw
      case rel => exact ⟨1, n, rfl, by go_num, .inr (.inl ⟨rfl, rfl⟩), B⟩
      case measure => simp [intOf]
    · have hw : IntKind.i64.wrap ((k : Int) + (m : Int)) = (k : Int) + (m : Int) := by rw [IntKind.wrap_i64]; omega
      have hw6 : wrap64 ((k : Int) + (m : Int)) = (k : Int) + (m : Int) := by unfold wrap64; omega
      have h0 : ¬ (k : Int) + (m : Int) < 0 := by omega
      go_wp2
      go_roundw
      case rel => exact ⟨2, k + m, rfl, by go_num, .inr (.inr ⟨rfl, rfl⟩), B⟩
      case measure => simp [intOf]
    · obtain ⟨s, hs⟩ : ∃ s, s = n + m := ⟨_, rfl⟩
      have HSM : Hid (s = n + m) := hs
      have hs2 : s ≤ 2000 := by omega
      rw [show ((n + m : Nat) : Int) = ((s : Nat) : Int) by rw [hs]]
      have GR : Calls Tryz.prog 92 #[.slice none 0 0, .int .i64 s] wr fun e w' => ∃ go gc, e = .returned (.slice go 0 gc) ∧ CNew w w' w.heap.size (.slice go 0 gc) [] ∧ Below w.heap.size w w' := by
        by_cases hz : s = 0
        · subst hz
          refine (show Calls Tryz.prog 92 #[.slice none 0 0, .int .i64 (0 : Nat)] wr _ from Any8.slices_Grow_room Tryz.growC none 0 0 0 wr (Nat.le_refl _) (by omega) (by omega) (by omega)).mono ?_
          rintro e w' ⟨rfl, hw⟩
          rw [hw]
          exact ⟨none, 0, rfl, CNew.nil _ _ _, B⟩
        · refine (show Calls Tryz.prog 92 #[.slice none 0 0, .int .i64 s] wr _ from Any8.slices_Grow_grow Tryz.growC i0 _ hi hz0 (by rw [hz1]; decide) none 0 0 s [] wr (Nat.le_refl _) (by omega) (by rw [hz2]; omega) (by omega) (by simp) (fun _ => rfl) (fun _ h => by simp at h)).mono ?_
          rintro e w' ⟨rfl, hw⟩
          have hge := grownCap_ge wr (0 + s) 0 33
          have hmx := grownCap_le_maxLen wr (0 + s) 0 33 (by unfold maxLen; omega)
          have BX : Below w.heap.size w w' := by rw [hw]; exact B.trans (((Below.refl _ wr).drew.alloc (by simp) _).mono B.size)
          refine ⟨_, _, rfl, ⟨⟨rfl, .inr ⟨wr.heap.size, _, _, rfl, B.size, by rw [hw]; exact heap_alloc_new wr.drew _, Nat.zero_le _, hmx, ?_, rfl⟩⟩, fun _ h => by simp at h⟩, BX⟩
          simp only [Array.size_append, zeros_size, List.size_toArray, List.length_nil]
          show 0 + (0 + s - 0) * 6 + (grownCap wr (0 + s) 0 33 - (0 + s)) * 6 = grownCap wr (0 + s) 0 33 * 6
          omega
      clear hs y0 y1
      go_wp2_with fail
      refine GR.mono ?_
      rintro e w2 ⟨go, gc, rfl, N2, B2⟩
      clear GR B
      go_wp2
      go_loopw [6, 27] (fun v i wr => ∃ (j : Nat) (r : List CA), i = .int .i64 j ∧ CNew w wr w.heap.size v r ∧ (j = 0 ∧ r = [] ∨ j = 1 ∧ r = l ∨ j = 2 ∧ r = l ++ l2) ∧ Below w.heap.size w wr) (fun _ i _ => 2 - (intOf i).toNat)
      case atStart => exact ⟨0, [], rfl, N2, .inl ⟨rfl, rfl⟩, B2⟩
      case round =>
        obtain ⟨j, r, rfl, N3, hjr, B3⟩ := hrel
        have y0 := (B3.cell (World.block_lt_of_cell? _ _ x0)).trans x0
        have y1 := (B3.cell (World.block_lt_of_cell? _ _ x1)).trans x1
        have bs := B3.size
        obtain ⟨vo, vn, vc, hve⟩ := N3.slice
        subst hve
        rcases hjr with ⟨rfl, rfl⟩ | ⟨rfl, rfl⟩ | ⟨rfl, rfl⟩
        · have LX := L.below B3
          go_wp2_with (at_builtin; refine wpList_appNs rfl _ _ rfl w.heap.size _ [] rfl N3 _ _ _ l rfl LX L.ok (by simp; omega) bs ?_; intro v4 w4 N4 B4; obtain ⟨vo4, vn4, vc4, hv4⟩ := N4.slice; subst hv4)
          go_roundw
          case rel => exact ⟨1, l, rfl, by simpa using N4, .inr (.inl ⟨rfl, rfl⟩), B3.trans B4⟩
          case measure => simp [intOf]
        · have LX := L2.below B3
          have hrl := HL.out
          go_wp2_with (at_builtin; refine wpList_appNs rfl _ _ rfl w.heap.size _ r rfl N3 _ _ _ l2 rfl LX L2.ok (by omega) bs ?_; intro v4 w4 N4 B4; obtain ⟨vo4, vn4, vc4, hv4⟩ := N4.slice; subst hv4)
          go_roundw
          case rel => exact ⟨2, r ++ l2, rfl, N4, .inr (.inr ⟨rfl, rfl⟩), B3.trans B4⟩
          case measure => simp [intOf]
        · obtain ⟨ao5, cap5, hv5, L5⟩ := N3.cl B3
          have L6 : CL wr vo vn vc (l ++ l2) := by
            simp only [Value.slice.injEq] at hv5
            obtain ⟨e1, e2, e3⟩ := hv5
            rw [e1, e2, e3]
            exact L5
          clear hv5 L5 N3
          go_wp2
          go_ret
          exact ⟨_, _, _, _, rfl, L6, List.map_append .., B3⟩
open Go.RowKit
set_option maxHeartbeats 2000000 in
set_option maxRecDepth 100000 in
theorem merge_bad (w : World) (p q : Nat) (f e e2 t : ByteArray) (cs ds : List CV) (h1 : TB w p f e cs) (h2 : TB w q e2 t ds) (hb : e.size = 0 ∨ e ≠ e2) :
    Calls Tryz.prog 25 #[.pointer (some ⟨p, 0, none⟩), .pointer (some ⟨q, 0, none⟩)] w fun x w' => x = .returned (.tuple #[.pointer none, .int .i64 1]) ∧ Below w.heap.size w w' := by
  have CB := tbounds_any w p f e cs h1
  go_enter Tryz.func25, Tryz.ntmps25
  go_wp2_with fail
  refine CB.mono ?_
  rintro x w1 ⟨rfl, C1⟩
  have CB2 := tbounds_any w1 q e2 t ds (h2.below C1)
  clear CB
  go_wp2_with fail
  refine CB2.mono ?_
  rintro x w2 ⟨rfl, C2⟩
  have B2 := C1.trans (C2.mono C1.size)
  clear CB2
  obtain ⟨eb, heb⟩ : ∃ b, b = decide (e.size ≠ 0) := ⟨_, rfl⟩
  obtain ⟨ee0, ee1, ee2⟩ := empty_facts e eb heb
  cases eb with
  | false =>
    clear heb hb
    go_wp2
    go_ret2
    exact ⟨rfl, B2⟩
  | true =>
    have hz : e.size ≠ 0 := of_decide_eq_true heb.symm
    have hne := toL_ne (hb.resolve_left hz)
    clear heb hb hz
    go_wp2
    go_ret2
    exact ⟨rfl, B2⟩
set_option maxHeartbeats 4000000 in
set_option maxRecDepth 100000 in
theorem merge_ok (w : World) (p q : Nat) (f e t : ByteArray) (n m : Nat) (cs ds : List CV) (hTb : Tabs w) (h1 : TB w p f e cs) (h2 : TB w q e t ds) (s1 : Stand f e n cs) (s2 : Stand e t m ds) (l1 : Lim cs) (l2 : Lim ds) (he : e.size ≠ 0) (k1 : newK f e = 0) (k2 : newK e t = 0) (hl : cs.length + ds.length ≤ 32) :
    Calls Tryz.prog 25 #[.pointer (some ⟨p, 0, none⟩), .pointer (some ⟨q, 0, none⟩)] w fun x w' => ∃ u, x = .returned (.tuple #[.pointer (some ⟨u, 0, none⟩), .int .i64 0]) ∧ w.heap.size ≤ u ∧ TB w' u f t (cs ++ ds) ∧ Below w.heap.size w w' := by
  have t2 := hTb.two
  obtain ⟨a1, a2, a3⟩ := newK_ok k1
  obtain ⟨b1, b2, b3⟩ := newK_ok k2
  obtain ⟨o1, o2⟩ := join_of s1 s2 he k1 k2 l1 l2 hl
  have CB := tbounds_any w p f e cs h1
  go_enter Tryz.func25, Tryz.ntmps25
  go_wp2_with fail
  refine CB.mono ?_
  rintro x w1 ⟨rfl, C1⟩
  have CB2 := tbounds_any w1 q e t ds (h2.below C1)
  clear CB
  go_wp2_with fail
  refine CB2.mono ?_
  rintro x w2 ⟨rfl, C2⟩
  have B2 := C1.trans (C2.mono C1.size)
  clear CB2
  obtain ⟨eb, heb⟩ : ∃ b, b = decide (e.size ≠ 0) := ⟨_, rfl⟩
  obtain ⟨ee0, ee1, ee2⟩ := empty_facts e eb heb
  obtain rfl : eb = true := by rw [heb]; exact decide_eq_true he
  have hee : (e.toList == e.toList) = true := by simp
  clear heb
  have CE := cells_st w2 p f e cs (h1.below B2) s1.srt s1.good a1 a2 s1.rows (by omega)
  go_wp2_with fail
  refine CE.mono ?_
  rintro x w3 ⟨ao, an, ac, al, rfl, L3, -, hal, C3⟩
  have B3 := B2.trans (C3.mono B2.size)
  clear CE
  have CE := cells_st w3 q e t ds (h2.below B3) s2.srt s2.good b1 b2 s2.rows (by omega)
  go_wp2_with fail
  refine CE.mono ?_
  rintro x w4 ⟨bo, bn, bc, bl, rfl, L4, -, hbl, C4⟩
  have B4 := B3.trans (C4.mono B3.size)
  obtain ⟨w5, hw5⟩ : ∃ V, V = w4.alloc (.cells #[.slice ao an ac, .slice bo bn bc] 31) := ⟨_, rfl⟩
  have C5 : Below w4.heap.size w4 w5 := by rw [hw5]; exact (Below.refl _ _).alloc (Nat.le_refl _) _
  have V5 : VL w5 (some ⟨w4.heap.size, 0, none⟩) 2 2 [.slice ao an ac, .slice bo bn bc] := by rw [hw5]; exact VL.new w4 [.slice ao an ac, .slice bo bn bc] 31 (by simp [maxLen])
  have B5 := B4.trans (C5.mono B4.size)
  have ha : an ≤ 1000 := by
    have h := congrArg List.length hal
    rw [List.length_map, L3.len] at h
    omega
  have hb : bn ≤ 1000 := by
    have h := congrArg List.length hbl
    rw [List.length_map, L4.len] at h
    omega
  have CC := concat_any w5 _ ao bo an bn ac bc al bl V5 ((L3.below C4).below C5) (L4.below C5) ha hb
  rw [hal, hbl] at CC
  clear CE
  go_wp2_with fail
  rw [← hw5]
  clear hw5
  refine CC.mono ?_
  rintro x w6 ⟨co, cn, cc, cl, rfl, L6, hcl, C6⟩
  have B6 := B5.trans (C6.mono B5.size)
  have CO := of_any10 w6 f t co cn cc cl (hTb.below B6 t2) (by omega) (by omega) L6 (by
    have h := congrArg List.length hcl
    rw [List.length_map, L6.len, List.length_append] at h
    omega)
  rw [hcl] at CO
  clear CC
  go_wp2_with fail
  refine CO.mono ?_
  rintro x w7 (⟨-, u, hu, rfl, X7, C7⟩ | ⟨hne, -⟩)
  case inr => exact absurd o1 hne
  rw [o2] at X7
  go_wp2
  go_ret2
  exact ⟨u, rfl, Nat.le_trans B6.size hu, X7, B6.trans (C7.mono B6.size)⟩
end Go.Proofs.YtlljmhcgjkolpaaGreatDoor
