/-
  Texts in one: SpMade, SpAlive, SpMergeF, SpTwo.
-/
import Derived.Test.YtlljmhcgjkolpaaGreatDoorSplitCutsQFL
import Derived.Test.YtlljmhcgjkolpaaGreatDoorSplitCutsQ27
import Derived.Test.YtlljmhcgjkolpaaGreatDoorSplitCutsQ22
import Derived.Test.YtlljmhcgjkolpaaGreatDoorSplitCutsQ28
import Derived.Test.YtlljmhcgjkolpaaGreatDoorSplitCutsQ23
import Derived.Test.YtlljmhcgjkolpaaGreatDoorSplitCutsQ24
import Derived.Shelf.Spec.SlicesGrow
import Derived.Ground.Names8Prog
import Derived.Test.YtlljmhcgjkolpaaGreatDoorProg
import Derived.Test.YtlljmhcgjkolpaaGreatDoorSplitCutsQ9
namespace Go.Proofs.YtlljmhcgjkolpaaGreatDoor
open Go.RowKit
theorem cellsB_few {l : List CA} {m : Nat} (h : cellsB l (m : Int) = true) : l.length ≤ m := by
  have := of_decide_eq_true (Bool.and_eq_true_iff.1 h).1
  omega
theorem cIns_perm {ds : List CV} {c : CV} (h : ∀ x ∈ ds, keyL x.kv ≠ keyL c.kv) : (cIns ds c).Perm (c :: ds) := by
  unfold cIns cLo cHi
  refine List.perm_middle.trans (List.Perm.cons c ?_)
  have e : ds.filter (fun x => decide (cmpL (keyL c.kv) (keyL x.kv) < 0)) = ds.filter (fun x => !(decide (cmpL (keyL x.kv) (keyL c.kv) < 0))) := List.filter_congr fun x hx => by
    rcases cmpL_total (keyL x.kv) (keyL c.kv) with g | g | g
    · rw [decide_eq_true g, decide_eq_false (cmpL_asym g)]; rfl
    · exact absurd g (h x hx)
    · rw [decide_eq_true g, decide_eq_false (cmpL_asym g)]; rfl
  rw [e]
  exact List.filter_append_perm _ ds
theorem layAll_perm : ∀ (cs ds : List CV), (layAll ds cs).length = ds.length + cs.length → (layAll ds cs).Perm (ds ++ cs)
  | [], ds, _ => by rw [List.append_nil]; exact List.Perm.refl _
  | c :: cs, ds, h => by
    have h1 := layAll_len cs (cIns ds c)
    have h2 := cIns_len ds c
    have h0 : (layAll (cIns ds c) cs).length = ds.length + (cs.length + 1) := h
    have hf := (cIns_full ds c).1 (by omega)
    have ih := layAll_perm cs (cIns ds c) (by omega)
    show (layAll (cIns ds c) cs).Perm _
    refine ih.trans (((cIns_perm hf).append_right cs).trans ?_)
    rw [List.cons_append]
    exact List.perm_middle.symm
theorem of_made {f t : ByteArray} {cs : List CV} (h : ofK f t cs = 0) (ht : ∀ c ∈ cs, c.time < 18446744073709551616) (hb : ∀ c ∈ cs, Byt c.value) : Stand f t cs.length (layAll [] cs) ∧ Lim (layAll [] cs) ∧ newK f t = 0 := by
  have hk : newK f t = 0 := by
    unfold ofK at h
    split at h
    · assumption
    · simp at h
  unfold ofK at h
  rw [if_pos hk] at h
  obtain ⟨h1, h2, h3, h4⟩ := judgeK_ok h
  have hs := (Stand.nil f t).layAll cs (fun c hc => ⟨good_of (h1 c hc).1 (h1 c hc).2.2 (ht c hc) (hb c hc), (h1 c hc).2.1⟩)
  rw [Nat.zero_add] at hs
  refine ⟨hs, ⟨by have := hs.len; omega, fun k => ?_⟩, hk⟩
  have hp : (layAll [] cs).Perm cs := by
    have hd : ¬ (layAll [] cs).length ≠ cs.length := fun g => by
      have := (dup_iff ht).1 g
      omega
    have := layAll_perm cs [] (by rw [List.length_nil, Nat.zero_add]; omega)
    rwa [List.nil_append] at this
  have hc : (colC k (layAll [] cs)).length = (colC k cs).length := (hp.filter _).length_eq
  rw [hc, col_cntK]
  have := mostK_iff (cs.map fun c => c.ky.colK) 4
  exact Nat.le_of_not_lt fun g => by
    have := this.2 ⟨_, g⟩
    omega
def MkPost (w : World) (f t : ByteArray) (cs : List CV) (e : Ending) (w' : World) : Prop :=
  (∃ p bo bm bc ml, e = .returned (.tuple #[.pointer (some ⟨p, 0, none⟩), .agg #[.string f, .string t, .slice bo bm bc], .bool true]) ∧ w.heap.size ≤ p ∧ Stand f t 20 cs ∧ Lim cs ∧ newK f t = 0 ∧ TB w' p f t cs ∧ CL w' bo bm bc ml ∧ ml.map CA.c = cs ∧ Below w.heap.size w w') ∨
  (∃ x y z a b c, e = .returned (.tuple #[.pointer x, .agg #[.string y, .string z, .slice a b c], .bool false]) ∧ Below w.heap.size w w')
set_option maxHeartbeats 8000000 in
set_option maxRecDepth 100000 in
theorem made_any (w : World) (f t : ByteArray) (ao : Option Addr) (n cap : Nat) (l : List CA) (hTb : Tabs w) (hf0 : f.size ≤ maxLen) (ht0 : t.size ≤ maxLen) (L : CL w ao n cap l) (sm : ∀ c ∈ l, c.small) :
    Calls Tryz.prog 18 #[.string f, .string t, .slice ao n cap] w (MkPost w f t (layAll [] (l.map CA.c))) := by
  have t2 := hTb.two
  have HTb : Hid (Tabs w) := hTb
  have hl1 := Nat.le_of_eq L.len
  have hl2 := Nat.le_of_eq L.len.symm
  obtain ⟨W1, hW1⟩ : ∃ V, V = w.alloc (.cells #[.string ⟨#[]⟩, .string ⟨#[]⟩, .slice none 0 0] 39) := ⟨_, rfl⟩
  have C1 : Below w.heap.size w W1 := by rw [hW1]; exact (Below.refl _ _).alloc (Nat.le_refl _) _
  have R1 : Arr W1 w.heap.size 39 [.string ⟨#[]⟩, .string ⟨#[]⟩, .slice none 0 0] := by rw [hW1]; exact heap_alloc_new w _
  have CLg := lcells_any W1 ao n cap l 20 (L.below C1) sm
  obtain ⟨b1, hb1⟩ : ∃ b, b = cellsB l 20 := ⟨_, rfl⟩
  have HB1 : Hid (b1 = cellsB l 20) := hb1
  rw [← hb1] at CLg
  clear hb1 sm hTb
  go_enter Tryz.func18, Tryz.ntmps18
  go_wp2_with fail
  rw [← hW1]
  clear hW1
  refine CLg.mono ?_
  rintro e w1 ⟨rfl, D1⟩
  have B1 := C1.trans (D1.mono C1.size)
  have RX := arr_below R1 D1
  have HWP : Hid (w.heap.size < w1.heap.size) := RX.lt
  clear CLg R1
  cases b1 with
  | false =>
    have r0 : w1.cell? ⟨w.heap.size, 0, none⟩ = some (.string ⟨#[]⟩) := RX.cell 0
    have f0 := RX.free 0
    have r1 : w1.cell? ⟨w.heap.size, 1, none⟩ = some (.string ⟨#[]⟩) := RX.cell 1
    have f1 := RX.free 1
    have r2 : w1.cell? ⟨w.heap.size, 2, none⟩ = some (.slice none 0 0) := RX.cell 2
    have f2 := RX.free 2
    have KW : Wr w.heap.size w1 (((w1.setCell ⟨w.heap.size, 0, none⟩ (.string ⟨#[]⟩)).setCell ⟨w.heap.size, 1, none⟩ (.string ⟨#[]⟩)).setCell ⟨w.heap.size, 2, none⟩ (.slice none 0 0)) := (((Wr.refl _ _).set 0 _).set 1 _).set 2 _
    have BX := KW.below B1 B1.size (Nat.le_refl _)
    go_wp2
    exact bodyPost_ret (v := .tuple #[.pointer none, .agg #[.string ⟨#[]⟩, .string ⟨#[]⟩, .slice none 0 0], .bool false]) (by simp [results, Tryz.results18, go_sem, r0, r1, r2]) rfl (.inr ⟨none, _, _, _, _, _, rfl, BX⟩)
  | true =>
    by_cases g1 : f.size ≤ 100
    case neg =>
      have i1 : (100 : Int) < (f.size : Int) := by omega
      have r0 : w1.cell? ⟨w.heap.size, 0, none⟩ = some (.string ⟨#[]⟩) := RX.cell 0
      have f0 := RX.free 0
      have r1 : w1.cell? ⟨w.heap.size, 1, none⟩ = some (.string ⟨#[]⟩) := RX.cell 1
      have f1 := RX.free 1
      have r2 : w1.cell? ⟨w.heap.size, 2, none⟩ = some (.slice none 0 0) := RX.cell 2
      have f2 := RX.free 2
      have KW : Wr w.heap.size w1 (((w1.setCell ⟨w.heap.size, 0, none⟩ (.string ⟨#[]⟩)).setCell ⟨w.heap.size, 1, none⟩ (.string ⟨#[]⟩)).setCell ⟨w.heap.size, 2, none⟩ (.slice none 0 0)) := (((Wr.refl _ _).set 0 _).set 1 _).set 2 _
      have BX := KW.below B1 B1.size (Nat.le_refl _)
      go_wp2
      exact bodyPost_ret (v := .tuple #[.pointer none, .agg #[.string ⟨#[]⟩, .string ⟨#[]⟩, .slice none 0 0], .bool false]) (by simp [results, Tryz.results18, go_sem, r0, r1, r2]) rfl (.inr ⟨none, _, _, _, _, _, rfl, BX⟩)
    have i1 : ¬ (100 : Int) < (f.size : Int) := by omega
    by_cases g2 : t.size ≤ 100
    case neg =>
      have i2 : (100 : Int) < (t.size : Int) := by omega
      have r0 : w1.cell? ⟨w.heap.size, 0, none⟩ = some (.string ⟨#[]⟩) := RX.cell 0
      have f0 := RX.free 0
      have r1 : w1.cell? ⟨w.heap.size, 1, none⟩ = some (.string ⟨#[]⟩) := RX.cell 1
      have f1 := RX.free 1
      have r2 : w1.cell? ⟨w.heap.size, 2, none⟩ = some (.slice none 0 0) := RX.cell 2
      have f2 := RX.free 2
      have KW : Wr w.heap.size w1 (((w1.setCell ⟨w.heap.size, 0, none⟩ (.string ⟨#[]⟩)).setCell ⟨w.heap.size, 1, none⟩ (.string ⟨#[]⟩)).setCell ⟨w.heap.size, 2, none⟩ (.slice none 0 0)) := (((Wr.refl _ _).set 0 _).set 1 _).set 2 _
      have BX := KW.below B1 B1.size (Nat.le_refl _)
      go_wp2
      exact bodyPost_ret (v := .tuple #[.pointer none, .agg #[.string ⟨#[]⟩, .string ⟨#[]⟩, .slice none 0 0], .bool false]) (by simp [results, Tryz.results18, go_sem, r0, r1, r2]) rfl (.inr ⟨none, _, _, _, _, _, rfl, BX⟩)
    have i2 : ¬ (100 : Int) < (t.size : Int) := by omega
    have hn20 : n ≤ 20 := by
      have h := HB1.out.symm
      have := cellsB_few (m := 20) h
      omega
    clear HB1
    have CO := of_any10 w1 f t ao n cap l (HTb.out.below B1 t2) (by omega) (by omega) (L.below B1) (by omega)
    obtain ⟨cs, hcs⟩ : ∃ cs, cs = l.map CA.c := ⟨_, rfl⟩
    have hcn : cs.length = n := by rw [hcs, List.length_map]; exact L.len
    have HTM : Hid (∀ c ∈ cs, c.time < 18446744073709551616) := fun c hc => by
      rw [hcs] at hc
      obtain ⟨x, hx, rfl⟩ := List.mem_map.1 hc
      exact (L.ok x hx).time
    have HBY : Hid (∀ c ∈ cs, Byt c.value) := fun c hc => by
      rw [hcs] at hc
      obtain ⟨x, hx, rfl⟩ := List.mem_map.1 hc
      exact (L.ok x hx).va.byte
    rw [← hcs] at CO
    have HCSE : Hid (cs = l.map CA.c) := hcs
    have HRO : Hid (∀ V, Below w.heap.size w V → Calls Tryz.prog 12 #[.string f, .string t, .slice ao n cap] V (ROfPost V f t cs)) := fun V hV => by
      have := rof10_any V f t ao n cap l hf0 ht0 (L.below hV) (by omega)
      rw [← hcs] at this
      exact this
    have HCN : Hid (cs.length ≤ 20) := by show _ ≤ _; omega
    clear hcs hcn L hl1 hl2
    go_wp2_with fail
    refine CO.mono ?_
    rintro e w2 (⟨hk0, p, hp, rfl, X2, C2⟩ | ⟨hk1, rfl, C2⟩)
    case inr =>
      have B2 := B1.trans (C2.mono B1.size)
      have RY := arr_below RX C2
      have CR := HRO.out w2 B2
      clear CO HRO RX
      go_wp2_with fail
      refine CR.mono ?_
      rintro e w3 (⟨hk0, -⟩ | ⟨-, rfl, C3⟩)
      · exact absurd hk0 hk1
      have B3 := B2.trans (C3.mono B2.size)
      have RZ := arr_below RY C3
      clear CR RY
      obtain ⟨k, hk⟩ : ∃ k, k = ofK f t cs := ⟨_, rfl⟩
      rw [← hk] at hk1 ⊢
      clear hk
      have z0 : (k == 0) = false := by simp [hk1]
      obtain ⟨w4, hw4⟩ : ∃ V, V = w3.alloc (.cells #[.string ⟨#[]⟩, .string ⟨#[]⟩, .slice none 0 0] 39) := ⟨_, rfl⟩
      have C4 : Below w3.heap.size w3 w4 := by rw [hw4]; exact (Below.refl _ _).alloc (Nat.le_refl _) _
      have M4 : Arr w4 w3.heap.size 39 [.string ⟨#[]⟩, .string ⟨#[]⟩, .slice none 0 0] := by rw [hw4]; exact heap_alloc_new w3 _
      have B4 := B3.trans (C4.mono B3.size)
      have R4 := arr_below RZ C4
      have hqw : w.heap.size < w3.heap.size := RZ.lt
      obtain ⟨q, hq⟩ : ∃ q, q = w3.heap.size := ⟨_, rfl⟩
      rw [← hq] at M4 hqw
      have m0 : w4.cell? ⟨q, 0, none⟩ = some (.string ⟨#[]⟩) := M4.cell 0
      have m1 : w4.cell? ⟨q, 1, none⟩ = some (.string ⟨#[]⟩) := M4.cell 1
      have m2 : w4.cell? ⟨q, 2, none⟩ = some (.slice none 0 0) := M4.cell 2
      go_wp2
      rw [← hw4, ← hq]
      clear hw4 hq RZ
      have zHS : Hid (∀ V, Below w4.heap.size w4 V → V.cell? ⟨q, 0, none⟩ = some (.string ⟨#[]⟩) ∧ V.cell? ⟨q, 1, none⟩ = some (.string ⟨#[]⟩) ∧ V.cell? ⟨q, 2, none⟩ = some (.slice none 0 0)) := fun V hV => ⟨(hV.cell (World.block_lt_of_cell? _ _ m0)).trans m0, (hV.cell (World.block_lt_of_cell? _ _ m1)).trans m1, (hV.cell (World.block_lt_of_cell? _ _ m2)).trans m2⟩
      have zE0 : Below w4.heap.size w4 w4.drew := (Below.refl _ _).drew
      refine wp_region_noPanic ?_
      refine wp_region_held_drew (S := fun V => V.cell? ⟨q, 0, none⟩ = some (.string ⟨#[]⟩) ∧ V.cell? ⟨q, 1, none⟩ = some (.string ⟨#[]⟩) ∧ V.cell? ⟨q, 2, none⟩ = some (.slice none 0 0)) (by kernel_rfl) (zHS.out _ zE0) (fun zH0 => ?_)
      obtain ⟨zv0, hv0⟩ : ∃ v, v = w4.drew := ⟨_, rfl⟩
      rw [← hv0] at zH0 zE0 ⊢
      clear hv0
      refine hr_take_w 0 (some 41) (.pointer none) rfl rfl (by kernel_rfl) (by kernel_rfl) (by kernel_rfl) rfl (fun W hW => by obtain ⟨h0, h1, h2⟩ := hW; go_simp) zH0 ?_
      simp only [FL]
      refine hr_take_w 1 (some 42) (.agg #[.string ⟨#[]⟩, .string ⟨#[]⟩, .slice none 0 0]) rfl rfl (by kernel_rfl) (by kernel_rfl) (by kernel_rfl) rfl (fun W hW => by obtain ⟨h0, h1, h2⟩ := hW; go_simp) zH0 ?_
      simp only [FL]
      refine hr_take_w 2 (some 43) (.int .i64 k) rfl rfl (by kernel_rfl) (by kernel_rfl) (by kernel_rfl) rfl (fun W hW => by obtain ⟨h0, h1, h2⟩ := hW; go_simp) zH0 ?_
      simp only [FL]
      refine hr_take_w 3 (some 44) (.bool false) rfl rfl (by kernel_rfl) (by kernel_rfl) (by kernel_rfl) rfl (fun W hW => by obtain ⟨h0, h1, h2⟩ := hW; go_simp) zH0 ?_
      simp only [FL]
      refine hr_take_w 4 (some 45) (.bool false) rfl rfl (by kernel_rfl) (by kernel_rfl) (by kernel_rfl) rfl (fun W hW => by obtain ⟨h0, h1, h2⟩ := hW; go_simp) zH0 ?_
      simp only [FL]
      refine hr_none 5 (some 46) rfl rfl (by kernel_rfl) (by kernel_rfl) (by kernel_rfl) rfl zH0 ?_
      simp only [FL]
      refine hr_none 6 (some 47) rfl rfl (by kernel_rfl) (by kernel_rfl) (by kernel_rfl) rfl zH0 ?_
      simp only [FL]
      refine hr_take_w 7 (some 48) (.bool false) rfl rfl (by kernel_rfl) (by kernel_rfl) (by kernel_rfl) rfl (fun W hW => by obtain ⟨h0, h1, h2⟩ := hW; go_simp) zH0 ?_
      simp only [FL]
      refine hr_take_w 8 (some 49) (.bool false) rfl rfl (by kernel_rfl) (by kernel_rfl) (by kernel_rfl) rfl (fun W hW => by obtain ⟨h0, h1, h2⟩ := hW; go_simp) zH0 ?_
      simp only [FL]
      refine hr_none 9 (some 50) rfl rfl (by kernel_rfl) (by kernel_rfl) (by kernel_rfl) rfl zH0 ?_
      simp only [FL]
      refine hr_none 10 (some 51) rfl rfl (by kernel_rfl) (by kernel_rfl) (by kernel_rfl) rfl zH0 ?_
      simp only [FL]
      refine hr_take_w 11 (some 52) (.bool false) rfl rfl (by kernel_rfl) (by kernel_rfl) (by kernel_rfl) rfl (fun W hW => by obtain ⟨h0, h1, h2⟩ := hW; go_simp) zH0 ?_
      simp only [FL]
      refine hr_take_w 12 (some 6) (.pointer none) rfl rfl (by kernel_rfl) (by kernel_rfl) (by kernel_rfl) rfl (fun W hW => by obtain ⟨h0, h1, h2⟩ := hW; go_simp) zH0 ?_
      simp only [FL]
      have r0 : zv0.cell? ⟨w.heap.size, 0, none⟩ = some (.string ⟨#[]⟩) := (arr_below R4 zE0).cell 0
      have f0 := (arr_below R4 zE0).free 0
      have r1 : zv0.cell? ⟨w.heap.size, 1, none⟩ = some (.string ⟨#[]⟩) := (arr_below R4 zE0).cell 1
      have f1 := (arr_below R4 zE0).free 1
      have r2 : zv0.cell? ⟨w.heap.size, 2, none⟩ = some (.slice none 0 0) := (arr_below R4 zE0).cell 2
      have f2 := (arr_below R4 zE0).free 2
      have KW : Wr w.heap.size zv0 (((zv0.setCell ⟨w.heap.size, 0, none⟩ (.string ⟨#[]⟩)).setCell ⟨w.heap.size, 1, none⟩ (.string ⟨#[]⟩)).setCell ⟨w.heap.size, 2, none⟩ (.slice none 0 0)) := (((Wr.refl _ _).set 0 _).set 1 _).set 2 _
      have QZ : Arr zv0 q 39 [.string ⟨#[]⟩, .string ⟨#[]⟩, .slice none 0 0] := arr_below M4 zE0
      have zH1 : (((zv0.setCell ⟨w.heap.size, 0, none⟩ (.string ⟨#[]⟩)).setCell ⟨w.heap.size, 1, none⟩ (.string ⟨#[]⟩)).setCell ⟨w.heap.size, 2, none⟩ (.slice none 0 0)).cell? ⟨q, 0, none⟩ = some (.string ⟨#[]⟩) ∧ (((zv0.setCell ⟨w.heap.size, 0, none⟩ (.string ⟨#[]⟩)).setCell ⟨w.heap.size, 1, none⟩ (.string ⟨#[]⟩)).setCell ⟨w.heap.size, 2, none⟩ (.slice none 0 0)).cell? ⟨q, 1, none⟩ = some (.string ⟨#[]⟩) ∧ (((zv0.setCell ⟨w.heap.size, 0, none⟩ (.string ⟨#[]⟩)).setCell ⟨w.heap.size, 1, none⟩ (.string ⟨#[]⟩)).setCell ⟨w.heap.size, 2, none⟩ (.slice none 0 0)).cell? ⟨q, 2, none⟩ = some (.slice none 0 0) := by
        have h : Arr (((zv0.setCell ⟨w.heap.size, 0, none⟩ (.string ⟨#[]⟩)).setCell ⟨w.heap.size, 1, none⟩ (.string ⟨#[]⟩)).setCell ⟨w.heap.size, 2, none⟩ (.slice none 0 0)) q 39 [.string ⟨#[]⟩, .string ⟨#[]⟩, .slice none 0 0] := (KW.block q QZ.lt (by omega)).trans QZ
        exact ⟨h.cell 0, h.cell 1, h.cell 2⟩
      refine hr_skip 13 none (w' := (((zv0.setCell ⟨w.heap.size, 0, none⟩ (.string ⟨#[]⟩)).setCell ⟨w.heap.size, 1, none⟩ (.string ⟨#[]⟩)).setCell ⟨w.heap.size, 2, none⟩ (.slice none 0 0))) rfl rfl (by kernel_rfl) rfl (by go_simp) zH1 ?_
      simp only [Act.put]
      refine hr_take_w 14 (some 8) (.bool false) rfl rfl (by kernel_rfl) (by kernel_rfl) (by kernel_rfl) rfl (fun W hW => by obtain ⟨h0, h1, h2⟩ := hW; go_simp) zH1 ?_
      simp only [FL]
      refine wpAnyH_done (by kernel_rfl) ?_ _
      refine NoPanic.normal ?_
      have BX := KW.below (B4.trans (zE0.mono B4.size)) (B4.trans (zE0.mono B4.size)).size (Nat.le_refl _)
      go_wp2
      exact bodyPost_ret (v := .tuple #[.pointer none, .agg #[.string ⟨#[]⟩, .string ⟨#[]⟩, .slice none 0 0], .bool false]) (by simp [results, Tryz.results18, go_sem, r0, r1, r2]) rfl (.inr ⟨none, _, _, _, _, _, rfl, BX⟩)
    have B2 := B1.trans (C2.mono B1.size)
    have RY := arr_below RX C2
    have CR := HRO.out w2 B2
    clear CO HRO RX
    go_wp2_with fail
    refine CR.mono ?_
    rintro e w3 (⟨-, bo, bm, bc, ml, rfl, L3, hml, C3⟩ | ⟨hk1, -⟩)
    case inr => exact absurd hk0 hk1
    have B3 := B2.trans (C3.mono B2.size)
    have X3 := X2.below C3
    have RZ := arr_below RY C3
    clear CR X2 RY
    obtain ⟨hst, hlm, hnk⟩ := of_made hk0 HTM.out HBY.out
    have hst := hst.mono HCN.out
    obtain ⟨w4, hw4⟩ : ∃ V, V = w3.alloc (.cells #[.string f, .string t, .slice bo bm bc] 39) := ⟨_, rfl⟩
    have C4 : Below w3.heap.size w3 w4 := by rw [hw4]; exact (Below.refl _ _).alloc (Nat.le_refl _) _
    have M4 : Arr w4 w3.heap.size 39 [.string f, .string t, .slice bo bm bc] := by rw [hw4]; exact heap_alloc_new w3 _
    have B4 := B3.trans (C4.mono B3.size)
    have X4 := X3.below C4
    have L4 := L3.below C4
    have R4 := arr_below RZ C4
    have hqw : w.heap.size < w3.heap.size := RZ.lt
    obtain ⟨q, hq⟩ : ∃ q, q = w3.heap.size := ⟨_, rfl⟩
    rw [← hq] at M4 hqw
    have m0 : w4.cell? ⟨q, 0, none⟩ = some (.string f) := M4.cell 0
    have m1 : w4.cell? ⟨q, 1, none⟩ = some (.string t) := M4.cell 1
    have m2 : w4.cell? ⟨q, 2, none⟩ = some (.slice bo bm bc) := M4.cell 2
    have HP : Hid (w.heap.size ≤ p) := Nat.le_trans B1.size hp
    have hpw : w.heap.size < p := Nat.lt_of_lt_of_le HWP.out hp
    clear L3 X3
    go_wp2
    rw [← hw4, ← hq]
    clear hw4 hq RZ
    have zHS : Hid (∀ V, Below w4.heap.size w4 V → V.cell? ⟨q, 0, none⟩ = some (.string f) ∧ V.cell? ⟨q, 1, none⟩ = some (.string t) ∧ V.cell? ⟨q, 2, none⟩ = some (.slice bo bm bc)) := fun V hV => ⟨(hV.cell (World.block_lt_of_cell? _ _ m0)).trans m0, (hV.cell (World.block_lt_of_cell? _ _ m1)).trans m1, (hV.cell (World.block_lt_of_cell? _ _ m2)).trans m2⟩
    have zE0 : Below w4.heap.size w4 w4.drew := (Below.refl _ _).drew
    refine wp_region_noPanic ?_
    refine wp_region_held_drew (S := fun V => V.cell? ⟨q, 0, none⟩ = some (.string f) ∧ V.cell? ⟨q, 1, none⟩ = some (.string t) ∧ V.cell? ⟨q, 2, none⟩ = some (.slice bo bm bc)) (by kernel_rfl) (zHS.out _ zE0) (fun zH0 => ?_)
    obtain ⟨zv0, hv0⟩ : ∃ v, v = w4.drew := ⟨_, rfl⟩
    rw [← hv0] at zH0 zE0 ⊢
    clear hv0
    refine hr_take_w 0 (some 41) (.pointer (some ⟨p, 0, none⟩)) rfl rfl (by kernel_rfl) (by kernel_rfl) (by kernel_rfl) rfl (fun W hW => by obtain ⟨h0, h1, h2⟩ := hW; go_simp) zH0 ?_
    simp only [FL]
    refine hr_take_w 1 (some 42) (.agg #[.string f, .string t, .slice bo bm bc]) rfl rfl (by kernel_rfl) (by kernel_rfl) (by kernel_rfl) rfl (fun W hW => by obtain ⟨h0, h1, h2⟩ := hW; go_simp) zH0 ?_
    simp only [FL]
    refine hr_take_w 2 (some 43) (.int .i64 0) rfl rfl (by kernel_rfl) (by kernel_rfl) (by kernel_rfl) rfl (fun W hW => by obtain ⟨h0, h1, h2⟩ := hW; go_simp) zH0 ?_
    simp only [FL]
    refine hr_take_w 3 (some 44) (.bool true) rfl rfl (by kernel_rfl) (by kernel_rfl) (by kernel_rfl) rfl (fun W hW => by obtain ⟨h0, h1, h2⟩ := hW; go_simp) zH0 ?_
    simp only [FL]
    refine hr_take_w 4 (some 45) (.bool true) rfl rfl (by kernel_rfl) (by kernel_rfl) (by kernel_rfl) rfl (fun W hW => by obtain ⟨h0, h1, h2⟩ := hW; go_simp) zH0 ?_
    simp only [FL]
    refine hr_take_w 5 (some 46) (.int .i64 0) rfl rfl (by kernel_rfl) (by kernel_rfl) (by kernel_rfl) rfl (fun W hW => by obtain ⟨h0, h1, h2⟩ := hW; go_simp) zH0 ?_
    simp only [FL]
    refine hr_take_w 6 (some 47) (.bool true) rfl rfl (by kernel_rfl) (by kernel_rfl) (by kernel_rfl) rfl (fun W hW => by obtain ⟨h0, h1, h2⟩ := hW; go_simp) zH0 ?_
    simp only [FL]
    refine hr_take_w 7 (some 48) (.bool true) rfl rfl (by kernel_rfl) (by kernel_rfl) (by kernel_rfl) rfl (fun W hW => by obtain ⟨h0, h1, h2⟩ := hW; go_simp) zH0 ?_
    simp only [FL]
    refine hr_take_w 8 (some 49) (.bool true) rfl rfl (by kernel_rfl) (by kernel_rfl) (by kernel_rfl) rfl (fun W hW => by obtain ⟨h0, h1, h2⟩ := hW; go_simp) zH0 ?_
    simp only [FL]
    refine hr_take_w 9 (some 50) (.pointer (some ⟨p, 0, none⟩)) rfl rfl (by kernel_rfl) (by kernel_rfl) (by kernel_rfl) rfl (fun W hW => by obtain ⟨h0, h1, h2⟩ := hW; go_simp) zH0 ?_
    simp only [FL]
    refine hr_take_w 10 (some 51) (.bool true) rfl rfl (by kernel_rfl) (by kernel_rfl) (by kernel_rfl) rfl (fun W hW => by obtain ⟨h0, h1, h2⟩ := hW; go_simp) zH0 ?_
    simp only [FL]
    refine hr_take_w 11 (some 52) (.bool true) rfl rfl (by kernel_rfl) (by kernel_rfl) (by kernel_rfl) rfl (fun W hW => by obtain ⟨h0, h1, h2⟩ := hW; go_simp) zH0 ?_
    simp only [FL]
    refine hr_take_w 12 (some 6) (.pointer (some ⟨p, 0, none⟩)) rfl rfl (by kernel_rfl) (by kernel_rfl) (by kernel_rfl) rfl (fun W hW => by obtain ⟨h0, h1, h2⟩ := hW; go_simp) zH0 ?_
    simp only [FL]
    have r0 : zv0.cell? ⟨w.heap.size, 0, none⟩ = some (.string ⟨#[]⟩) := (arr_below R4 zE0).cell 0
    have f0 := (arr_below R4 zE0).free 0
    have r1 : zv0.cell? ⟨w.heap.size, 1, none⟩ = some (.string ⟨#[]⟩) := (arr_below R4 zE0).cell 1
    have f1 := (arr_below R4 zE0).free 1
    have r2 : zv0.cell? ⟨w.heap.size, 2, none⟩ = some (.slice none 0 0) := (arr_below R4 zE0).cell 2
    have f2 := (arr_below R4 zE0).free 2
    have KW : Wr w.heap.size zv0 (((zv0.setCell ⟨w.heap.size, 0, none⟩ (.string f)).setCell ⟨w.heap.size, 1, none⟩ (.string t)).setCell ⟨w.heap.size, 2, none⟩ (.slice bo bm bc)) := (((Wr.refl _ _).set 0 _).set 1 _).set 2 _
    have QZ : Arr zv0 q 39 [.string f, .string t, .slice bo bm bc] := arr_below M4 zE0
    have zH1 : (((zv0.setCell ⟨w.heap.size, 0, none⟩ (.string f)).setCell ⟨w.heap.size, 1, none⟩ (.string t)).setCell ⟨w.heap.size, 2, none⟩ (.slice bo bm bc)).cell? ⟨q, 0, none⟩ = some (.string f) ∧ (((zv0.setCell ⟨w.heap.size, 0, none⟩ (.string f)).setCell ⟨w.heap.size, 1, none⟩ (.string t)).setCell ⟨w.heap.size, 2, none⟩ (.slice bo bm bc)).cell? ⟨q, 1, none⟩ = some (.string t) ∧ (((zv0.setCell ⟨w.heap.size, 0, none⟩ (.string f)).setCell ⟨w.heap.size, 1, none⟩ (.string t)).setCell ⟨w.heap.size, 2, none⟩ (.slice bo bm bc)).cell? ⟨q, 2, none⟩ = some (.slice bo bm bc) := by
      have h : Arr (((zv0.setCell ⟨w.heap.size, 0, none⟩ (.string f)).setCell ⟨w.heap.size, 1, none⟩ (.string t)).setCell ⟨w.heap.size, 2, none⟩ (.slice bo bm bc)) q 39 [.string f, .string t, .slice bo bm bc] := (KW.block q QZ.lt (by omega)).trans QZ
      exact ⟨h.cell 0, h.cell 1, h.cell 2⟩
    refine hr_skip 13 none (w' := (((zv0.setCell ⟨w.heap.size, 0, none⟩ (.string f)).setCell ⟨w.heap.size, 1, none⟩ (.string t)).setCell ⟨w.heap.size, 2, none⟩ (.slice bo bm bc))) rfl rfl (by kernel_rfl) rfl (by go_simp) zH1 ?_
    simp only [Act.put]
    refine hr_take_w 14 (some 8) (.bool true) rfl rfl (by kernel_rfl) (by kernel_rfl) (by kernel_rfl) rfl (fun W hW => by obtain ⟨h0, h1, h2⟩ := hW; go_simp) zH1 ?_
    simp only [FL]
    refine wpAnyH_done (by kernel_rfl) ?_ _
    refine NoPanic.normal ?_
    have BX := KW.below (B4.trans (zE0.mono B4.size)) (B4.trans (zE0.mono B4.size)).size (Nat.le_refl _)
    have X5 : TB (((zv0.setCell ⟨w.heap.size, 0, none⟩ (.string f)).setCell ⟨w.heap.size, 1, none⟩ (.string t)).setCell ⟨w.heap.size, 2, none⟩ (.slice bo bm bc)) p f t (layAll [] cs) := TB.dull (arr_below R4 zE0) ⟨fun n h => by simp at h, fun x h => by simp at h, fun a n c h => by simp at h; exact h.2.1, fun L h => by simp at h⟩ KW (by omega) (X4.below zE0)
    have L5 := (L4.below zE0).rt (arr_below R4 zE0) KW
    have hE := HCSE.out
    rw [hE] at hst hlm X5 hml
    clear hE
    go_wp2
    exact bodyPost_ret (v := .tuple #[.pointer (some ⟨p, 0, none⟩), .agg #[.string f, .string t, .slice bo bm bc], .bool true]) (by simp [results, Tryz.results18, go_sem, r0, r1, r2]) rfl (.inl ⟨p, bo, bm, bc, ml, rfl, HP.out, hst, hlm, hnk, X5, L5, hml, BX⟩)
open Go.RowKit Go.Sort
def exC (x : UInt8) : CA := ⟨⟨#[x]⟩, ⟨#[102]⟩, ⟨#[]⟩, 0, ⟨none, 0, 0, []⟩, false⟩
theorem exC_ok (w : World) (x : UInt8) : (exC x).ok w := ⟨by show 1 ≤ maxLen; decide, by show 1 ≤ maxLen; decide, by show 0 ≤ maxLen; decide, by show 0 < _; decide, Sl.nothing w⟩
theorem ex_cl (w : World) : CL (w.alloc (.cells #[.string ⟨#[97]⟩, .string ⟨#[102]⟩, .string ⟨#[]⟩, .int .u64 0, .slice none 0 0, .bool false, .string ⟨#[98]⟩, .string ⟨#[102]⟩, .string ⟨#[]⟩, .int .u64 0, .slice none 0 0, .bool false] 33)) (some ⟨w.heap.size, 0, none⟩) 2 2 [exC 97, exC 98] := by
  refine ⟨rfl, Nat.le_refl _, by decide, fun h => by simp at h, fun a ha i hi j v hv => ?_, fun c hc => ?_⟩
  · obtain rfl := Option.some.inj ha
    rw [Addr.add_lit, Nat.zero_add, cell_of_row _ w.heap.size (i * 6 + j) _ _ _ (heap_alloc_new w _)]
    have hj : j < 6 := by
      have := (List.getElem?_eq_some_iff.1 hv).1
      match i, hi with
      | 0, _ => exact this
      | 1, _ => exact this
    match i, hi, j, hj, hv with
    | 0, _, 0, _, hv | 0, _, 1, _, hv | 0, _, 2, _, hv | 0, _, 3, _, hv | 0, _, 4, _, hv | 0, _, 5, _, hv => exact hv
    | 1, _, 0, _, hv | 1, _, 1, _, hv | 1, _, 2, _, hv | 1, _, 3, _, hv | 1, _, 4, _, hv | 1, _, 5, _, hv => exact hv
  · simp only [List.mem_cons, List.not_mem_nil, or_false] at hc
    rcases hc with rfl | rfl <;> exact exC_ok _ _
def exL : List CV := [(exC 97).c, (exC 98).c]
theorem ex_of : ofK ⟨#[]⟩ ⟨#[]⟩ exL = 0 := by kernel_rfl
theorem ex_lay : layAll [] exL = exL := by kernel_rfl
theorem ex_split : splitK ⟨#[]⟩ ⟨#[]⟩ ⟨#[98]⟩ = 0 := by kernel_rfl
theorem ex_low : exL.filter (belR ⟨#[98]⟩) = [(exC 97).c] := by kernel_rfl
theorem ex_high : (exL.filter fun c => !(belR ⟨#[98]⟩ c)) = [(exC 98).c] := by kernel_rfl
theorem ex_rows : rowsR exL = [[97], [98]] := by kernel_rfl
set_option maxHeartbeats 4000000 in
set_option maxRecDepth 100000 in
theorem alive11 (w : World) (hTb : Tabs w) : Calls Tryz.prog 19 #[] w fun e w' => e = .returned (.bool true) ∧ Below w.heap.size w w' := by
  have t2 := hTb.two
  obtain ⟨W1, hW1⟩ : ∃ V, V = w.alloc (.cells #[.string ⟨#[97]⟩, .string ⟨#[102]⟩, .string ⟨#[]⟩, .int .u64 0, .slice none 0 0, .bool false, .string ⟨#[98]⟩, .string ⟨#[102]⟩, .string ⟨#[]⟩, .int .u64 0, .slice none 0 0, .bool false] 33) := ⟨_, rfl⟩
  have C1 : Below w.heap.size w W1 := by rw [hW1]; exact (Below.refl _ _).alloc (Nat.le_refl _) _
  have L1 : CL W1 (some ⟨w.heap.size, 0, none⟩) 2 2 [exC 97, exC 98] := by rw [hW1]; exact ex_cl w
  have CO := of_any10 W1 ⟨#[]⟩ ⟨#[]⟩ _ 2 2 _ (hTb.below C1 t2) (by decide) (by decide) L1 (by omega)
  rw [show [exC 97, exC 98].map CA.c = exL from rfl] at CO
  obtain ⟨hst, hlm, hnk⟩ := of_made ex_of (fun c hc => by
    unfold exL at hc
    simp only [List.mem_cons, List.not_mem_nil, or_false] at hc
    rcases hc with rfl | rfl <;> (show 0 < _; decide)) (fun c hc => by
    unfold exL at hc
    simp only [List.mem_cons, List.not_mem_nil, or_false] at hc
    rcases hc with rfl | rfl <;> exact fun x hx => by simp [exC, CA.c] at hx)
  rw [ex_lay] at hst hlm
  go_enter Tryz.func19, Tryz.ntmps19
  go_wp2_with fail
  rw [← hW1]
  clear hW1
  refine CO.mono ?_
  rintro e w2 (⟨-, p, hp, rfl, X2, C2⟩ | ⟨hne, -⟩)
  case inr => exact absurd ex_of hne
  rw [ex_lay] at X2
  have B2 := C1.trans (C2.mono C1.size)
  have CM := middle_any w2 p ⟨#[]⟩ ⟨#[]⟩ exL X2 hst.srt hst.good (by decide) (by decide) hst.rows (by decide)
  clear CO L1
  go_wp2_with fail
  refine CM.mono ?_
  rintro e w3 (⟨h, -⟩ | ⟨x, -, hx, rfl, C3⟩)
  · rw [ex_rows] at h; exact absurd h (by decide)
  rw [ex_rows] at hx
  obtain rfl : [98] = x := Option.some.inj (show some [98] = some x from hx)
  have B3 := B2.trans (C3.mono B2.size)
  have X3 := X2.below C3
  have CS := split_any w3 p ⟨#[]⟩ ⟨#[]⟩ ⟨#[98]⟩ exL (hTb.below B3 t2) X3 (hst.mono (by decide)) hlm hnk (by decide)
  rw [show encStr [98] = .string ⟨#[98]⟩ from rfl]
  clear CM X2 hx
  go_wp2_with fail
  refine CS.mono ?_
  rintro e w4 (⟨-, q1, q2, hq1, hq2, rfl, Y1, Y2, C4⟩ | ⟨hne, -⟩)
  case inr => exact absurd ex_split hne
  have B4 := B3.trans (C4.mono B3.size)
  have SL := (low_rows hst : Stand ⟨#[]⟩ ⟨#[98]⟩ _ _)
  have SH := (high_rows hst : Stand ⟨#[98]⟩ ⟨#[]⟩ _ _)
  rw [ex_low] at Y1 SL
  rw [ex_high] at Y2 SH
  have CE := cells_st w4 q1 ⟨#[]⟩ ⟨#[98]⟩ _ Y1 SL.srt SL.good (by decide) (by decide) SL.rows (by decide)
  clear CS
  go_wp2_with fail
  refine CE.mono ?_
  rintro e w5 ⟨ao, n, cap, l, rfl, L5, -, hl5, C5⟩
  have hn5 : n = 1 := by
    have := congrArg List.length hl5
    rw [List.length_map, L5.len] at this
    exact this
  subst hn5
  have B5 := B4.trans (C5.mono B4.size)
  have CE := cells_st w5 q2 ⟨#[98]⟩ ⟨#[]⟩ _ (Y2.below C5) SH.srt SH.good (by decide) (by decide) SH.rows (by decide)
  go_wp2_with fail
  refine CE.mono ?_
  rintro e w6 ⟨ao2, n2, cap2, l2, rfl, L6, -, hl6, C6⟩
  have hn6 : n2 = 1 := by
    have := congrArg List.length hl6
    rw [List.length_map, L6.len] at this
    exact this
  subst hn6
  go_wp2
  go_ret
  exact ⟨rfl, B5.trans (C6.mono B5.size)⟩
open Go.RowKit
set_option maxHeartbeats 4000000 in
set_option maxRecDepth 100000 in
theorem lsame_any (w : World) (p : Nat) (f t : ByteArray) (bo : Option Addr) (bm bc n : Nat) (ml : List CA) (cs : List CV) (hT : TB w p f t cs) (L : CL w bo bm bc ml) (hml : ml.map CA.c = cs) (hS : Stand f t n cs) (hn : n ≤ 1000) (hf : f.size ≤ 32) (ht : t.size ≤ 32) :
    Calls Tryz.prog 24 #[.pointer (some ⟨p, 0, none⟩), .agg #[.string f, .string t, .slice bo bm bc]] w fun x w' => x = .returned (.bool true) ∧ Below w.heap.size w w' := by
  obtain ⟨W1, hW1⟩ : ∃ V, V = w.alloc (.cells #[.string f, .string t, .slice bo bm bc] 39) := ⟨_, rfl⟩
  have C1 : Below w.heap.size w W1 := by rw [hW1]; exact (Below.refl _ _).alloc (Nat.le_refl _) _
  have A1 : Arr W1 w.heap.size 39 [.string f, .string t, .slice bo bm bc] := by rw [hW1]; exact heap_alloc_new w _
  have CB := tbounds_any W1 p f t cs (hT.below C1)
  have hlen := hS.len
  go_enter Tryz.func24, Tryz.ntmps24
  go_wp2_with fail
  rw [← hW1]
  clear hW1
  refine CB.mono ?_
  rintro x w2 ⟨rfl, C2⟩
  have B2 := C1.trans (C2.mono C1.size)
  have A2 := arr_below A1 C2
  have T2 := hT.below B2
  have L2 := L.below B2
  have c0 : w2.cell? ⟨w.heap.size, 0, none⟩ = some (.string f) := A2.cell 0
  have c1 : w2.cell? ⟨w.heap.size, 1, none⟩ = some (.string t) := A2.cell 1
  have c2 : w2.cell? ⟨w.heap.size, 2, none⟩ = some (.slice bo bm bc) := A2.cell 2
  have hff : (f.toList == f.toList) = true := by simp
  have htt : (t.toList == t.toList) = true := by simp
  have HCE : Hid (∀ V, Below w2.heap.size w2 V → Calls Tryz.prog 17 #[.pointer (some ⟨p, 0, none⟩)] V fun e w' => ∃ co cn cc cl, e = .returned (.slice co cn cc) ∧ (CL w' co cn cc cl ∧ cl.map CA.c = cs) ∧ Below V.heap.size V w') := fun V hV => by
    refine (cells_st V p f t cs (T2.below hV) hS.srt hS.good hf ht hS.rows (by omega)).mono ?_
    rintro e w' ⟨co, cn, cc, cl, rfl, h1, -, h2, B⟩
    exact ⟨co, cn, cc, cl, rfl, ⟨h1, h2⟩, B⟩
  have HSM : Hid (∀ V, Below w2.heap.size w2 V → ∀ co cn cc cl, CL V co cn cc cl → cl.map CA.c = cs → Calls Tryz.prog 16 #[.slice co cn cc, .slice bo bm bc] V fun e w' => e = .returned (.bool true) ∧ Below V.heap.size V w') := fun V hV co cn cc cl h1 h2 => by
    have hn2 : bm = cn := CL.len_of h1 L2 (h2.trans hml.symm)
    subst hn2
    have hb : bm ≤ 1000 := by
      have h3 := congrArg List.length h2
      rw [List.length_map, h1.len] at h3
      omega
    exact same10_any V co bo bm cc bc cl ml h1 (L2.below hV) (h2.trans hml.symm) hb
  clear CB A1 hS hml L L2 hT T2
  go_wp2
  have zHS : Hid (∀ V, Below w2.heap.size w2 V → V.cell? ⟨w.heap.size, 0, none⟩ = some (.string f) ∧ V.cell? ⟨w.heap.size, 1, none⟩ = some (.string t) ∧ V.cell? ⟨w.heap.size, 2, none⟩ = some (.slice bo bm bc)) := fun V hV => ⟨(hV.cell (World.block_lt_of_cell? _ _ c0)).trans c0, (hV.cell (World.block_lt_of_cell? _ _ c1)).trans c1, (hV.cell (World.block_lt_of_cell? _ _ c2)).trans c2⟩
  have zE0 : Below w2.heap.size w2 w2.drew := (Below.refl _ _).drew
  refine wp_region_noPanic ?_
  refine wp_region_held_drew (S := fun V => V.cell? ⟨w.heap.size, 0, none⟩ = some (.string f) ∧ V.cell? ⟨w.heap.size, 1, none⟩ = some (.string t) ∧ V.cell? ⟨w.heap.size, 2, none⟩ = some (.slice bo bm bc)) (by kernel_rfl) (zHS.out _ zE0) (fun zH0 => ?_)
  obtain ⟨zv0, hv0⟩ : ∃ v, v = w2.drew := ⟨_, rfl⟩
  rw [← hv0] at zH0 zE0 ⊢
  clear hv0
  refine hr_take_w 0 (some 12) (.pointer (some ⟨p, 0, none⟩)) rfl rfl (by kernel_rfl) (by kernel_rfl) (by kernel_rfl) rfl (fun W hW => by obtain ⟨h0, h1, h2⟩ := hW; go_simp) zH0 ?_
  simp only [FL]
  refine hr_take_w 1 (some 13) (.bool true) rfl rfl (by kernel_rfl) (by kernel_rfl) (by kernel_rfl) rfl (fun W hW => by obtain ⟨h0, h1, h2⟩ := hW; go_simp) zH0 ?_
  simp only [FL]
  refine hr_take_w 2 (some 14) (.bool true) rfl rfl (by kernel_rfl) (by kernel_rfl) (by kernel_rfl) rfl (fun W hW => by obtain ⟨h0, h1, h2⟩ := hW; go_simp) zH0 ?_
  simp only [FL]
  refine hr_take_w 3 (some 15) (.string f) rfl rfl (by kernel_rfl) (by kernel_rfl) (by kernel_rfl) rfl (fun W hW => by obtain ⟨h0, h1, h2⟩ := hW; go_simp) zH0 ?_
  simp only [FL]
  refine hr_take_w 4 (some 16) (.pointer (some ⟨w.heap.size, 0, none⟩)) rfl rfl (by kernel_rfl) (by kernel_rfl) (by kernel_rfl) rfl (fun W hW => by obtain ⟨h0, h1, h2⟩ := hW; go_simp) zH0 ?_
  simp only [FL]
  refine hr_take_w 5 (some 17) (.string f) rfl rfl (by kernel_rfl) (by kernel_rfl) (by kernel_rfl) rfl (fun W hW => by obtain ⟨h0, h1, h2⟩ := hW; go_simp) zH0 ?_
  simp only [FL]
  refine hr_take_w 6 (some 18) (.bool true) rfl rfl (by kernel_rfl) (by kernel_rfl) (by kernel_rfl) rfl (fun W hW => by obtain ⟨h0, h1, h2⟩ := hW; go_simp) zH0 ?_
  simp only [FL]
  refine hr_take_w 7 (some 19) (.bool true) rfl rfl (by kernel_rfl) (by kernel_rfl) (by kernel_rfl) rfl (fun W hW => by obtain ⟨h0, h1, h2⟩ := hW; go_simp) zH0 ?_
  simp only [FL]
  refine hr_take_w 8 (some 20) (.bool true) rfl rfl (by kernel_rfl) (by kernel_rfl) (by kernel_rfl) rfl (fun W hW => by obtain ⟨h0, h1, h2⟩ := hW; go_simp) zH0 ?_
  simp only [FL]
  refine hr_take_w 9 (some 21) (.string t) rfl rfl (by kernel_rfl) (by kernel_rfl) (by kernel_rfl) rfl (fun W hW => by obtain ⟨h0, h1, h2⟩ := hW; go_simp) zH0 ?_
  simp only [FL]
  refine hr_take_w 10 (some 22) (.pointer (some ⟨w.heap.size, 1, none⟩)) rfl rfl (by kernel_rfl) (by kernel_rfl) (by kernel_rfl) rfl (fun W hW => by obtain ⟨h0, h1, h2⟩ := hW; go_simp) zH0 ?_
  simp only [FL]
  refine hr_take_w 11 (some 23) (.string t) rfl rfl (by kernel_rfl) (by kernel_rfl) (by kernel_rfl) rfl (fun W hW => by obtain ⟨h0, h1, h2⟩ := hW; go_simp) zH0 ?_
  simp only [FL]
  refine hr_take_w 12 (some 24) (.bool true) rfl rfl (by kernel_rfl) (by kernel_rfl) (by kernel_rfl) rfl (fun W hW => by obtain ⟨h0, h1, h2⟩ := hW; go_simp) zH0 ?_
  simp only [FL]
  refine hr_take_w 13 (some 25) (.bool true) rfl rfl (by kernel_rfl) (by kernel_rfl) (by kernel_rfl) rfl (fun W hW => by obtain ⟨h0, h1, h2⟩ := hW; go_simp) zH0 ?_
  simp only [FL]
  refine hr_take_w 14 (some 26) (.bool true) rfl rfl (by kernel_rfl) (by kernel_rfl) (by kernel_rfl) rfl (fun W hW => by obtain ⟨h0, h1, h2⟩ := hW; go_simp) zH0 ?_
  simp only [FL]
  refine hr_take_w 15 (some 27) (.pointer (some ⟨p, 0, none⟩)) rfl rfl (by kernel_rfl) (by kernel_rfl) (by kernel_rfl) rfl (fun W hW => by obtain ⟨h0, h1, h2⟩ := hW; go_simp) zH0 ?_
  simp only [FL]
  refine hr_take_w 17 (some 29) (.pointer (some ⟨w.heap.size, 2, none⟩)) rfl rfl (by kernel_rfl) (by kernel_rfl) (by kernel_rfl) rfl (fun W hW => by obtain ⟨h0, h1, h2⟩ := hW; go_simp) zH0 ?_
  simp only [FL]
  refine hr_take_w 18 (some 30) (.slice bo bm bc) rfl rfl (by kernel_rfl) (by kernel_rfl) (by kernel_rfl) rfl (fun W hW => by obtain ⟨h0, h1, h2⟩ := hW; go_simp) zH0 ?_
  simp only [FL]
  refine hr_call_w 16 (some 28) 17 #[.pointer (some ⟨p, 0, none⟩)] rfl rfl (by kernel_rfl) rfl (by go_simp) (fun v w' => ∃ co cn cc cl, v = .slice co cn cc ∧ (CL w' co cn cc cl ∧ cl.map CA.c = cs) ∧ Below zv0.heap.size zv0 w') ((HCE.out zv0 zE0).mono (by
    rintro e w' ⟨co, cn, cc, cl, rfl, F, C⟩
    exact ⟨_, rfl, co, cn, cc, cl, rfl, F, C⟩)) ?_
  rintro v zv1 ⟨co, cn, cc, cl, rfl, zF0, zC0⟩
  have zE1 := zE0.trans (zC0.mono zE0.size)
  have zH1 := zHS.out zv1 zE1
  refine ⟨zH1, ?_⟩
  simp only [FL]
  obtain ⟨LC, hcl⟩ := zF0
  refine hr_call_w 19 (some 31) 16 #[.slice co cn cc, .slice bo bm bc] rfl rfl (by kernel_rfl) rfl (by go_simp) (fun v w' => v = .bool true ∧ Below zv1.heap.size zv1 w') ((HSM.out zv1 zE1 co cn cc cl LC hcl).mono (by
    rintro e w' ⟨rfl, C⟩
    exact ⟨_, rfl, rfl, C⟩)) ?_
  rintro v zv2 ⟨rfl, zC1⟩
  have zE2 := zE1.trans (zC1.mono zE1.size)
  have zH2 := zHS.out zv2 zE2
  refine ⟨zH2, ?_⟩
  simp only [FL]
  refine hr_take_w 20 (some 32) (.bool true) rfl rfl (by kernel_rfl) (by kernel_rfl) (by kernel_rfl) rfl (fun W hW => by obtain ⟨h0, h1, h2⟩ := hW; go_simp) zH2 ?_
  simp only [FL]
  refine hr_take_w 21 (some 4) (.bool true) rfl rfl (by kernel_rfl) (by kernel_rfl) (by kernel_rfl) rfl (fun W hW => by obtain ⟨h0, h1, h2⟩ := hW; go_simp) zH2 ?_
  simp only [FL]
  refine wpAnyH_done (by kernel_rfl) ?_ _
  refine NoPanic.normal ?_
  go_wp2
  go_ret
  exact ⟨rfl, B2.trans (zE2.mono B2.size)⟩
open Go.RowKit
structure Two (w0 W : World) (base : Nat) (v u : Value) (l m : List CA) : Prop where
  one : CNew w0 W base v l
  two : CNew w0 W base u m
  ap : ∀ g, v.ownBlock = some g → u.ownBlock ≠ some g
theorem Two.nil (w0 W : World) (base : Nat) : Two w0 W base (.slice none 0 0) (.slice none 0 0) [] [] := ⟨CNew.nil _ _ _, CNew.nil _ _ _, fun g h => by simp [Value.ownBlock] at h⟩
theorem Two.sym {w0 W : World} {base : Nat} {v u : Value} {l m : List CA} (h : Two w0 W base v u l m) : Two w0 W base u v m l := ⟨h.two, h.one, fun g h1 h2 => h.ap g h2 h1⟩
theorem Two.below {w0 W W' : World} {base : Nat} {v u : Value} {l m : List CA} (h : Two w0 W base v u l m) (hb : Below W.heap.size W W') : Two w0 W' base v u l m := ⟨h.one.below hb, h.two.below hb, h.ap⟩
theorem CNew.wr {w0 W W' : World} {base q : Nat} {v : Value} {l : List CA} (h : CNew w0 W base v l) (k : Wr q W W') (hq : q < base) : CNew w0 W' base v l :=
  ⟨own_kept h.row (fun g hg => k.block g (h.row.lt g hg).2 (by have := (h.row.lt g hg).1; omega)), h.ok⟩
theorem Two.wr {w0 W W' : World} {base q : Nat} {v u : Value} {l m : List CA} (h : Two w0 W base v u l m) (k : Wr q W W') (hq : q < base) : Two w0 W' base v u l m := ⟨h.one.wr k hq, h.two.wr k hq, h.ap⟩
theorem Two.app {w0 W : World} {base : Nat} {v u : Value} {l m : List CA} (ty : TypeId) (h : Two w0 W base v u l m) {g cp : Nat} {c : CA} (hc : Arr W g 33 [.string c.row, .string c.fam, .string c.qual, .int .u64 c.time, .slice c.va.ao c.va.n c.va.cap, .bool c.gone]) (hok : c.ok w0) (hn : l.length ≤ 1000000) (hbase : base ≤ W.heap.size) :
    ∃ ro rn rc W', (Builtin.append_ #[31, 31] ty #[v, .slice (some ⟨g, 0, none⟩) 1 cp]).run Tryz.prog W = .ok (.slice ro rn rc) W' ∧ Two w0 W' base (.slice ro rn rc) u (l ++ [c]) m ∧ Below base W W' := by
  obtain ⟨i0, hi, hz0, hz1, hz2⟩ := info_parts cellInfo
  obtain ⟨v', w', h1, h2, h3, h4⟩ := run_append_own2 (P := Tryz.prog) W base 31 ty 33 i0 _ 6 88 Tryz.underlying31 hi hz0 hz1 hz2 rfl (by decide) v l.length (cellsC l) h.one.row ⟨g, 0, none⟩ 1 cp c.cells rfl
    (fun j u hu => by
      rw [Addr.add_lit, Nat.zero_add, Arr.cell hc]
      simpa [CA.cells] using hu) (c_one c) (by unfold maxLen; omega) (by omega) hbase
  obtain ⟨ro, rn, rc, rfl⟩ := own_slice3 h2
  refine ⟨ro, rn, rc, w', h1, ⟨⟨?_, fun d hd => ?_⟩, ⟨own_kept h.two.row (fun x hx => World.grownBy.block h3 x (h.two.row.lt x hx).2 (fun e => h.ap x e.symm hx)), h.two.ok⟩, fun x hx hu => ?_⟩, (Below.refl _ W).grown h3 hbase (fun k hk => (h.one.row.lt k hk).1)⟩
  · have e : cellsC (l ++ [c]) = cellsC l ++ c.cells := by simp [cellsC]
    rw [e, List.length_append]
    exact h2
  · rcases List.mem_append.1 hd with hd | hd
    · exact h.one.ok d hd
    · rw [List.mem_singleton.1 hd]; exact hok
  · rcases h4 x hx with h5 | h5
    · exact h.ap x h5 hu
    · exact absurd (h.two.row.lt x hu).2 (by omega)
end Go.Proofs.YtlljmhcgjkolpaaGreatDoor
