/-
  The reference's Cell.
-/
import Derived.Test.YtnicnfjickknjaaGreatDoorTabletItemsZ3
import Derived.Test.YtnicnfjickknjaaGreatDoorTabletItemsZ10
namespace Go.Proofs.YtnicnfjickknjaaGreatDoor
open Go.RowKit

def RCellPost (w : World) (x : It) (e : Ending) (w' : World) : Prop := ∃ (c : CA) (kd : Int), e = .returned (.tuple #[c.val, .int .i64 kd]) ∧ CellAns x c.c kd ∧ c.ok w' ∧ Below w.heap.size w w'

set_option maxHeartbeats 4000000 in
set_option maxRecDepth 100000 in
theorem rcell10_any (w : World) (x : It) (ko vo : Option Addr) (kn kc vn vc : Nat) (hk : Sl w ko kn kc x.k) (hv : Sl w vo vn vc x.v) (hkn : kn ≤ 1000000) (hvn : vn ≤ 1000000) :
    Calls Tryz.prog 13 #[.agg #[.slice ko kn kc, .slice vo vn vc]] w (RCellPost w x) := by
  obtain ⟨W1, hW1⟩ : ∃ V, V = w.alloc (.cells #[.slice ko kn kc, .slice vo vn vc] 29) := ⟨_, rfl⟩
  obtain ⟨W2, hW2⟩ : ∃ V, V = W1.alloc (.cells #[.string ⟨#[]⟩, .string ⟨#[]⟩, .string ⟨#[]⟩, .int .u64 0, .slice none 0 0, .bool false] 27) := ⟨_, rfl⟩
  have B1 : Below w.heap.size w W1 := by rw [hW1]; exact (Below.refl _ _).alloc (Nat.le_refl _) _
  have C2 : Below W1.heap.size W1 W2 := by rw [hW2]; exact (Below.refl _ _).alloc (Nat.le_refl _) _
  have B2 := B1.trans (C2.mono B1.size)
  have s1 : W1.heap.size = w.heap.size + 1 := by rw [hW1]; exact Array.size_push ..
  have A1' : Arr W1 w.heap.size 29 [.slice ko kn kc, .slice vo vn vc] := by rw [hW1]; exact heap_alloc_new w _
  have I2 := arr_below A1' C2
  have R2 : Arr W2 (w.heap.size + 1) 27 [.string ⟨#[]⟩, .string ⟨#[]⟩, .string ⟨#[]⟩, .int .u64 0, .slice none 0 0, .bool false] := by rw [hW2, ← s1]; exact heap_alloc_new W1 _
  have CR := rread_any W2 ko kn kc x.k (hk.below B2) hkn
  clear A1' s1 C2 B1
  go_enter Tryz.func13, Tryz.ntmps13
  go_wp2_with fail
  rw [← hW1, ← hW2]
  clear hW1 hW2
  refine CR.mono ?_
  rintro e w3 ⟨RP, C3⟩
  have B3 := B2.trans (C3.mono B2.size)
  have I3 := arr_below I2 C3
  have R3 := arr_below R2 C3
  have lt3 := R3.lt
  clear CR I2 R2
  cases hrd : readL x.k with
  | none =>
    rw [hrd] at RP
    obtain rfl : e = .returned (.tuple #[zeroK.val, .int .i64 5]) := RP
    unfold KA.val zeroK
    have R4 := R3
    have r0 : w3.cell? ⟨w.heap.size + 1, 0, none⟩ = some (.string ⟨#[]⟩) := R4.cell 0
    have f0 := R4.free 0
    have r1 : w3.cell? ⟨w.heap.size + 1, 1, none⟩ = some (.string ⟨#[]⟩) := R4.cell 1
    have f1 := R4.free 1
    have r2 : w3.cell? ⟨w.heap.size + 1, 2, none⟩ = some (.string ⟨#[]⟩) := R4.cell 2
    have f2 := R4.free 2
    have r3 : w3.cell? ⟨w.heap.size + 1, 3, none⟩ = some (.int .u64 0) := R4.cell 3
    have f3 := R4.free 3
    have r4 : w3.cell? ⟨w.heap.size + 1, 4, none⟩ = some (.slice none 0 0) := R4.cell 4
    have f4 := R4.free 4
    have r5 : w3.cell? ⟨w.heap.size + 1, 5, none⟩ = some (.bool false) := R4.cell 5
    have f5 := R4.free 5
    have HRD : Hid (readL x.k = none) := hrd
    clear hrd
    go_wp2
    exact bodyPost_ret (v := .tuple #[.agg #[.string ⟨#[]⟩, .string ⟨#[]⟩, .string ⟨#[]⟩, .int .u64 0, .slice none 0 0, .bool false], .int .i64 5]) (by simp [results, Tryz.results13, go_sem, r0, r1, r2, r3, r4, r5, lt3]) rfl ⟨⟨⟨#[]⟩, ⟨#[]⟩, ⟨#[]⟩, 0, ⟨none, 0, 0, []⟩, false⟩, 5, rfl, .inl ⟨HRD.out, rfl, rfl⟩, ⟨Nat.zero_le _, Nat.zero_le _, Nat.zero_le _, by decide, Sl.nothing _⟩, Wr.below B3 ((((((((Wr.refl _ _).set 0 _).set 1 _).set 2 _).set 3 _).set 4 _).set 5 _).alloc _) B3.size (Nat.le_succ _)⟩
  | some kv =>
    rw [hrd] at RP
    obtain ⟨k, rfl, hkv, hko⟩ : ∃ k : KA, e = .returned (.tuple #[k.val, .int .i64 0]) ∧ k.kv = kv ∧ k.ok := RP
    have HRD : Hid (readL x.k = some k.kv) := by show _ = _; rw [hrd, hkv]
    clear hrd hkv
    unfold KA.val
    obtain ⟨w4, hw4⟩ : ∃ V, V = (w3.alloc (.cells #[.string k.row, .string k.fam, .string k.qual, .int .u64 k.time] 24)) := ⟨_, rfl⟩
    have C4 : Below w3.heap.size w3 w4 := by rw [hw4]; exact (Below.refl _ _).alloc (Nat.le_refl _) _
    have B4 := B3.trans (C4.mono B3.size)
    have I4 := arr_below I3 C4
    have R4 := arr_below R3 C4
    have K4 : Arr w4 w3.heap.size 24 [.string k.row, .string k.fam, .string k.qual, .int .u64 k.time] := by rw [hw4]; exact heap_alloc_new w3 _
    have hv4 := hv.below B4
    have j1 : (w3.alloc (.cells #[.string k.row, .string k.fam, .string k.qual, .int .u64 k.time] 24)).cell? ⟨w.heap.size, 1, none⟩ = some (.slice vo vn vc) := by rw [← hw4]; exact I4.cell 1
    have hvl0 := hv.len
    cases hxv : x.v with
    | nil =>
      have HN1 : Hid (x.v ≠ [1]) := by show _ ≠ _; rw [hxv]; simp
      have HBF : Hid (isValB x.v = false) := by show _ = _; rw [hxv]; rfl
      obtain rfl : vn = 0 := by rw [← hvl0, hxv]; rfl
      clear hxv
      have r0 : w3.cell? ⟨w.heap.size + 1, 0, none⟩ = some (.string ⟨#[]⟩) := R3.cell 0
      have f0 := R3.free 0
      have r1 : w3.cell? ⟨w.heap.size + 1, 1, none⟩ = some (.string ⟨#[]⟩) := R3.cell 1
      have f1 := R3.free 1
      have r2 : w3.cell? ⟨w.heap.size + 1, 2, none⟩ = some (.string ⟨#[]⟩) := R3.cell 2
      have f2 := R3.free 2
      have r3 : w3.cell? ⟨w.heap.size + 1, 3, none⟩ = some (.int .u64 0) := R3.cell 3
      have f3 := R3.free 3
      have r4 : w3.cell? ⟨w.heap.size + 1, 4, none⟩ = some (.slice none 0 0) := R3.cell 4
      have f4 := R3.free 4
      have r5 : w3.cell? ⟨w.heap.size + 1, 5, none⟩ = some (.bool false) := R3.cell 5
      have f5 := R3.free 5
      go_wp2
      exact bodyPost_ret (v := .tuple #[.agg #[.string ⟨#[]⟩, .string ⟨#[]⟩, .string ⟨#[]⟩, .int .u64 0, .slice none 0 0, .bool false], .int .i64 3]) (by simp [results, Tryz.results13, go_sem, r0, r1, r2, r3, r4, r5, lt3]) rfl ⟨⟨⟨#[]⟩, ⟨#[]⟩, ⟨#[]⟩, 0, ⟨none, 0, 0, []⟩, false⟩, 3, rfl, .inr (.inr ⟨by rw [HRD.out]; simp, HN1.out, HBF.out, rfl, rfl⟩), ⟨Nat.zero_le _, Nat.zero_le _, Nat.zero_le _, by decide, Sl.nothing _⟩, Wr.below B3 ((((((((Wr.refl _ _).set 0 _).set 1 _).set 2 _).set 3 _).set 4 _).set 5 _).alloc _) B3.size (Nat.le_succ _)⟩
    | cons b v =>
      have HXV : Hid (x.v = b :: v) := hxv
      have hv1 : 1 ≤ vn := by rw [← hvl0, hxv]; simp
      have hvlen : vn = v.length + 1 := by rw [← hvl0, hxv]; simp
      obtain ⟨vb, vf, rfl, hcv⟩ := hv4.at (by omega)
      have cb := hcv 0 (by omega)
      rw [Nat.add_zero, hxv, show (b :: v).getD 0 0 = b from rfl] at cb
      have jb : (w3.alloc (.cells #[.string k.row, .string k.fam, .string k.qual, .int .u64 k.time] 24)).cell? ⟨vb, vf, none⟩ = some (.int .u8 b) := by rw [← hw4]; exact cb
      have hvnw : IntKind.i64.wrap ((vn : Int) - 1) = (vn : Int) - 1 := by simp [IntKind.wrap, IntKind.bits, IntKind.signed]; omega
      have hnl : ¬ (vn : Int) < 1 := by omega
      have hn0 : (0 : Int) < (vn : Int) := by omega
      have i1 : w4.cell? ⟨w.heap.size, 1, none⟩ = some (.slice (some ⟨vb, vf, none⟩) vn vc) := I4.cell 1
      have q0 : w4.cell? ⟨w3.heap.size, 0, none⟩ = some (.string k.row) := K4.cell 0
      have q1 : w4.cell? ⟨w3.heap.size, 1, none⟩ = some (.string k.fam) := K4.cell 1
      have q2 : w4.cell? ⟨w3.heap.size, 2, none⟩ = some (.string k.qual) := K4.cell 2
      have q3 : w4.cell? ⟨w3.heap.size, 3, none⟩ = some (.int .u64 k.time) := K4.cell 3
      clear hcv cb hxv
      by_cases gn : vn = 1 ∧ b = 1
      · obtain ⟨rfl, rfl⟩ := gn
        have HX : Hid (x.v = [1]) := by
          show _ = _
          rw [HXV.out, List.eq_nil_of_length_eq_zero (show v.length = 0 by omega)]
        clear hvnw hvlen hnl hn0 hv1 hvl0
        have r0 : w3.cell? ⟨w.heap.size + 1, 0, none⟩ = some (.string ⟨#[]⟩) := R3.cell 0
        have f0 := R3.free 0
        have r1 : w3.cell? ⟨w.heap.size + 1, 1, none⟩ = some (.string ⟨#[]⟩) := R3.cell 1
        have f1 := R3.free 1
        have r2 : w3.cell? ⟨w.heap.size + 1, 2, none⟩ = some (.string ⟨#[]⟩) := R3.cell 2
        have f2 := R3.free 2
        have r3 : w3.cell? ⟨w.heap.size + 1, 3, none⟩ = some (.int .u64 0) := R3.cell 3
        have f3 := R3.free 3
        have r4 : w3.cell? ⟨w.heap.size + 1, 4, none⟩ = some (.slice none 0 0) := R3.cell 4
        have f4 := R3.free 4
        have r5 : w3.cell? ⟨w.heap.size + 1, 5, none⟩ = some (.bool false) := R3.cell 5
        have f5 := R3.free 5
        go_wp2
        exact bodyPost_ret (v := .tuple #[.agg #[.string k.row, .string k.fam, .string k.qual, .int .u64 k.time, .slice none 0 0, .bool true], .int .i64 0]) (by simp [results, Tryz.results13, go_sem, r0, r1, r2, r3, r4, r5, lt3]) rfl ⟨⟨k.row, k.fam, k.qual, k.time, ⟨none, 0, 0, []⟩, true⟩, 0, rfl, .inr (.inl ⟨HRD.out, hko.time, rfl, .inl ⟨HX.out, rfl, rfl⟩⟩), ⟨hko.row, hko.fam, hko.qual, hko.time, Sl.nothing _⟩, Wr.below B3 ((((((((Wr.refl _ _).set 0 _).set 1 _).set 2 _).set 3 _).set 4 _).set 5 _).alloc _) B3.size (Nat.le_succ _)⟩
      have HN1 : Hid (x.v ≠ [1]) := fun e => by
        rw [HXV.out] at e
        simp only [List.cons.injEq] at e
        exact gn ⟨by rw [hvlen, e.2]; rfl, e.1⟩
      have HT1 : Hid ((((vn : Int) == 1) = true ∧ (b == 1) = false) ∨ ((vn : Int) == 1) = false) := by
        by_cases h1 : vn = 1
        · exact .inl ⟨by simp [h1], by simp; exact fun h => gn ⟨h1, h⟩⟩
        · exact .inr (by simp; omega)
      clear gn
      by_cases e0 : b = 0
      · subst e0
        have HY : Hid (x.v = 0 :: v) := HXV.out
        by_cases hvl : v.length ≤ 256
        · have hlg : ¬ (256 : Int) < (vn : Int) - 1 := by omega
          rcases HT1.out with ⟨t1, t2⟩ | t1
          · clear hvlen
            have SS := hv4.cut 1 hv1
            rw [HY.out, show (0 :: v).drop 1 = v from rfl] at SS
            obtain ⟨so, hso⟩ : ∃ so, so = some (if vc = 1 then (⟨vb, vf, none⟩ : Addr) else (⟨vb, vf, none⟩ : Addr).add 1) := ⟨_, rfl⟩
            have HSL : Hid (∀ W, (Instr.sliceAt 25 (.slice (some ⟨vb, vf, none⟩) vn vc) (some (.int .i64 1)) none none).run Tryz.prog W = .ok (.slice so (vn - 1) (vc - 1)) W) := fun W => by rw [hso]; exact run_tail1 hv1
            rw [← hso] at SS
            obtain ⟨sc, hsc⟩ : ∃ sc, sc = vc - 1 := ⟨_, rfl⟩
            rw [← hsc] at SS HSL
            clear hso hsc
            go_wp2_with fail
            rw [← hw4]
            have zHS : Hid (∀ V, Below w4.heap.size w4 V → V.cell? ⟨w.heap.size, 1, none⟩ = some (.slice (some ⟨vb, vf, none⟩) vn vc) ∧ V.cell? ⟨w3.heap.size, 0, none⟩ = some (.string k.row) ∧ V.cell? ⟨w3.heap.size, 1, none⟩ = some (.string k.fam) ∧ V.cell? ⟨w3.heap.size, 2, none⟩ = some (.string k.qual) ∧ V.cell? ⟨w3.heap.size, 3, none⟩ = some (.int .u64 k.time)) := fun V hV => ⟨(hV.cell (World.block_lt_of_cell? _ _ i1)).trans i1, (hV.cell (World.block_lt_of_cell? _ _ q0)).trans q0, (hV.cell (World.block_lt_of_cell? _ _ q1)).trans q1, (hV.cell (World.block_lt_of_cell? _ _ q2)).trans q2, (hV.cell (World.block_lt_of_cell? _ _ q3)).trans q3⟩
            have zE0 : Below w4.heap.size w4 w4.drew := (Below.refl _ _).drew
            refine wp_region_noPanic ?_
            refine wp_region_held_drew (S := fun V => V.cell? ⟨w.heap.size, 1, none⟩ = some (.slice (some ⟨vb, vf, none⟩) vn vc) ∧ V.cell? ⟨w3.heap.size, 0, none⟩ = some (.string k.row) ∧ V.cell? ⟨w3.heap.size, 1, none⟩ = some (.string k.fam) ∧ V.cell? ⟨w3.heap.size, 2, none⟩ = some (.string k.qual) ∧ V.cell? ⟨w3.heap.size, 3, none⟩ = some (.int .u64 k.time)) (by kernel_rfl) (zHS.out _ zE0) (fun zH0 => ?_)
            obtain ⟨zv0, hv0⟩ : ∃ v, v = w4.drew := ⟨_, rfl⟩
            rw [← hv0] at zH0 zE0 ⊢
            clear hv0
            refine hr_take_w 0 (some 48) (.agg #[.string k.row, .string k.fam, .string k.qual, .int .u64 k.time]) rfl rfl (by kernel_rfl) (by kernel_rfl) (by kernel_rfl) rfl (fun W hW => by obtain ⟨h0, h1, h2, h3, h4⟩ := hW; go_simp) zH0 ?_
            simp only [Act.put, List.setIfInBounds_toArray, List.set_cons_zero, List.set_cons_succ]
            refine hr_take_w 1 (some 49) (.pointer (some ⟨w.heap.size, 1, none⟩)) rfl rfl (by kernel_rfl) (by kernel_rfl) (by kernel_rfl) rfl (fun W hW => by obtain ⟨h0, h1, h2, h3, h4⟩ := hW; go_simp) zH0 ?_
            simp only [Act.put, List.setIfInBounds_toArray, List.set_cons_zero, List.set_cons_succ]
            refine hr_take_w 2 (some 50) (.slice (some ⟨vb, vf, none⟩) vn vc) rfl rfl (by kernel_rfl) (by kernel_rfl) (by kernel_rfl) rfl (fun W hW => by obtain ⟨h0, h1, h2, h3, h4⟩ := hW; go_simp) zH0 ?_
            simp only [Act.put, List.setIfInBounds_toArray, List.set_cons_zero, List.set_cons_succ]
            refine hr_take_w 3 (some 51) (.slice so (vn - 1) sc) rfl rfl (by kernel_rfl) (by kernel_rfl) (by kernel_rfl) rfl (fun W hW => by obtain ⟨h0, h1, h2, h3, h4⟩ := hW; simp [execOp, Act.eval, HSL.out]) zH0 ?_
            simp only [Act.put, List.setIfInBounds_toArray, List.set_cons_zero, List.set_cons_succ]
            refine hr_take_w 4 (some 52) (.agg #[.string k.row, .string k.fam, .string k.qual, .int .u64 k.time, .slice so (vn - 1) sc, .bool false]) rfl rfl (by kernel_rfl) (by kernel_rfl) (by kernel_rfl) rfl (fun W hW => by obtain ⟨h0, h1, h2, h3, h4⟩ := hW; go_simp) zH0 ?_
            simp only [Act.put, List.setIfInBounds_toArray, List.set_cons_zero, List.set_cons_succ]
            have B6 := B4.trans (zE0.mono B4.size)
            have R6 := arr_below R4 zE0
            have r0 : zv0.cell? ⟨w.heap.size + 1, 0, none⟩ = some (.string ⟨#[]⟩) := R6.cell 0
            have f0 := R6.free 0
            have r1 : zv0.cell? ⟨w.heap.size + 1, 1, none⟩ = some (.string ⟨#[]⟩) := R6.cell 1
            have f1 := R6.free 1
            have r2 : zv0.cell? ⟨w.heap.size + 1, 2, none⟩ = some (.string ⟨#[]⟩) := R6.cell 2
            have f2 := R6.free 2
            have r3 : zv0.cell? ⟨w.heap.size + 1, 3, none⟩ = some (.int .u64 0) := R6.cell 3
            have f3 := R6.free 3
            have r4 : zv0.cell? ⟨w.heap.size + 1, 4, none⟩ = some (.slice none 0 0) := R6.cell 4
            have f4 := R6.free 4
            have r5 : zv0.cell? ⟨w.heap.size + 1, 5, none⟩ = some (.bool false) := R6.cell 5
            have f5 := R6.free 5
            have KW : Wr (w.heap.size + 1) zv0 ((((((zv0.setCell ⟨w.heap.size + 1, 0, none⟩ (.string k.row)).setCell ⟨w.heap.size + 1, 1, none⟩ (.string k.fam)).setCell ⟨w.heap.size + 1, 2, none⟩ (.string k.qual)).setCell ⟨w.heap.size + 1, 3, none⟩ (.int .u64 k.time)).setCell ⟨w.heap.size + 1, 4, none⟩ (.slice so (vn - 1) sc)).setCell ⟨w.heap.size + 1, 5, none⟩ (.bool false)) := ((((((((Wr.refl _ _).set 0 _).set 1 _).set 2 _).set 3 _).set 4 _).set 5 _))
            have zH1 : ((((((zv0.setCell ⟨w.heap.size + 1, 0, none⟩ (.string k.row)).setCell ⟨w.heap.size + 1, 1, none⟩ (.string k.fam)).setCell ⟨w.heap.size + 1, 2, none⟩ (.string k.qual)).setCell ⟨w.heap.size + 1, 3, none⟩ (.int .u64 k.time)).setCell ⟨w.heap.size + 1, 4, none⟩ (.slice so (vn - 1) sc)).setCell ⟨w.heap.size + 1, 5, none⟩ (.bool false)).cell? ⟨w.heap.size, 1, none⟩ = some (.slice (some ⟨vb, vf, none⟩) vn vc) ∧ ((((((zv0.setCell ⟨w.heap.size + 1, 0, none⟩ (.string k.row)).setCell ⟨w.heap.size + 1, 1, none⟩ (.string k.fam)).setCell ⟨w.heap.size + 1, 2, none⟩ (.string k.qual)).setCell ⟨w.heap.size + 1, 3, none⟩ (.int .u64 k.time)).setCell ⟨w.heap.size + 1, 4, none⟩ (.slice so (vn - 1) sc)).setCell ⟨w.heap.size + 1, 5, none⟩ (.bool false)).cell? ⟨w3.heap.size, 0, none⟩ = some (.string k.row) ∧ ((((((zv0.setCell ⟨w.heap.size + 1, 0, none⟩ (.string k.row)).setCell ⟨w.heap.size + 1, 1, none⟩ (.string k.fam)).setCell ⟨w.heap.size + 1, 2, none⟩ (.string k.qual)).setCell ⟨w.heap.size + 1, 3, none⟩ (.int .u64 k.time)).setCell ⟨w.heap.size + 1, 4, none⟩ (.slice so (vn - 1) sc)).setCell ⟨w.heap.size + 1, 5, none⟩ (.bool false)).cell? ⟨w3.heap.size, 1, none⟩ = some (.string k.fam) ∧ ((((((zv0.setCell ⟨w.heap.size + 1, 0, none⟩ (.string k.row)).setCell ⟨w.heap.size + 1, 1, none⟩ (.string k.fam)).setCell ⟨w.heap.size + 1, 2, none⟩ (.string k.qual)).setCell ⟨w.heap.size + 1, 3, none⟩ (.int .u64 k.time)).setCell ⟨w.heap.size + 1, 4, none⟩ (.slice so (vn - 1) sc)).setCell ⟨w.heap.size + 1, 5, none⟩ (.bool false)).cell? ⟨w3.heap.size, 2, none⟩ = some (.string k.qual) ∧ ((((((zv0.setCell ⟨w.heap.size + 1, 0, none⟩ (.string k.row)).setCell ⟨w.heap.size + 1, 1, none⟩ (.string k.fam)).setCell ⟨w.heap.size + 1, 2, none⟩ (.string k.qual)).setCell ⟨w.heap.size + 1, 3, none⟩ (.int .u64 k.time)).setCell ⟨w.heap.size + 1, 4, none⟩ (.slice so (vn - 1) sc)).setCell ⟨w.heap.size + 1, 5, none⟩ (.bool false)).cell? ⟨w3.heap.size, 3, none⟩ = some (.int .u64 k.time) := ⟨KW.cell zH0.1 (by show w.heap.size ≠ _; omega), KW.cell zH0.2.1 (by show w3.heap.size ≠ _; omega), KW.cell zH0.2.2.1 (by show w3.heap.size ≠ _; omega), KW.cell zH0.2.2.2.1 (by show w3.heap.size ≠ _; omega), KW.cell zH0.2.2.2.2 (by show w3.heap.size ≠ _; omega)⟩
            refine hr_skip 5 none (w' := ((((((zv0.setCell ⟨w.heap.size + 1, 0, none⟩ (.string k.row)).setCell ⟨w.heap.size + 1, 1, none⟩ (.string k.fam)).setCell ⟨w.heap.size + 1, 2, none⟩ (.string k.qual)).setCell ⟨w.heap.size + 1, 3, none⟩ (.int .u64 k.time)).setCell ⟨w.heap.size + 1, 4, none⟩ (.slice so (vn - 1) sc)).setCell ⟨w.heap.size + 1, 5, none⟩ (.bool false))) rfl rfl (by kernel_rfl) rfl (by go_simp) zH1 ?_
            simp only [Act.put]
            refine hr_take_w 6 (some 3) (.int .i64 0) rfl rfl (by kernel_rfl) (by kernel_rfl) (by kernel_rfl) rfl (fun W hW => by obtain ⟨h0, h1, h2, h3, h4⟩ := hW; go_simp) zH1 ?_
            simp only [Act.put, List.setIfInBounds_toArray, List.set_cons_zero, List.set_cons_succ]
            refine wpAnyH_done (by kernel_rfl) ?_ _
            refine NoPanic.normal ?_
            have SY := (SS.below zE0).wr R6 (by simp) KW
            have BX := Wr.below B6 KW B6.size (Nat.le_succ _)
            go_wp2
            exact bodyPost_ret (v := .tuple #[.agg #[.string k.row, .string k.fam, .string k.qual, .int .u64 k.time, .slice so (vn - 1) sc, .bool false], .int .i64 0]) (by simp [results, Tryz.results13, go_sem, r0, r1, r2, r3, r4, r5]) rfl ⟨⟨k.row, k.fam, k.qual, k.time, ⟨so, vn - 1, sc, v⟩, false⟩, 0, rfl, .inr (.inl ⟨HRD.out, hko.time, rfl, .inr ⟨HY.out, hvl, rfl⟩⟩), ⟨hko.row, hko.fam, hko.qual, hko.time, SY⟩, BX⟩
          · clear hvlen
            have SS := hv4.cut 1 hv1
            rw [HY.out, show (0 :: v).drop 1 = v from rfl] at SS
            obtain ⟨so, hso⟩ : ∃ so, so = some (if vc = 1 then (⟨vb, vf, none⟩ : Addr) else (⟨vb, vf, none⟩ : Addr).add 1) := ⟨_, rfl⟩
            have HSL : Hid (∀ W, (Instr.sliceAt 25 (.slice (some ⟨vb, vf, none⟩) vn vc) (some (.int .i64 1)) none none).run Tryz.prog W = .ok (.slice so (vn - 1) (vc - 1)) W) := fun W => by rw [hso]; exact run_tail1 hv1
            rw [← hso] at SS
            obtain ⟨sc, hsc⟩ : ∃ sc, sc = vc - 1 := ⟨_, rfl⟩
            rw [← hsc] at SS HSL
            clear hso hsc
            go_wp2_with fail
            rw [← hw4]
            have zHS : Hid (∀ V, Below w4.heap.size w4 V → V.cell? ⟨w.heap.size, 1, none⟩ = some (.slice (some ⟨vb, vf, none⟩) vn vc) ∧ V.cell? ⟨w3.heap.size, 0, none⟩ = some (.string k.row) ∧ V.cell? ⟨w3.heap.size, 1, none⟩ = some (.string k.fam) ∧ V.cell? ⟨w3.heap.size, 2, none⟩ = some (.string k.qual) ∧ V.cell? ⟨w3.heap.size, 3, none⟩ = some (.int .u64 k.time)) := fun V hV => ⟨(hV.cell (World.block_lt_of_cell? _ _ i1)).trans i1, (hV.cell (World.block_lt_of_cell? _ _ q0)).trans q0, (hV.cell (World.block_lt_of_cell? _ _ q1)).trans q1, (hV.cell (World.block_lt_of_cell? _ _ q2)).trans q2, (hV.cell (World.block_lt_of_cell? _ _ q3)).trans q3⟩
            have zE0 : Below w4.heap.size w4 w4.drew := (Below.refl _ _).drew
            refine wp_region_noPanic ?_
            refine wp_region_held_drew (S := fun V => V.cell? ⟨w.heap.size, 1, none⟩ = some (.slice (some ⟨vb, vf, none⟩) vn vc) ∧ V.cell? ⟨w3.heap.size, 0, none⟩ = some (.string k.row) ∧ V.cell? ⟨w3.heap.size, 1, none⟩ = some (.string k.fam) ∧ V.cell? ⟨w3.heap.size, 2, none⟩ = some (.string k.qual) ∧ V.cell? ⟨w3.heap.size, 3, none⟩ = some (.int .u64 k.time)) (by kernel_rfl) (zHS.out _ zE0) (fun zH0 => ?_)
            obtain ⟨zv0, hv0⟩ : ∃ v, v = w4.drew := ⟨_, rfl⟩
            rw [← hv0] at zH0 zE0 ⊢
            clear hv0
            refine hr_take_w 0 (some 48) (.agg #[.string k.row, .string k.fam, .string k.qual, .int .u64 k.time]) rfl rfl (by kernel_rfl) (by kernel_rfl) (by kernel_rfl) rfl (fun W hW => by obtain ⟨h0, h1, h2, h3, h4⟩ := hW; go_simp) zH0 ?_
            simp only [Act.put, List.setIfInBounds_toArray, List.set_cons_zero, List.set_cons_succ]
            refine hr_take_w 1 (some 49) (.pointer (some ⟨w.heap.size, 1, none⟩)) rfl rfl (by kernel_rfl) (by kernel_rfl) (by kernel_rfl) rfl (fun W hW => by obtain ⟨h0, h1, h2, h3, h4⟩ := hW; go_simp) zH0 ?_
            simp only [Act.put, List.setIfInBounds_toArray, List.set_cons_zero, List.set_cons_succ]
            refine hr_take_w 2 (some 50) (.slice (some ⟨vb, vf, none⟩) vn vc) rfl rfl (by kernel_rfl) (by kernel_rfl) (by kernel_rfl) rfl (fun W hW => by obtain ⟨h0, h1, h2, h3, h4⟩ := hW; go_simp) zH0 ?_
            simp only [Act.put, List.setIfInBounds_toArray, List.set_cons_zero, List.set_cons_succ]
            refine hr_take_w 3 (some 51) (.slice so (vn - 1) sc) rfl rfl (by kernel_rfl) (by kernel_rfl) (by kernel_rfl) rfl (fun W hW => by obtain ⟨h0, h1, h2, h3, h4⟩ := hW; simp [execOp, Act.eval, HSL.out]) zH0 ?_
            simp only [Act.put, List.setIfInBounds_toArray, List.set_cons_zero, List.set_cons_succ]
            refine hr_take_w 4 (some 52) (.agg #[.string k.row, .string k.fam, .string k.qual, .int .u64 k.time, .slice so (vn - 1) sc, .bool false]) rfl rfl (by kernel_rfl) (by kernel_rfl) (by kernel_rfl) rfl (fun W hW => by obtain ⟨h0, h1, h2, h3, h4⟩ := hW; go_simp) zH0 ?_
            simp only [Act.put, List.setIfInBounds_toArray, List.set_cons_zero, List.set_cons_succ]
            have B6 := B4.trans (zE0.mono B4.size)
            have R6 := arr_below R4 zE0
            have r0 : zv0.cell? ⟨w.heap.size + 1, 0, none⟩ = some (.string ⟨#[]⟩) := R6.cell 0
            have f0 := R6.free 0
            have r1 : zv0.cell? ⟨w.heap.size + 1, 1, none⟩ = some (.string ⟨#[]⟩) := R6.cell 1
            have f1 := R6.free 1
            have r2 : zv0.cell? ⟨w.heap.size + 1, 2, none⟩ = some (.string ⟨#[]⟩) := R6.cell 2
            have f2 := R6.free 2
            have r3 : zv0.cell? ⟨w.heap.size + 1, 3, none⟩ = some (.int .u64 0) := R6.cell 3
            have f3 := R6.free 3
            have r4 : zv0.cell? ⟨w.heap.size + 1, 4, none⟩ = some (.slice none 0 0) := R6.cell 4
            have f4 := R6.free 4
            have r5 : zv0.cell? ⟨w.heap.size + 1, 5, none⟩ = some (.bool false) := R6.cell 5
            have f5 := R6.free 5
            have KW : Wr (w.heap.size + 1) zv0 ((((((zv0.setCell ⟨w.heap.size + 1, 0, none⟩ (.string k.row)).setCell ⟨w.heap.size + 1, 1, none⟩ (.string k.fam)).setCell ⟨w.heap.size + 1, 2, none⟩ (.string k.qual)).setCell ⟨w.heap.size + 1, 3, none⟩ (.int .u64 k.time)).setCell ⟨w.heap.size + 1, 4, none⟩ (.slice so (vn - 1) sc)).setCell ⟨w.heap.size + 1, 5, none⟩ (.bool false)) := ((((((((Wr.refl _ _).set 0 _).set 1 _).set 2 _).set 3 _).set 4 _).set 5 _))
            have zH1 : ((((((zv0.setCell ⟨w.heap.size + 1, 0, none⟩ (.string k.row)).setCell ⟨w.heap.size + 1, 1, none⟩ (.string k.fam)).setCell ⟨w.heap.size + 1, 2, none⟩ (.string k.qual)).setCell ⟨w.heap.size + 1, 3, none⟩ (.int .u64 k.time)).setCell ⟨w.heap.size + 1, 4, none⟩ (.slice so (vn - 1) sc)).setCell ⟨w.heap.size + 1, 5, none⟩ (.bool false)).cell? ⟨w.heap.size, 1, none⟩ = some (.slice (some ⟨vb, vf, none⟩) vn vc) ∧ ((((((zv0.setCell ⟨w.heap.size + 1, 0, none⟩ (.string k.row)).setCell ⟨w.heap.size + 1, 1, none⟩ (.string k.fam)).setCell ⟨w.heap.size + 1, 2, none⟩ (.string k.qual)).setCell ⟨w.heap.size + 1, 3, none⟩ (.int .u64 k.time)).setCell ⟨w.heap.size + 1, 4, none⟩ (.slice so (vn - 1) sc)).setCell ⟨w.heap.size + 1, 5, none⟩ (.bool false)).cell? ⟨w3.heap.size, 0, none⟩ = some (.string k.row) ∧ ((((((zv0.setCell ⟨w.heap.size + 1, 0, none⟩ (.string k.row)).setCell ⟨w.heap.size + 1, 1, none⟩ (.string k.fam)).setCell ⟨w.heap.size + 1, 2, none⟩ (.string k.qual)).setCell ⟨w.heap.size + 1, 3, none⟩ (.int .u64 k.time)).setCell ⟨w.heap.size + 1, 4, none⟩ (.slice so (vn - 1) sc)).setCell ⟨w.heap.size + 1, 5, none⟩ (.bool false)).cell? ⟨w3.heap.size, 1, none⟩ = some (.string k.fam) ∧ ((((((zv0.setCell ⟨w.heap.size + 1, 0, none⟩ (.string k.row)).setCell ⟨w.heap.size + 1, 1, none⟩ (.string k.fam)).setCell ⟨w.heap.size + 1, 2, none⟩ (.string k.qual)).setCell ⟨w.heap.size + 1, 3, none⟩ (.int .u64 k.time)).setCell ⟨w.heap.size + 1, 4, none⟩ (.slice so (vn - 1) sc)).setCell ⟨w.heap.size + 1, 5, none⟩ (.bool false)).cell? ⟨w3.heap.size, 2, none⟩ = some (.string k.qual) ∧ ((((((zv0.setCell ⟨w.heap.size + 1, 0, none⟩ (.string k.row)).setCell ⟨w.heap.size + 1, 1, none⟩ (.string k.fam)).setCell ⟨w.heap.size + 1, 2, none⟩ (.string k.qual)).setCell ⟨w.heap.size + 1, 3, none⟩ (.int .u64 k.time)).setCell ⟨w.heap.size + 1, 4, none⟩ (.slice so (vn - 1) sc)).setCell ⟨w.heap.size + 1, 5, none⟩ (.bool false)).cell? ⟨w3.heap.size, 3, none⟩ = some (.int .u64 k.time) := ⟨KW.cell zH0.1 (by show w.heap.size ≠ _; omega), KW.cell zH0.2.1 (by show w3.heap.size ≠ _; omega), KW.cell zH0.2.2.1 (by show w3.heap.size ≠ _; omega), KW.cell zH0.2.2.2.1 (by show w3.heap.size ≠ _; omega), KW.cell zH0.2.2.2.2 (by show w3.heap.size ≠ _; omega)⟩
            refine hr_skip 5 none (w' := ((((((zv0.setCell ⟨w.heap.size + 1, 0, none⟩ (.string k.row)).setCell ⟨w.heap.size + 1, 1, none⟩ (.string k.fam)).setCell ⟨w.heap.size + 1, 2, none⟩ (.string k.qual)).setCell ⟨w.heap.size + 1, 3, none⟩ (.int .u64 k.time)).setCell ⟨w.heap.size + 1, 4, none⟩ (.slice so (vn - 1) sc)).setCell ⟨w.heap.size + 1, 5, none⟩ (.bool false))) rfl rfl (by kernel_rfl) rfl (by go_simp) zH1 ?_
            simp only [Act.put]
            refine hr_take_w 6 (some 3) (.int .i64 0) rfl rfl (by kernel_rfl) (by kernel_rfl) (by kernel_rfl) rfl (fun W hW => by obtain ⟨h0, h1, h2, h3, h4⟩ := hW; go_simp) zH1 ?_
            simp only [Act.put, List.setIfInBounds_toArray, List.set_cons_zero, List.set_cons_succ]
            refine wpAnyH_done (by kernel_rfl) ?_ _
            refine NoPanic.normal ?_
            have SY := (SS.below zE0).wr R6 (by simp) KW
            have BX := Wr.below B6 KW B6.size (Nat.le_succ _)
            go_wp2
            exact bodyPost_ret (v := .tuple #[.agg #[.string k.row, .string k.fam, .string k.qual, .int .u64 k.time, .slice so (vn - 1) sc, .bool false], .int .i64 0]) (by simp [results, Tryz.results13, go_sem, r0, r1, r2, r3, r4, r5]) rfl ⟨⟨k.row, k.fam, k.qual, k.time, ⟨so, vn - 1, sc, v⟩, false⟩, 0, rfl, .inr (.inl ⟨HRD.out, hko.time, rfl, .inr ⟨HY.out, hvl, rfl⟩⟩), ⟨hko.row, hko.fam, hko.qual, hko.time, SY⟩, BX⟩
        · have hlg : (256 : Int) < (vn : Int) - 1 := by omega
          have HBF : Hid (isValB x.v = false) := by show _ = _; rw [HXV.out]; exact decide_eq_false fun h => hvl h.2
          rcases HT1.out with ⟨t1, t2⟩ | t1
          · clear hvlen
            have r0 : w3.cell? ⟨w.heap.size + 1, 0, none⟩ = some (.string ⟨#[]⟩) := R3.cell 0
            have f0 := R3.free 0
            have r1 : w3.cell? ⟨w.heap.size + 1, 1, none⟩ = some (.string ⟨#[]⟩) := R3.cell 1
            have f1 := R3.free 1
            have r2 : w3.cell? ⟨w.heap.size + 1, 2, none⟩ = some (.string ⟨#[]⟩) := R3.cell 2
            have f2 := R3.free 2
            have r3 : w3.cell? ⟨w.heap.size + 1, 3, none⟩ = some (.int .u64 0) := R3.cell 3
            have f3 := R3.free 3
            have r4 : w3.cell? ⟨w.heap.size + 1, 4, none⟩ = some (.slice none 0 0) := R3.cell 4
            have f4 := R3.free 4
            have r5 : w3.cell? ⟨w.heap.size + 1, 5, none⟩ = some (.bool false) := R3.cell 5
            have f5 := R3.free 5
            go_wp2
            exact bodyPost_ret (v := .tuple #[.agg #[.string ⟨#[]⟩, .string ⟨#[]⟩, .string ⟨#[]⟩, .int .u64 0, .slice none 0 0, .bool false], .int .i64 3]) (by simp [results, Tryz.results13, go_sem, r0, r1, r2, r3, r4, r5, lt3]) rfl ⟨⟨⟨#[]⟩, ⟨#[]⟩, ⟨#[]⟩, 0, ⟨none, 0, 0, []⟩, false⟩, 3, rfl, .inr (.inr ⟨by rw [HRD.out]; simp, HN1.out, HBF.out, rfl, rfl⟩), ⟨Nat.zero_le _, Nat.zero_le _, Nat.zero_le _, by decide, Sl.nothing _⟩, Wr.below B3 ((((((((Wr.refl _ _).set 0 _).set 1 _).set 2 _).set 3 _).set 4 _).set 5 _).alloc _) B3.size (Nat.le_succ _)⟩
          · clear hvlen
            have r0 : w3.cell? ⟨w.heap.size + 1, 0, none⟩ = some (.string ⟨#[]⟩) := R3.cell 0
            have f0 := R3.free 0
            have r1 : w3.cell? ⟨w.heap.size + 1, 1, none⟩ = some (.string ⟨#[]⟩) := R3.cell 1
            have f1 := R3.free 1
            have r2 : w3.cell? ⟨w.heap.size + 1, 2, none⟩ = some (.string ⟨#[]⟩) := R3.cell 2
            have f2 := R3.free 2
            have r3 : w3.cell? ⟨w.heap.size + 1, 3, none⟩ = some (.int .u64 0) := R3.cell 3
            have f3 := R3.free 3
            have r4 : w3.cell? ⟨w.heap.size + 1, 4, none⟩ = some (.slice none 0 0) := R3.cell 4
            have f4 := R3.free 4
            have r5 : w3.cell? ⟨w.heap.size + 1, 5, none⟩ = some (.bool false) := R3.cell 5
            have f5 := R3.free 5
            go_wp2
            exact bodyPost_ret (v := .tuple #[.agg #[.string ⟨#[]⟩, .string ⟨#[]⟩, .string ⟨#[]⟩, .int .u64 0, .slice none 0 0, .bool false], .int .i64 3]) (by simp [results, Tryz.results13, go_sem, r0, r1, r2, r3, r4, r5, lt3]) rfl ⟨⟨⟨#[]⟩, ⟨#[]⟩, ⟨#[]⟩, 0, ⟨none, 0, 0, []⟩, false⟩, 3, rfl, .inr (.inr ⟨by rw [HRD.out]; simp, HN1.out, HBF.out, rfl, rfl⟩), ⟨Nat.zero_le _, Nat.zero_le _, Nat.zero_le _, by decide, Sl.nothing _⟩, Wr.below B3 ((((((((Wr.refl _ _).set 0 _).set 1 _).set 2 _).set 3 _).set 4 _).set 5 _).alloc _) B3.size (Nat.le_succ _)⟩
      · have hb0 : (b != 0) = true := by simp [e0]
        have HBF : Hid (isValB x.v = false) := by show _ = _; rw [HXV.out]; exact decide_eq_false fun h => e0 h.1
        clear e0
        rcases HT1.out with ⟨t1, t2⟩ | t1
        · clear hvlen
          have r0 : w3.cell? ⟨w.heap.size + 1, 0, none⟩ = some (.string ⟨#[]⟩) := R3.cell 0
          have f0 := R3.free 0
          have r1 : w3.cell? ⟨w.heap.size + 1, 1, none⟩ = some (.string ⟨#[]⟩) := R3.cell 1
          have f1 := R3.free 1
          have r2 : w3.cell? ⟨w.heap.size + 1, 2, none⟩ = some (.string ⟨#[]⟩) := R3.cell 2
          have f2 := R3.free 2
          have r3 : w3.cell? ⟨w.heap.size + 1, 3, none⟩ = some (.int .u64 0) := R3.cell 3
          have f3 := R3.free 3
          have r4 : w3.cell? ⟨w.heap.size + 1, 4, none⟩ = some (.slice none 0 0) := R3.cell 4
          have f4 := R3.free 4
          have r5 : w3.cell? ⟨w.heap.size + 1, 5, none⟩ = some (.bool false) := R3.cell 5
          have f5 := R3.free 5
          go_wp2
          exact bodyPost_ret (v := .tuple #[.agg #[.string ⟨#[]⟩, .string ⟨#[]⟩, .string ⟨#[]⟩, .int .u64 0, .slice none 0 0, .bool false], .int .i64 3]) (by simp [results, Tryz.results13, go_sem, r0, r1, r2, r3, r4, r5, lt3]) rfl ⟨⟨⟨#[]⟩, ⟨#[]⟩, ⟨#[]⟩, 0, ⟨none, 0, 0, []⟩, false⟩, 3, rfl, .inr (.inr ⟨by rw [HRD.out]; simp, HN1.out, HBF.out, rfl, rfl⟩), ⟨Nat.zero_le _, Nat.zero_le _, Nat.zero_le _, by decide, Sl.nothing _⟩, Wr.below B3 ((((((((Wr.refl _ _).set 0 _).set 1 _).set 2 _).set 3 _).set 4 _).set 5 _).alloc _) B3.size (Nat.le_succ _)⟩
        · clear hvlen
          have r0 : w3.cell? ⟨w.heap.size + 1, 0, none⟩ = some (.string ⟨#[]⟩) := R3.cell 0
          have f0 := R3.free 0
          have r1 : w3.cell? ⟨w.heap.size + 1, 1, none⟩ = some (.string ⟨#[]⟩) := R3.cell 1
          have f1 := R3.free 1
          have r2 : w3.cell? ⟨w.heap.size + 1, 2, none⟩ = some (.string ⟨#[]⟩) := R3.cell 2
          have f2 := R3.free 2
          have r3 : w3.cell? ⟨w.heap.size + 1, 3, none⟩ = some (.int .u64 0) := R3.cell 3
          have f3 := R3.free 3
          have r4 : w3.cell? ⟨w.heap.size + 1, 4, none⟩ = some (.slice none 0 0) := R3.cell 4
          have f4 := R3.free 4
          have r5 : w3.cell? ⟨w.heap.size + 1, 5, none⟩ = some (.bool false) := R3.cell 5
          have f5 := R3.free 5
          go_wp2
          exact bodyPost_ret (v := .tuple #[.agg #[.string ⟨#[]⟩, .string ⟨#[]⟩, .string ⟨#[]⟩, .int .u64 0, .slice none 0 0, .bool false], .int .i64 3]) (by simp [results, Tryz.results13, go_sem, r0, r1, r2, r3, r4, r5, lt3]) rfl ⟨⟨⟨#[]⟩, ⟨#[]⟩, ⟨#[]⟩, 0, ⟨none, 0, 0, []⟩, false⟩, 3, rfl, .inr (.inr ⟨by rw [HRD.out]; simp, HN1.out, HBF.out, rfl, rfl⟩), ⟨Nat.zero_le _, Nat.zero_le _, Nat.zero_le _, by decide, Sl.nothing _⟩, Wr.below B3 ((((((((Wr.refl _ _).set 0 _).set 1 _).set 2 _).set 3 _).set 4 _).set 5 _).alloc _) B3.size (Nat.le_succ _)⟩
end Go.Proofs.YtnicnfjickknjaaGreatDoor
