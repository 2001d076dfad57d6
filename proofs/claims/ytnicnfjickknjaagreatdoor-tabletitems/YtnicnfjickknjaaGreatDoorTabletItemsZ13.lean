/-
  Texts in one: RSame7, RResults, HRegB.
-/
import Derived.Test.YtnicnfjickknjaaGreatDoorTabletItemsZ2
import Derived.Test.YtnicnfjickknjaaGreatDoorTabletItemsZ3
import Derived.Test.YtnicnfjickknjaaGreatDoorTabletItemsZ1
namespace Go.Proofs.YtnicnfjickknjaaGreatDoor
open Go.RowKit

def itP (q : IP) : List Int × List Int := (q.k.xs, q.v.xs)
/-- Are these the same items? -/
def smI (a b : List IP) : Bool := decide (a.map itP = b.map itP)

set_option maxHeartbeats 4000000 in
set_option maxRecDepth 100000 in
theorem rsame7_any (w : World) (ao bo : Option Addr) (n cap m c : Nat) (its jts : List IP) (h : IL w ao n cap its) (h2 : IL w bo m c jts) :
    Calls Tryz.prog 14 #[.slice ao n cap, .slice bo m c] w fun e w' => e = .returned (.bool (smI its jts)) ∧ Below w.heap.size w w' := by
  have hl1 := Nat.le_of_eq h.len
  have hl2 := Nat.le_of_eq h.len.symm
  have hl3 := Nat.le_of_eq h2.len
  have hl4 := Nat.le_of_eq h2.len.symm
  have hmx := h.mx
  have hle := h.le
  have hnx : (n : Int) ≤ 9223372036854775807 := by unfold maxLen at hmx; omega
  by_cases hm : n = m
  · have hmb : ((n : Int) != (m : Int)) = false := by simp [hm]
    have hm1 := Nat.le_of_eq hm
    have hm2 := Nat.le_of_eq hm.symm
    clear hm
    go_enter Tryz.func14, Tryz.ntmps14
    go_wp2
    go_loopw [5] (fun i wr => ∃ k : Nat, k ≤ n ∧ i = .int .i64 k ∧ (its.map itP).take k = (jts.map itP).take k ∧ Below w.heap.size w wr) (fun i _ => n - (intOf i).toNat)
    case atStart => exact ⟨0, Nat.zero_le _, rfl, by simp, Below.refl _ _⟩
    case round =>
      obtain ⟨k, hkn, rfl, hj, hB⟩ := hrel
      have HJ : Hid ((its.map itP).take k = (jts.map itP).take k) := hj
      clear hj
      by_cases hlt : k < n
      · have hki : (k : Int) < (n : Int) := by omega
        have hkm : (k : Int) < (m : Int) := by omega
        have hkl : k < its.length := by omega
        have hkj : k < jts.length := by omega
        obtain ⟨b, off, rfl, hc⟩ := (h.below hB).at (by omega)
        obtain ⟨b2, off2, rfl, hc2⟩ := (h2.below hB).at (by omega)
        obtain ⟨c1, c2⟩ := hc k hkl
        obtain ⟨d1, d2⟩ := hc2 k hkj
        have S1 := (h.below hB).sl its[k] (List.getElem_mem hkl)
        have S2 := (h2.below hB).sl jts[k] (List.getElem_mem hkj)
        have HT : Hid ((its.map itP).take (k + 1) = (its.map itP).take k ++ [itP its[k]]) := by show _ = _; rw [List.take_succ_eq_append_getElem (by simpa using hkl), List.getElem_map]
        have HT2 : Hid ((jts.map itP).take (k + 1) = (jts.map itP).take k ++ [itP jts[k]]) := by show _ = _; rw [List.take_succ_eq_append_getElem (by simpa using hkj), List.getElem_map]
        have HG : Hid ((its.map itP)[k]? = some (itP its[k]) ∧ (jts.map itP)[k]? = some (itP jts[k])) := ⟨by simp [hkl], by simp [hkj]⟩
        obtain ⟨p, hp⟩ : ∃ p, p = its[k] := ⟨_, rfl⟩
        obtain ⟨q, hq⟩ : ∃ q, q = jts[k] := ⟨_, rfl⟩
        rw [← hp] at c1 c2 S1 HT HG
        rw [← hq] at d1 d2 S2 HT2 HG
        unfold Part.val at c1 c2 d1 d2
        clear hc hc2 hp hq
        have CK : ∀ W, Below wr.heap.size wr W → Calls Tryz.prog 24 #[.slice p.k.ao p.k.n p.k.cap, .slice q.k.ao q.k.n q.k.cap] W fun e w' => e = .returned (.bool (decide (p.k.xs = q.k.xs))) ∧ Below W.heap.size W w' := fun W hW => (same_any W _ _ _ _ _ _ _ _ (S1.1.below hW) (S2.1.below hW)).mono fun e w' ⟨h, z, hz⟩ => ⟨h, by rw [hz]; exact below_drewN _ _ _⟩
        have CV : ∀ W, Below wr.heap.size wr W → Calls Tryz.prog 24 #[.slice p.v.ao p.v.n p.v.cap, .slice q.v.ao q.v.n q.v.cap] W fun e w' => e = .returned (.bool (decide (p.v.xs = q.v.xs))) ∧ Below W.heap.size W w' := fun W hW => (same_any W _ _ _ _ _ _ _ _ (S1.2.below hW) (S2.2.below hW)).mono fun e w' ⟨h, z, hz⟩ => ⟨h, by rw [hz]; exact below_drewN _ _ _⟩
        clear S1 S2
        have HNE : Hid (itP p ≠ itP q → smI its jts = false) := by
          show _ → _
          intro hne
          refine decide_eq_false fun e => hne ?_
          have := HG.out.1
          rw [e, HG.out.2] at this
          exact (Option.some.inj this).symm
        by_cases hk : p.k.xs = q.k.xs
        · have hkb : decide (p.k.xs = q.k.xs) = true := decide_eq_true hk
          rw [hkb] at CK
          have HK : Hid (p.k.xs = q.k.xs) := hk
          clear hkb hk
          by_cases hv : p.v.xs = q.v.xs
          · have hvb : decide (p.v.xs = q.v.xs) = true := decide_eq_true hv
            rw [hvb] at CV
            have HE : Hid (itP p = itP q) := by show _ = _; unfold itP; rw [HK.out, hv]
            clear hvb hv
            go_wp2_with fail
            have HS : Hid (∀ V, Below wr.heap.size wr V → V.cell? ⟨b, off + k * 2, none⟩ = some (.slice p.k.ao p.k.n p.k.cap) ∧ V.cell? ⟨b, off + k * 2 + 1, none⟩ = some (.slice p.v.ao p.v.n p.v.cap) ∧ V.cell? ⟨b2, off2 + k * 2, none⟩ = some (.slice q.k.ao q.k.n q.k.cap) ∧ V.cell? ⟨b2, off2 + k * 2 + 1, none⟩ = some (.slice q.v.ao q.v.n q.v.cap)) := fun V hV => ⟨(hV.cell (World.block_lt_of_cell? _ _ c1)).trans c1, (hV.cell (World.block_lt_of_cell? _ _ c2)).trans c2, (hV.cell (World.block_lt_of_cell? _ _ d1)).trans d1, (hV.cell (World.block_lt_of_cell? _ _ d2)).trans d2⟩
            have E0 : Below wr.heap.size wr wr.drew := (Below.refl _ _).drew
            refine wp_region_noPanic ?_
            refine wp_region_held_drew (S := fun V => V.cell? ⟨b, off + k * 2, none⟩ = some (.slice p.k.ao p.k.n p.k.cap) ∧ V.cell? ⟨b, off + k * 2 + 1, none⟩ = some (.slice p.v.ao p.v.n p.v.cap) ∧ V.cell? ⟨b2, off2 + k * 2, none⟩ = some (.slice q.k.ao q.k.n q.k.cap) ∧ V.cell? ⟨b2, off2 + k * 2 + 1, none⟩ = some (.slice q.v.ao q.v.n q.v.cap)) (by kernel_rfl) (HS.out _ E0) (fun H0 => ?_)
            obtain ⟨v0, hv0⟩ : ∃ v, v = wr.drew := ⟨_, rfl⟩
            rw [← hv0] at H0 E0 ⊢
            clear hv0
            refine hr_take_w 0 (some 17) (.slice (some ⟨b, off, none⟩) n cap) rfl rfl (by kernel_rfl) (by kernel_rfl) (by kernel_rfl) rfl (fun W hW => by obtain ⟨h0, h1, h2, h3⟩ := hW; go_simp) H0 ?_
            simp only [Act.put, List.setIfInBounds_toArray, List.set_cons_zero, List.set_cons_succ]
            refine hr_take_w 1 (some 18) (.int .i64 k) rfl rfl (by kernel_rfl) (by kernel_rfl) (by kernel_rfl) rfl (fun W hW => by obtain ⟨h0, h1, h2, h3⟩ := hW; go_simp) H0 ?_
            simp only [Act.put, List.setIfInBounds_toArray, List.set_cons_zero, List.set_cons_succ]
            refine hr_take_w 2 (some 19) (.pointer (some ⟨b, off + k * 2, none⟩)) rfl rfl (by kernel_rfl) (by kernel_rfl) (by kernel_rfl) rfl (fun W hW => by obtain ⟨h0, h1, h2, h3⟩ := hW; go_simp) H0 ?_
            simp only [Act.put, List.setIfInBounds_toArray, List.set_cons_zero, List.set_cons_succ]
            refine hr_take_w 3 (some 20) (.pointer (some ⟨b, off + k * 2, none⟩)) rfl rfl (by kernel_rfl) (by kernel_rfl) (by kernel_rfl) rfl (fun W hW => by obtain ⟨h0, h1, h2, h3⟩ := hW; go_simp) H0 ?_
            simp only [Act.put, List.setIfInBounds_toArray, List.set_cons_zero, List.set_cons_succ]
            refine hr_take_w 4 (some 21) (.slice p.k.ao p.k.n p.k.cap) rfl rfl (by kernel_rfl) (by kernel_rfl) (by kernel_rfl) rfl (fun W hW => by obtain ⟨h0, h1, h2, h3⟩ := hW; go_simp) H0 ?_
            simp only [Act.put, List.setIfInBounds_toArray, List.set_cons_zero, List.set_cons_succ]
            refine hr_take_w 5 (some 22) (.slice (some ⟨b2, off2, none⟩) m c) rfl rfl (by kernel_rfl) (by kernel_rfl) (by kernel_rfl) rfl (fun W hW => by obtain ⟨h0, h1, h2, h3⟩ := hW; go_simp) H0 ?_
            simp only [Act.put, List.setIfInBounds_toArray, List.set_cons_zero, List.set_cons_succ]
            refine hr_take_w 6 (some 23) (.int .i64 k) rfl rfl (by kernel_rfl) (by kernel_rfl) (by kernel_rfl) rfl (fun W hW => by obtain ⟨h0, h1, h2, h3⟩ := hW; go_simp) H0 ?_
            simp only [Act.put, List.setIfInBounds_toArray, List.set_cons_zero, List.set_cons_succ]
            refine hr_take_w 7 (some 24) (.pointer (some ⟨b2, off2 + k * 2, none⟩)) rfl rfl (by kernel_rfl) (by kernel_rfl) (by kernel_rfl) rfl (fun W hW => by obtain ⟨h0, h1, h2, h3⟩ := hW; go_simp) H0 ?_
            simp only [Act.put, List.setIfInBounds_toArray, List.set_cons_zero, List.set_cons_succ]
            refine hr_take_w 8 (some 25) (.pointer (some ⟨b2, off2 + k * 2, none⟩)) rfl rfl (by kernel_rfl) (by kernel_rfl) (by kernel_rfl) rfl (fun W hW => by obtain ⟨h0, h1, h2, h3⟩ := hW; go_simp) H0 ?_
            simp only [Act.put, List.setIfInBounds_toArray, List.set_cons_zero, List.set_cons_succ]
            refine hr_take_w 9 (some 26) (.slice q.k.ao q.k.n q.k.cap) rfl rfl (by kernel_rfl) (by kernel_rfl) (by kernel_rfl) rfl (fun W hW => by obtain ⟨h0, h1, h2, h3⟩ := hW; go_simp) H0 ?_
            simp only [Act.put, List.setIfInBounds_toArray, List.set_cons_zero, List.set_cons_succ]
            refine hr_call_w 10 (some 27) 24 #[.slice p.k.ao p.k.n p.k.cap, .slice q.k.ao q.k.n q.k.cap] rfl rfl (by kernel_rfl) rfl (by go_simp) (fun v w' => v = .bool true ∧ Below v0.heap.size v0 w') ((CK v0 E0).mono (by
              rintro e w' ⟨rfl, C⟩
              exact ⟨_, rfl, rfl, C⟩)) ?_
            rintro v v1 ⟨rfl, C0⟩
            have E1 := E0.trans (C0.mono E0.size)
            have H1 := HS.out v1 E1
            refine ⟨H1, ?_⟩
            simp only [Act.put, List.setIfInBounds_toArray, List.set_cons_zero, List.set_cons_succ]
            refine hr_take_w 11 (some 28) (.bool false) rfl rfl (by kernel_rfl) (by kernel_rfl) (by kernel_rfl) rfl (fun W hW => by obtain ⟨h0, h1, h2, h3⟩ := hW; go_simp) H1 ?_
            simp only [Act.put, List.setIfInBounds_toArray, List.set_cons_zero, List.set_cons_succ]
            refine hr_take_w 12 (some 29) (.bool false) rfl rfl (by kernel_rfl) (by kernel_rfl) (by kernel_rfl) rfl (fun W hW => by obtain ⟨h0, h1, h2, h3⟩ := hW; go_simp) H1 ?_
            simp only [Act.put, List.setIfInBounds_toArray, List.set_cons_zero, List.set_cons_succ]
            refine hr_take_w 13 (some 30) (.slice (some ⟨b, off, none⟩) n cap) rfl rfl (by kernel_rfl) (by kernel_rfl) (by kernel_rfl) rfl (fun W hW => by obtain ⟨h0, h1, h2, h3⟩ := hW; go_simp) H1 ?_
            simp only [Act.put, List.setIfInBounds_toArray, List.set_cons_zero, List.set_cons_succ]
            refine hr_take_w 14 (some 31) (.int .i64 k) rfl rfl (by kernel_rfl) (by kernel_rfl) (by kernel_rfl) rfl (fun W hW => by obtain ⟨h0, h1, h2, h3⟩ := hW; go_simp) H1 ?_
            simp only [Act.put, List.setIfInBounds_toArray, List.set_cons_zero, List.set_cons_succ]
            refine hr_take_w 15 (some 32) (.pointer (some ⟨b, off + k * 2, none⟩)) rfl rfl (by kernel_rfl) (by kernel_rfl) (by kernel_rfl) rfl (fun W hW => by obtain ⟨h0, h1, h2, h3⟩ := hW; go_simp) H1 ?_
            simp only [Act.put, List.setIfInBounds_toArray, List.set_cons_zero, List.set_cons_succ]
            refine hr_take_w 16 (some 33) (.pointer (some ⟨b, off + k * 2 + 1, none⟩)) rfl rfl (by kernel_rfl) (by kernel_rfl) (by kernel_rfl) rfl (fun W hW => by obtain ⟨h0, h1, h2, h3⟩ := hW; go_simp) H1 ?_
            simp only [Act.put, List.setIfInBounds_toArray, List.set_cons_zero, List.set_cons_succ]
            refine hr_take_w 17 (some 34) (.slice p.v.ao p.v.n p.v.cap) rfl rfl (by kernel_rfl) (by kernel_rfl) (by kernel_rfl) rfl (fun W hW => by obtain ⟨h0, h1, h2, h3⟩ := hW; go_simp) H1 ?_
            simp only [Act.put, List.setIfInBounds_toArray, List.set_cons_zero, List.set_cons_succ]
            refine hr_take_w 18 (some 35) (.slice (some ⟨b2, off2, none⟩) m c) rfl rfl (by kernel_rfl) (by kernel_rfl) (by kernel_rfl) rfl (fun W hW => by obtain ⟨h0, h1, h2, h3⟩ := hW; go_simp) H1 ?_
            simp only [Act.put, List.setIfInBounds_toArray, List.set_cons_zero, List.set_cons_succ]
            refine hr_take_w 19 (some 36) (.int .i64 k) rfl rfl (by kernel_rfl) (by kernel_rfl) (by kernel_rfl) rfl (fun W hW => by obtain ⟨h0, h1, h2, h3⟩ := hW; go_simp) H1 ?_
            simp only [Act.put, List.setIfInBounds_toArray, List.set_cons_zero, List.set_cons_succ]
            refine hr_take_w 20 (some 37) (.pointer (some ⟨b2, off2 + k * 2, none⟩)) rfl rfl (by kernel_rfl) (by kernel_rfl) (by kernel_rfl) rfl (fun W hW => by obtain ⟨h0, h1, h2, h3⟩ := hW; go_simp) H1 ?_
            simp only [Act.put, List.setIfInBounds_toArray, List.set_cons_zero, List.set_cons_succ]
            refine hr_take_w 21 (some 38) (.pointer (some ⟨b2, off2 + k * 2 + 1, none⟩)) rfl rfl (by kernel_rfl) (by kernel_rfl) (by kernel_rfl) rfl (fun W hW => by obtain ⟨h0, h1, h2, h3⟩ := hW; go_simp) H1 ?_
            simp only [Act.put, List.setIfInBounds_toArray, List.set_cons_zero, List.set_cons_succ]
            refine hr_take_w 22 (some 39) (.slice q.v.ao q.v.n q.v.cap) rfl rfl (by kernel_rfl) (by kernel_rfl) (by kernel_rfl) rfl (fun W hW => by obtain ⟨h0, h1, h2, h3⟩ := hW; go_simp) H1 ?_
            simp only [Act.put, List.setIfInBounds_toArray, List.set_cons_zero, List.set_cons_succ]
            refine hr_call_w 23 (some 40) 24 #[.slice p.v.ao p.v.n p.v.cap, .slice q.v.ao q.v.n q.v.cap] rfl rfl (by kernel_rfl) rfl (by go_simp) (fun v w' => v = .bool true ∧ Below v1.heap.size v1 w') ((CV v1 E1).mono (by
              rintro e w' ⟨rfl, C⟩
              exact ⟨_, rfl, rfl, C⟩)) ?_
            rintro v v2 ⟨rfl, C1⟩
            have E2 := E1.trans (C1.mono E1.size)
            have H2 := HS.out v2 E2
            refine ⟨H2, ?_⟩
            simp only [Act.put, List.setIfInBounds_toArray, List.set_cons_zero, List.set_cons_succ]
            refine hr_take_w 24 (some 41) (.bool false) rfl rfl (by kernel_rfl) (by kernel_rfl) (by kernel_rfl) rfl (fun W hW => by obtain ⟨h0, h1, h2, h3⟩ := hW; go_simp) H2 ?_
            simp only [Act.put, List.setIfInBounds_toArray, List.set_cons_zero, List.set_cons_succ]
            refine hr_take_w 25 (some 42) (.bool false) rfl rfl (by kernel_rfl) (by kernel_rfl) (by kernel_rfl) rfl (fun W hW => by obtain ⟨h0, h1, h2, h3⟩ := hW; go_simp) H2 ?_
            simp only [Act.put, List.setIfInBounds_toArray, List.set_cons_zero, List.set_cons_succ]
            refine wpAnyH_done (by kernel_rfl) ?_ _
            refine NoPanic.normal ?_
            go_wp2
            go_roundw
            case rel =>
              refine ⟨k + 1, by omega, by go_num, ?_, hB.trans (E2.mono hB.size)⟩
              rw [HT.out, HT2.out, HJ.out, HE.out]
            case measure => simp [intOf]; omega
          · have hvb : decide (p.v.xs = q.v.xs) = false := decide_eq_false hv
            rw [hvb] at CV
            have HR : Hid (smI its jts = false) := HNE.out (by intro e; exact hv (congrArg Prod.snd e))
            clear hvb hv
            go_wp2_with fail
            have HS : Hid (∀ V, Below wr.heap.size wr V → V.cell? ⟨b, off + k * 2, none⟩ = some (.slice p.k.ao p.k.n p.k.cap) ∧ V.cell? ⟨b, off + k * 2 + 1, none⟩ = some (.slice p.v.ao p.v.n p.v.cap) ∧ V.cell? ⟨b2, off2 + k * 2, none⟩ = some (.slice q.k.ao q.k.n q.k.cap) ∧ V.cell? ⟨b2, off2 + k * 2 + 1, none⟩ = some (.slice q.v.ao q.v.n q.v.cap)) := fun V hV => ⟨(hV.cell (World.block_lt_of_cell? _ _ c1)).trans c1, (hV.cell (World.block_lt_of_cell? _ _ c2)).trans c2, (hV.cell (World.block_lt_of_cell? _ _ d1)).trans d1, (hV.cell (World.block_lt_of_cell? _ _ d2)).trans d2⟩
            have E0 : Below wr.heap.size wr wr.drew := (Below.refl _ _).drew
            refine wp_region_noPanic ?_
            refine wp_region_held_drew (S := fun V => V.cell? ⟨b, off + k * 2, none⟩ = some (.slice p.k.ao p.k.n p.k.cap) ∧ V.cell? ⟨b, off + k * 2 + 1, none⟩ = some (.slice p.v.ao p.v.n p.v.cap) ∧ V.cell? ⟨b2, off2 + k * 2, none⟩ = some (.slice q.k.ao q.k.n q.k.cap) ∧ V.cell? ⟨b2, off2 + k * 2 + 1, none⟩ = some (.slice q.v.ao q.v.n q.v.cap)) (by kernel_rfl) (HS.out _ E0) (fun H0 => ?_)
            obtain ⟨v0, hv0⟩ : ∃ v, v = wr.drew := ⟨_, rfl⟩
            rw [← hv0] at H0 E0 ⊢
            clear hv0
            refine hr_take_w 0 (some 17) (.slice (some ⟨b, off, none⟩) n cap) rfl rfl (by kernel_rfl) (by kernel_rfl) (by kernel_rfl) rfl (fun W hW => by obtain ⟨h0, h1, h2, h3⟩ := hW; go_simp) H0 ?_
            simp only [Act.put, List.setIfInBounds_toArray, List.set_cons_zero, List.set_cons_succ]
            refine hr_take_w 1 (some 18) (.int .i64 k) rfl rfl (by kernel_rfl) (by kernel_rfl) (by kernel_rfl) rfl (fun W hW => by obtain ⟨h0, h1, h2, h3⟩ := hW; go_simp) H0 ?_
            simp only [Act.put, List.setIfInBounds_toArray, List.set_cons_zero, List.set_cons_succ]
            refine hr_take_w 2 (some 19) (.pointer (some ⟨b, off + k * 2, none⟩)) rfl rfl (by kernel_rfl) (by kernel_rfl) (by kernel_rfl) rfl (fun W hW => by obtain ⟨h0, h1, h2, h3⟩ := hW; go_simp) H0 ?_
            simp only [Act.put, List.setIfInBounds_toArray, List.set_cons_zero, List.set_cons_succ]
            refine hr_take_w 3 (some 20) (.pointer (some ⟨b, off + k * 2, none⟩)) rfl rfl (by kernel_rfl) (by kernel_rfl) (by kernel_rfl) rfl (fun W hW => by obtain ⟨h0, h1, h2, h3⟩ := hW; go_simp) H0 ?_
            simp only [Act.put, List.setIfInBounds_toArray, List.set_cons_zero, List.set_cons_succ]
            refine hr_take_w 4 (some 21) (.slice p.k.ao p.k.n p.k.cap) rfl rfl (by kernel_rfl) (by kernel_rfl) (by kernel_rfl) rfl (fun W hW => by obtain ⟨h0, h1, h2, h3⟩ := hW; go_simp) H0 ?_
            simp only [Act.put, List.setIfInBounds_toArray, List.set_cons_zero, List.set_cons_succ]
            refine hr_take_w 5 (some 22) (.slice (some ⟨b2, off2, none⟩) m c) rfl rfl (by kernel_rfl) (by kernel_rfl) (by kernel_rfl) rfl (fun W hW => by obtain ⟨h0, h1, h2, h3⟩ := hW; go_simp) H0 ?_
            simp only [Act.put, List.setIfInBounds_toArray, List.set_cons_zero, List.set_cons_succ]
            refine hr_take_w 6 (some 23) (.int .i64 k) rfl rfl (by kernel_rfl) (by kernel_rfl) (by kernel_rfl) rfl (fun W hW => by obtain ⟨h0, h1, h2, h3⟩ := hW; go_simp) H0 ?_
            simp only [Act.put, List.setIfInBounds_toArray, List.set_cons_zero, List.set_cons_succ]
            refine hr_take_w 7 (some 24) (.pointer (some ⟨b2, off2 + k * 2, none⟩)) rfl rfl (by kernel_rfl) (by kernel_rfl) (by kernel_rfl) rfl (fun W hW => by obtain ⟨h0, h1, h2, h3⟩ := hW; go_simp) H0 ?_
            simp only [Act.put, List.setIfInBounds_toArray, List.set_cons_zero, List.set_cons_succ]
            refine hr_take_w 8 (some 25) (.pointer (some ⟨b2, off2 + k * 2, none⟩)) rfl rfl (by kernel_rfl) (by kernel_rfl) (by kernel_rfl) rfl (fun W hW => by obtain ⟨h0, h1, h2, h3⟩ := hW; go_simp) H0 ?_
            simp only [Act.put, List.setIfInBounds_toArray, List.set_cons_zero, List.set_cons_succ]
            refine hr_take_w 9 (some 26) (.slice q.k.ao q.k.n q.k.cap) rfl rfl (by kernel_rfl) (by kernel_rfl) (by kernel_rfl) rfl (fun W hW => by obtain ⟨h0, h1, h2, h3⟩ := hW; go_simp) H0 ?_
            simp only [Act.put, List.setIfInBounds_toArray, List.set_cons_zero, List.set_cons_succ]
            refine hr_call_w 10 (some 27) 24 #[.slice p.k.ao p.k.n p.k.cap, .slice q.k.ao q.k.n q.k.cap] rfl rfl (by kernel_rfl) rfl (by go_simp) (fun v w' => v = .bool true ∧ Below v0.heap.size v0 w') ((CK v0 E0).mono (by
              rintro e w' ⟨rfl, C⟩
              exact ⟨_, rfl, rfl, C⟩)) ?_
            rintro v v1 ⟨rfl, C0⟩
            have E1 := E0.trans (C0.mono E0.size)
            have H1 := HS.out v1 E1
            refine ⟨H1, ?_⟩
            simp only [Act.put, List.setIfInBounds_toArray, List.set_cons_zero, List.set_cons_succ]
            refine hr_take_w 11 (some 28) (.bool false) rfl rfl (by kernel_rfl) (by kernel_rfl) (by kernel_rfl) rfl (fun W hW => by obtain ⟨h0, h1, h2, h3⟩ := hW; go_simp) H1 ?_
            simp only [Act.put, List.setIfInBounds_toArray, List.set_cons_zero, List.set_cons_succ]
            refine hr_take_w 12 (some 29) (.bool false) rfl rfl (by kernel_rfl) (by kernel_rfl) (by kernel_rfl) rfl (fun W hW => by obtain ⟨h0, h1, h2, h3⟩ := hW; go_simp) H1 ?_
            simp only [Act.put, List.setIfInBounds_toArray, List.set_cons_zero, List.set_cons_succ]
            refine hr_take_w 13 (some 30) (.slice (some ⟨b, off, none⟩) n cap) rfl rfl (by kernel_rfl) (by kernel_rfl) (by kernel_rfl) rfl (fun W hW => by obtain ⟨h0, h1, h2, h3⟩ := hW; go_simp) H1 ?_
            simp only [Act.put, List.setIfInBounds_toArray, List.set_cons_zero, List.set_cons_succ]
            refine hr_take_w 14 (some 31) (.int .i64 k) rfl rfl (by kernel_rfl) (by kernel_rfl) (by kernel_rfl) rfl (fun W hW => by obtain ⟨h0, h1, h2, h3⟩ := hW; go_simp) H1 ?_
            simp only [Act.put, List.setIfInBounds_toArray, List.set_cons_zero, List.set_cons_succ]
            refine hr_take_w 15 (some 32) (.pointer (some ⟨b, off + k * 2, none⟩)) rfl rfl (by kernel_rfl) (by kernel_rfl) (by kernel_rfl) rfl (fun W hW => by obtain ⟨h0, h1, h2, h3⟩ := hW; go_simp) H1 ?_
            simp only [Act.put, List.setIfInBounds_toArray, List.set_cons_zero, List.set_cons_succ]
            refine hr_take_w 16 (some 33) (.pointer (some ⟨b, off + k * 2 + 1, none⟩)) rfl rfl (by kernel_rfl) (by kernel_rfl) (by kernel_rfl) rfl (fun W hW => by obtain ⟨h0, h1, h2, h3⟩ := hW; go_simp) H1 ?_
            simp only [Act.put, List.setIfInBounds_toArray, List.set_cons_zero, List.set_cons_succ]
            refine hr_take_w 17 (some 34) (.slice p.v.ao p.v.n p.v.cap) rfl rfl (by kernel_rfl) (by kernel_rfl) (by kernel_rfl) rfl (fun W hW => by obtain ⟨h0, h1, h2, h3⟩ := hW; go_simp) H1 ?_
            simp only [Act.put, List.setIfInBounds_toArray, List.set_cons_zero, List.set_cons_succ]
            refine hr_take_w 18 (some 35) (.slice (some ⟨b2, off2, none⟩) m c) rfl rfl (by kernel_rfl) (by kernel_rfl) (by kernel_rfl) rfl (fun W hW => by obtain ⟨h0, h1, h2, h3⟩ := hW; go_simp) H1 ?_
            simp only [Act.put, List.setIfInBounds_toArray, List.set_cons_zero, List.set_cons_succ]
            refine hr_take_w 19 (some 36) (.int .i64 k) rfl rfl (by kernel_rfl) (by kernel_rfl) (by kernel_rfl) rfl (fun W hW => by obtain ⟨h0, h1, h2, h3⟩ := hW; go_simp) H1 ?_
            simp only [Act.put, List.setIfInBounds_toArray, List.set_cons_zero, List.set_cons_succ]
            refine hr_take_w 20 (some 37) (.pointer (some ⟨b2, off2 + k * 2, none⟩)) rfl rfl (by kernel_rfl) (by kernel_rfl) (by kernel_rfl) rfl (fun W hW => by obtain ⟨h0, h1, h2, h3⟩ := hW; go_simp) H1 ?_
            simp only [Act.put, List.setIfInBounds_toArray, List.set_cons_zero, List.set_cons_succ]
            refine hr_take_w 21 (some 38) (.pointer (some ⟨b2, off2 + k * 2 + 1, none⟩)) rfl rfl (by kernel_rfl) (by kernel_rfl) (by kernel_rfl) rfl (fun W hW => by obtain ⟨h0, h1, h2, h3⟩ := hW; go_simp) H1 ?_
            simp only [Act.put, List.setIfInBounds_toArray, List.set_cons_zero, List.set_cons_succ]
            refine hr_take_w 22 (some 39) (.slice q.v.ao q.v.n q.v.cap) rfl rfl (by kernel_rfl) (by kernel_rfl) (by kernel_rfl) rfl (fun W hW => by obtain ⟨h0, h1, h2, h3⟩ := hW; go_simp) H1 ?_
            simp only [Act.put, List.setIfInBounds_toArray, List.set_cons_zero, List.set_cons_succ]
            refine hr_call_w 23 (some 40) 24 #[.slice p.v.ao p.v.n p.v.cap, .slice q.v.ao q.v.n q.v.cap] rfl rfl (by kernel_rfl) rfl (by go_simp) (fun v w' => v = .bool false ∧ Below v1.heap.size v1 w') ((CV v1 E1).mono (by
              rintro e w' ⟨rfl, C⟩
              exact ⟨_, rfl, rfl, C⟩)) ?_
            rintro v v2 ⟨rfl, C1⟩
            have E2 := E1.trans (C1.mono E1.size)
            have H2 := HS.out v2 E2
            refine ⟨H2, ?_⟩
            simp only [Act.put, List.setIfInBounds_toArray, List.set_cons_zero, List.set_cons_succ]
            refine hr_take_w 24 (some 41) (.bool true) rfl rfl (by kernel_rfl) (by kernel_rfl) (by kernel_rfl) rfl (fun W hW => by obtain ⟨h0, h1, h2, h3⟩ := hW; go_simp) H2 ?_
            simp only [Act.put, List.setIfInBounds_toArray, List.set_cons_zero, List.set_cons_succ]
            refine hr_take_w 25 (some 42) (.bool true) rfl rfl (by kernel_rfl) (by kernel_rfl) (by kernel_rfl) rfl (fun W hW => by obtain ⟨h0, h1, h2, h3⟩ := hW; go_simp) H2 ?_
            simp only [Act.put, List.setIfInBounds_toArray, List.set_cons_zero, List.set_cons_succ]
            refine wpAnyH_done (by kernel_rfl) ?_ _
            refine NoPanic.normal ?_
            go_wp2
            go_ret
            rw [HR.out]
            exact ⟨rfl, hB.trans (E2.mono hB.size)⟩
        · have hkb : decide (p.k.xs = q.k.xs) = false := decide_eq_false hk
          rw [hkb] at CK
          have HR : Hid (smI its jts = false) := HNE.out (by intro e; exact hk (congrArg Prod.fst e))
          clear hkb hk CV
          go_wp2_with fail
          have HS : Hid (∀ V, Below wr.heap.size wr V → V.cell? ⟨b, off + k * 2, none⟩ = some (.slice p.k.ao p.k.n p.k.cap) ∧ V.cell? ⟨b, off + k * 2 + 1, none⟩ = some (.slice p.v.ao p.v.n p.v.cap) ∧ V.cell? ⟨b2, off2 + k * 2, none⟩ = some (.slice q.k.ao q.k.n q.k.cap) ∧ V.cell? ⟨b2, off2 + k * 2 + 1, none⟩ = some (.slice q.v.ao q.v.n q.v.cap)) := fun V hV => ⟨(hV.cell (World.block_lt_of_cell? _ _ c1)).trans c1, (hV.cell (World.block_lt_of_cell? _ _ c2)).trans c2, (hV.cell (World.block_lt_of_cell? _ _ d1)).trans d1, (hV.cell (World.block_lt_of_cell? _ _ d2)).trans d2⟩
          have E0 : Below wr.heap.size wr wr.drew := (Below.refl _ _).drew
          refine wp_region_noPanic ?_
          refine wp_region_held_drew (S := fun V => V.cell? ⟨b, off + k * 2, none⟩ = some (.slice p.k.ao p.k.n p.k.cap) ∧ V.cell? ⟨b, off + k * 2 + 1, none⟩ = some (.slice p.v.ao p.v.n p.v.cap) ∧ V.cell? ⟨b2, off2 + k * 2, none⟩ = some (.slice q.k.ao q.k.n q.k.cap) ∧ V.cell? ⟨b2, off2 + k * 2 + 1, none⟩ = some (.slice q.v.ao q.v.n q.v.cap)) (by kernel_rfl) (HS.out _ E0) (fun H0 => ?_)
          obtain ⟨v0, hv0⟩ : ∃ v, v = wr.drew := ⟨_, rfl⟩
          rw [← hv0] at H0 E0 ⊢
          clear hv0
          refine hr_take_w 0 (some 17) (.slice (some ⟨b, off, none⟩) n cap) rfl rfl (by kernel_rfl) (by kernel_rfl) (by kernel_rfl) rfl (fun W hW => by obtain ⟨h0, h1, h2, h3⟩ := hW; go_simp) H0 ?_
          simp only [Act.put, List.setIfInBounds_toArray, List.set_cons_zero, List.set_cons_succ]
          refine hr_take_w 1 (some 18) (.int .i64 k) rfl rfl (by kernel_rfl) (by kernel_rfl) (by kernel_rfl) rfl (fun W hW => by obtain ⟨h0, h1, h2, h3⟩ := hW; go_simp) H0 ?_
          simp only [Act.put, List.setIfInBounds_toArray, List.set_cons_zero, List.set_cons_succ]
          refine hr_take_w 2 (some 19) (.pointer (some ⟨b, off + k * 2, none⟩)) rfl rfl (by kernel_rfl) (by kernel_rfl) (by kernel_rfl) rfl (fun W hW => by obtain ⟨h0, h1, h2, h3⟩ := hW; go_simp) H0 ?_
          simp only [Act.put, List.setIfInBounds_toArray, List.set_cons_zero, List.set_cons_succ]
          refine hr_take_w 3 (some 20) (.pointer (some ⟨b, off + k * 2, none⟩)) rfl rfl (by kernel_rfl) (by kernel_rfl) (by kernel_rfl) rfl (fun W hW => by obtain ⟨h0, h1, h2, h3⟩ := hW; go_simp) H0 ?_
          simp only [Act.put, List.setIfInBounds_toArray, List.set_cons_zero, List.set_cons_succ]
          refine hr_take_w 4 (some 21) (.slice p.k.ao p.k.n p.k.cap) rfl rfl (by kernel_rfl) (by kernel_rfl) (by kernel_rfl) rfl (fun W hW => by obtain ⟨h0, h1, h2, h3⟩ := hW; go_simp) H0 ?_
          simp only [Act.put, List.setIfInBounds_toArray, List.set_cons_zero, List.set_cons_succ]
          refine hr_take_w 5 (some 22) (.slice (some ⟨b2, off2, none⟩) m c) rfl rfl (by kernel_rfl) (by kernel_rfl) (by kernel_rfl) rfl (fun W hW => by obtain ⟨h0, h1, h2, h3⟩ := hW; go_simp) H0 ?_
          simp only [Act.put, List.setIfInBounds_toArray, List.set_cons_zero, List.set_cons_succ]
          refine hr_take_w 6 (some 23) (.int .i64 k) rfl rfl (by kernel_rfl) (by kernel_rfl) (by kernel_rfl) rfl (fun W hW => by obtain ⟨h0, h1, h2, h3⟩ := hW; go_simp) H0 ?_
          simp only [Act.put, List.setIfInBounds_toArray, List.set_cons_zero, List.set_cons_succ]
          refine hr_take_w 7 (some 24) (.pointer (some ⟨b2, off2 + k * 2, none⟩)) rfl rfl (by kernel_rfl) (by kernel_rfl) (by kernel_rfl) rfl (fun W hW => by obtain ⟨h0, h1, h2, h3⟩ := hW; go_simp) H0 ?_
          simp only [Act.put, List.setIfInBounds_toArray, List.set_cons_zero, List.set_cons_succ]
          refine hr_take_w 8 (some 25) (.pointer (some ⟨b2, off2 + k * 2, none⟩)) rfl rfl (by kernel_rfl) (by kernel_rfl) (by kernel_rfl) rfl (fun W hW => by obtain ⟨h0, h1, h2, h3⟩ := hW; go_simp) H0 ?_
          simp only [Act.put, List.setIfInBounds_toArray, List.set_cons_zero, List.set_cons_succ]
          refine hr_take_w 9 (some 26) (.slice q.k.ao q.k.n q.k.cap) rfl rfl (by kernel_rfl) (by kernel_rfl) (by kernel_rfl) rfl (fun W hW => by obtain ⟨h0, h1, h2, h3⟩ := hW; go_simp) H0 ?_
          simp only [Act.put, List.setIfInBounds_toArray, List.set_cons_zero, List.set_cons_succ]
          refine hr_call_w 10 (some 27) 24 #[.slice p.k.ao p.k.n p.k.cap, .slice q.k.ao q.k.n q.k.cap] rfl rfl (by kernel_rfl) rfl (by go_simp) (fun v w' => v = .bool false ∧ Below v0.heap.size v0 w') ((CK v0 E0).mono (by
            rintro e w' ⟨rfl, C⟩
            exact ⟨_, rfl, rfl, C⟩)) ?_
          rintro v v1 ⟨rfl, C0⟩
          have E1 := E0.trans (C0.mono E0.size)
          have H1 := HS.out v1 E1
          refine ⟨H1, ?_⟩
          simp only [Act.put, List.setIfInBounds_toArray, List.set_cons_zero, List.set_cons_succ]
          refine hr_take_w 11 (some 28) (.bool true) rfl rfl (by kernel_rfl) (by kernel_rfl) (by kernel_rfl) rfl (fun W hW => by obtain ⟨h0, h1, h2, h3⟩ := hW; go_simp) H1 ?_
          simp only [Act.put, List.setIfInBounds_toArray, List.set_cons_zero, List.set_cons_succ]
          refine hr_take_w 12 (some 29) (.bool true) rfl rfl (by kernel_rfl) (by kernel_rfl) (by kernel_rfl) rfl (fun W hW => by obtain ⟨h0, h1, h2, h3⟩ := hW; go_simp) H1 ?_
          simp only [Act.put, List.setIfInBounds_toArray, List.set_cons_zero, List.set_cons_succ]
          refine hr_none 13 (some 30) rfl rfl (by kernel_rfl) (by kernel_rfl) (by kernel_rfl) rfl H1 ?_
          simp only [Act.put, List.setIfInBounds_toArray, List.set_cons_zero, List.set_cons_succ]
          refine hr_none 14 (some 31) rfl rfl (by kernel_rfl) (by kernel_rfl) (by kernel_rfl) rfl H1 ?_
          simp only [Act.put, List.setIfInBounds_toArray, List.set_cons_zero, List.set_cons_succ]
          refine hr_none 15 (some 32) rfl rfl (by kernel_rfl) (by kernel_rfl) (by kernel_rfl) rfl H1 ?_
          simp only [Act.put, List.setIfInBounds_toArray, List.set_cons_zero, List.set_cons_succ]
          refine hr_none 16 (some 33) rfl rfl (by kernel_rfl) (by kernel_rfl) (by kernel_rfl) rfl H1 ?_
          simp only [Act.put, List.setIfInBounds_toArray, List.set_cons_zero, List.set_cons_succ]
          refine hr_none 17 (some 34) rfl rfl (by kernel_rfl) (by kernel_rfl) (by kernel_rfl) rfl H1 ?_
          simp only [Act.put, List.setIfInBounds_toArray, List.set_cons_zero, List.set_cons_succ]
          refine hr_none 18 (some 35) rfl rfl (by kernel_rfl) (by kernel_rfl) (by kernel_rfl) rfl H1 ?_
          simp only [Act.put, List.setIfInBounds_toArray, List.set_cons_zero, List.set_cons_succ]
          refine hr_none 19 (some 36) rfl rfl (by kernel_rfl) (by kernel_rfl) (by kernel_rfl) rfl H1 ?_
          simp only [Act.put, List.setIfInBounds_toArray, List.set_cons_zero, List.set_cons_succ]
          refine hr_none 20 (some 37) rfl rfl (by kernel_rfl) (by kernel_rfl) (by kernel_rfl) rfl H1 ?_
          simp only [Act.put, List.setIfInBounds_toArray, List.set_cons_zero, List.set_cons_succ]
          refine hr_none 21 (some 38) rfl rfl (by kernel_rfl) (by kernel_rfl) (by kernel_rfl) rfl H1 ?_
          simp only [Act.put, List.setIfInBounds_toArray, List.set_cons_zero, List.set_cons_succ]
          refine hr_none 22 (some 39) rfl rfl (by kernel_rfl) (by kernel_rfl) (by kernel_rfl) rfl H1 ?_
          simp only [Act.put, List.setIfInBounds_toArray, List.set_cons_zero, List.set_cons_succ]
          refine hr_none 23 (some 40) rfl rfl (by kernel_rfl) (by kernel_rfl) (by kernel_rfl) rfl H1 ?_
          simp only [Act.put, List.setIfInBounds_toArray, List.set_cons_zero, List.set_cons_succ]
          refine hr_none 24 (some 41) rfl rfl (by kernel_rfl) (by kernel_rfl) (by kernel_rfl) rfl H1 ?_
          simp only [Act.put, List.setIfInBounds_toArray, List.set_cons_zero, List.set_cons_succ]
          refine hr_take_w 25 (some 42) (.bool true) rfl rfl (by kernel_rfl) (by kernel_rfl) (by kernel_rfl) rfl (fun W hW => by obtain ⟨h0, h1, h2, h3⟩ := hW; go_simp) H1 ?_
          simp only [Act.put, List.setIfInBounds_toArray, List.set_cons_zero, List.set_cons_succ]
          refine wpAnyH_done (by kernel_rfl) ?_ _
          refine NoPanic.normal ?_
          go_wp2
          go_ret
          rw [HR.out]
          exact ⟨rfl, hB.trans (E1.mono hB.size)⟩
      · have hge : ¬ (k : Int) < (n : Int) := by omega
        have HR : Hid (smI its jts = true) := by
          show _ = _
          refine decide_eq_true ?_
          have := HJ.out
          rwa [List.take_of_length_le (by simp; omega), List.take_of_length_le (by simp; omega)] at this
        go_wp2
        go_ret
        rw [HR.out]
        exact ⟨rfl, hB⟩
  · have hmb : ((n : Int) != (m : Int)) = true := by simp; omega
    have HR : Hid (smI its jts = false) := by
      show _ = _
      refine decide_eq_false fun e => hm ?_
      have := congrArg List.length e
      simp only [List.length_map] at this
      omega
    clear hm
    go_enter Tryz.func14, Tryz.ntmps14
    go_wp2
    go_ret
    rw [HR.out]
    exact ⟨rfl, Below.refl _ _⟩
end Go.Proofs.YtnicnfjickknjaaGreatDoor

namespace Go.Proofs.YtnicnfjickknjaaGreatDoor
open Go.RowKit

set_option maxRecDepth 100000 in
set_option maxHeartbeats 4000000 in
theorem rresults_any (w : World) (e : Int) (ao bo : Option Addr) (n cap cap2 : Nat) (l l2 : List CA) (m : Bool) (L : CL w ao n cap l) (L2 : CL w bo n cap2 l2) (hl : l.map CA.c = l2.map CA.c) (hn : n ≤ 1000) :
    Calls Tryz.prog 25 #[resV e ao n cap m, resV e bo n cap2 m] w fun x w' => x = .returned (.bool true) ∧ Below w.heap.size w w' := by
  have l1 : l.length = n := L.len
  have l3 : l2.length = n := L2.len
  have B : Below w.heap.size w ((w.alloc (Obj.cells #[.int .i64 e, .slice ao n cap, .bool m] 50)).alloc (Obj.cells #[.int .i64 e, .slice bo n cap2, .bool m] 50)) := ((Below.refl _ w).alloc (Nat.le_refl _) _).alloc (by simp) _
  have K : RC ((w.alloc (Obj.cells #[.int .i64 e, .slice ao n cap, .bool m] 50)).alloc (Obj.cells #[.int .i64 e, .slice bo n cap2, .bool m] 50)) w.heap.size e ao n cap m := (heap_alloc_old _ _ (by simp)).trans (heap_alloc_new w _)
  have K2 : RC ((w.alloc (Obj.cells #[.int .i64 e, .slice ao n cap, .bool m] 50)).alloc (Obj.cells #[.int .i64 e, .slice bo n cap2, .bool m] 50)) (w.heap.size + 1) e bo n cap2 m := by
    have := heap_alloc_new (w.alloc (Obj.cells #[.int .i64 e, .slice ao n cap, .bool m] 50)) (Obj.cells #[.int .i64 e, .slice bo n cap2, .bool m] 50)
    unfold RC
    simpa using this
  have M1 := L.below B
  have M2 := L2.below B
  have HL : Hid (l.map CA.c = l2.map CA.c) := hl
  unfold resV
  clear L L2 hl
  go_enter Tryz.func25, Tryz.ntmps25
  go_wp2_with fail
  obtain ⟨w1, hw1⟩ : ∃ W, W = (w.alloc (Obj.cells #[.int .i64 e, .slice ao n cap, .bool m] 50)).alloc (Obj.cells #[.int .i64 e, .slice bo n cap2, .bool m] 50) := ⟨_, rfl⟩
  obtain ⟨N, hN⟩ : ∃ N, N = w.heap.size := ⟨_, rfl⟩
  rw [← hw1] at B K K2 M1 M2 ⊢
  rw [← hN] at B K K2 ⊢
  have HN : Hid (N = w.heap.size) := hN
  clear hw1 hN
  go_loopw [5, 6, 7] (fun i _ _ wr => ∃ k : Nat, k ≤ n ∧ i = .int .i64 k ∧ Below N w wr ∧ Below w1.heap.size w1 wr) (fun i _ _ _ => n - (intOf i).toNat)
  case atStart => exact ⟨0, Nat.zero_le _, rfl, B, Below.refl _ _⟩
  case round =>
    clear B
    obtain ⟨k, hk, rfl, B, C1⟩ := hrel
    have A1 := K.keep C1
    have A2 := K2.keep C1
    have r1 := A1.c1
    have r2 := A2.c1
    by_cases hlt : k < n
    · obtain ⟨b1, o1, rfl, hc1⟩ := M1.at (by omega)
      obtain ⟨b2, o2, rfl, hc2⟩ := M2.at (by omega)
      have X1 := (hc1 k (by omega)).below C1
      have X2 := (hc2 k (by omega)).below C1
      have ok1 : (l[k]).ok wr := (M1.ok _ (List.getElem_mem (by omega))).below C1
      have ok2 : (l2[k]).ok wr := (M2.ok _ (List.getElem_mem (by omega))).below C1
      have hxy : (l[k]).c = (l2[k]).c := by
        have e1 : (l.map CA.c)[k]? = some (l[k]).c := by simp [show k < l.length by omega]
        have e2 : (l2.map CA.c)[k]? = some (l2[k]).c := by simp [show k < l2.length by omega]
        rw [HL.out] at e1
        exact Option.some.inj (e1.symm.trans e2)
      obtain ⟨x, hx⟩ : ∃ c : CA, c = l[k] := ⟨_, rfl⟩
      obtain ⟨y, hy⟩ : ∃ c : CA, c = l2[k] := ⟨_, rfl⟩
      rw [← hx] at X1 ok1 hxy
      rw [← hy] at X2 ok2 hxy
      clear hx hy hc1 hc2
      obtain ⟨xr, xf, xq, xt, xv, xg⟩ := x
      obtain ⟨yr, yf, yq, yt, yv, yg⟩ := y
      simp only [CA.c, CV.mk.injEq] at hxy
      obtain ⟨rfl, rfl, rfl, rfl, hv, rfl⟩ := hxy
      have V1 := ok1.va
      have V2 := ok2.va
      rw [hv] at V1
      simp only at V1 V2
      clear ok1 ok2 hv
      have i6 : (k : Int) < (n : Int) := by omega
      obtain ⟨p0, p1, p2, p3, p4, p5⟩ := X1
      obtain ⟨q0, q1, q2, q3, q4, q5⟩ := X2
      simp only at p0 p1 p2 p3 p4 p5 q0 q1 q2 q3 q4 q5
      have a1 := A1.lt
      have a2 := A2.lt
      have b1l := World.block_lt_of_cell? wr _ p0
      have b2l := World.block_lt_of_cell? wr _ q0
      simp only at b1l b2l
      go_wp2_with fail
      go_region
      · have Bv : Below wr.heap.size wr ((wr.alloc (Obj.cells #[.string xr, .string xf, .string xq, .int .u64 xt, .slice xv.ao xv.n xv.cap, .bool xg] 27)).alloc (Obj.cells #[.string xr, .string xf, .string xq, .int .u64 xt, .slice yv.ao yv.n yv.cap, .bool xg] 27)).drew := (((Below.refl _ _).alloc (Nat.le_refl _) _).alloc (by simp) _).drew
        have S1 := V1.below Bv
        have S2 := V2.below Bv
        have B6 := B.trans (Bv.mono (by have := B.size; have := HN.out; omega))
        have D6 := C1.trans (Bv.mono C1.size)
        clear V1 V2 B C1 Bv A1 A2 M1 M2 K K2
        go_wp2_with fail
        refine (same_any _ _ _ _ _ _ _ _ _ S1 S2).mono ?_
        rintro x w7 ⟨rfl, q, hw⟩
        rw [decide_eq_true rfl]
        have B7 : Below N w w7 := by rw [hw]; exact belN B6 q
        have D7 : Below w1.heap.size w1 w7 := by rw [hw]; exact belN D6 q
        clear hw S1 S2 B6 D6
        go_wp2
        go_roundw
        case rel => exact ⟨k + 1, by omega, by go_num, B7, D7⟩
        case measure => simp [intOf]; omega
      · have Bv : Below wr.heap.size wr ((wr.alloc (Obj.cells #[.string xr, .string xf, .string xq, .int .u64 xt, .slice yv.ao yv.n yv.cap, .bool xg] 27)).alloc (Obj.cells #[.string xr, .string xf, .string xq, .int .u64 xt, .slice xv.ao xv.n xv.cap, .bool xg] 27)).drew := (((Below.refl _ _).alloc (Nat.le_refl _) _).alloc (by simp) _).drew
        have S1 := V1.below Bv
        have S2 := V2.below Bv
        have B6 := B.trans (Bv.mono (by have := B.size; have := HN.out; omega))
        have D6 := C1.trans (Bv.mono C1.size)
        clear V1 V2 B C1 Bv A1 A2 M1 M2 K K2
        go_wp2_with fail
        refine (same_any _ _ _ _ _ _ _ _ _ S1 S2).mono ?_
        rintro x w7 ⟨rfl, q, hw⟩
        rw [decide_eq_true rfl]
        have B7 : Below N w w7 := by rw [hw]; exact belN B6 q
        have D7 : Below w1.heap.size w1 w7 := by rw [hw]; exact belN D6 q
        clear hw S1 S2 B6 D6
        go_wp2
        go_roundw
        case rel => exact ⟨k + 1, by omega, by go_num, B7, D7⟩
        case measure => simp [intOf]; omega
    · have i6 : (n : Int) ≤ (k : Int) := by omega
      go_wp2
      go_ret
      exact ⟨rfl, by rw [← HN.out]; exact B⟩
end Go.Proofs.YtnicnfjickknjaaGreatDoor

namespace Go
section
variable {P : Program} {ops : Array Oper} {S : World → Prop} {Q : Exit → Act → World → Prop} {fuel : Nat} {listed : Array Bool} {a : Act} {w : World}
theorem op_do (i : Nat) (d : Option Tmp) (v : Value) {oi : Oper} {w' : World} (hi : ops[i]? = some oi) (hd : oi.dst = d) (hg : oi.guard = none) (hrun : (execOp a.eval oi).run P w = .ok (.value v) w') (hS : S w')
    (h : wpAnyH P .any ops (NoPanic Q) S fuel (listed.setIfInBounds i true) (a.put d v) w') : wpOp P ops (NoPanic Q) i (fun a' w' => S w' ∧ wpAnyH P .any ops (NoPanic Q) S fuel (listed.setIfInBounds i true) a' w') a w := by
  have hw : Region.wanted oi (yielded ops a.tmps) = true := by simp [Region.wanted, hg]
  unfold wpOp
  simp only [hi, hw, if_true, Oper.wp, hrun, Oper.upon, hd]
  exact .inl ⟨hS, h⟩
theorem op_call (i : Nat) (d : Option Tmp) {oi : Oper} (f : FuncId) (args : Array Value) (hi : ops[i]? = some oi) (hd : oi.dst = d) (hg : oi.guard = none) (hrun : (execOp a.eval oi).run P w = .ok (.enter f args) w)
    (R : Value → World → Prop) (hc : Calls P f args w fun e w' => ∃ v, e = .returned v ∧ R v w')
    (h : ∀ v w', R v w' → S w' ∧ wpAnyH P .any ops (NoPanic Q) S fuel (listed.setIfInBounds i true) (a.put d v) w') : wpOp P ops (NoPanic Q) i (fun a' w' => S w' ∧ wpAnyH P .any ops (NoPanic Q) S fuel (listed.setIfInBounds i true) a' w') a w := by
  have hw : Region.wanted oi (yielded ops a.tmps) = true := by simp [Region.wanted, hg]
  unfold wpOp
  simp only [hi, hw, if_true, Oper.wp, hrun, Oper.upon, hd]
  refine .inl (hc.mono ?_)
  rintro e w' ⟨v, rfl, hR⟩
  exact h v w' hR
theorem hr_two {i j : Nat} (hr : Region.ready .any ops listed = [i, j]) (h1 : wpOp P ops (NoPanic Q) i (fun a' w' => S w' ∧ wpAnyH P .any ops (NoPanic Q) S fuel (listed.setIfInBounds i true) a' w') a w)
    (h2 : wpOp P ops (NoPanic Q) j (fun a' w' => S w' ∧ wpAnyH P .any ops (NoPanic Q) S fuel (listed.setIfInBounds j true) a' w') a w) : wpAnyH P .any ops (NoPanic Q) S (fuel + 1) listed a w := by
  refine wpAnyH_all hr (by simp) fun k hk => ?_
  simp only [List.mem_cons, List.not_mem_nil, or_false] at hk
  rcases hk with rfl | rfl
  · exact h1
  · exact h2
/-- append carried out, to a row of the call's own. -/
theorem hr_own (i : Nat) (d : Option Tmp) {oi : Oper} (hi : ops[i]? = some oi) (hd : oi.dst = d) (hr : Region.ready .any ops listed = [i]) (hg : oi.guard = none) (s x : Operand) (t : TypeId)
    (ho : oi.op = .call { callee := .builtin .append, args := #[s, x], argTypes := #[t, t] })
    (base : Nat) (e : TypeId) (inf : TypeInfo) (z : Value) (size bytes : Nat) (ht : P.underlying t = some (.slice e)) (hinf : P.info? e = some inf) (hz : inf.zero = some z)
    (hsize : inf.size = size) (hby : inf.bytes = bytes) (hzs : z.cells.size = size) (hsz : 0 < size)
    (v : Value) (n : Nat) (xs : List Value) (hs : a.eval s = v) (hown : w.ownsRow base e size v n xs)
    (ad : Addr) (m c : Nat) (news : List Value) (hx : a.eval x = .slice (some ad) m c) (hl : news.length = m * size) (hnews : ∀ j u, news[j]? = some u → w.cell? (ad.add j) = some u) (h1 : ∀ u ∈ news, u.oneCell' = true)
    (h63 : n + m ≤ maxLen) (hbytes : (n + m) * bytes ≤ 140737488355328) (hbase : base ≤ w.heap.size)
    (h : ∀ v' w', w'.ownsRow base e size v' (n + m) (xs ++ news) → w.grownBy w' v.ownBlock → (∀ g, v'.ownBlock = some g → v.ownBlock = some g ∨ w.heap.size ≤ g) → S w' ∧ wpAnyH P .any ops (NoPanic Q) S fuel (listed.setIfInBounds i true) (a.put d v') w') : wpAnyH P .any ops (NoPanic Q) S (fuel + 1) listed a w := by
  refine wpAnyH_all hr (by simp) fun j hj => ?_
  obtain rfl := List.mem_singleton.1 hj
  have hw : Region.wanted oi (yielded ops a.tmps) = true := by simp [Region.wanted, hg]
  obtain ⟨v', w', hrun, h2, h3, h4⟩ := Go.Proofs.YtnicnfjickknjaaGreatDoor.run_append_own2 (P := P) w base t oi.type e inf z size bytes ht hinf hz hsize hby hzs hsz v n xs hown ad m c news hl hnews h1 h63 hbytes hbase
  unfold wpOp
  simp only [hi, hw, if_true]
  refine .inl ?_
  unfold Oper.wp execOp
  simp only [ho, resolve, invoke, builtin, Sem.run_bind, Sem.run_pure, Result.andThen_ok, List.map_toArray, List.map_cons, List.map_nil, hs, hx, hrun, Oper.upon, hd]
  exact h v' w' h2 h3 h4
end
end Go
