/-
  Texts in one: CkJudge, POr2, CkRead, NMem, SMem, SortP, PSort, PLf.
-/
import Derived.Test.YtiabdcejibeciaaGreatDoorChunkCutsZ11
import Derived.Test.YtiabdcejibeciaaGreatDoorChunkCutsZ7
import Derived.Test.YtiabdcejibeciaaGreatDoorChunkCutsZ2
import Derived.Test.YtiabdcejibeciaaGreatDoorChunkCutsZ0
import Derived.Test.YtiabdcejibeciaaGreatDoorChunkCutsZ9
import Derived.Test.YtiabdcejibeciaaGreatDoorChunkCutsZ3
import Derived.Test.YtiabdcejibeciaaGreatDoorChunkCutsZ5
import Derived.Shelf.SlGeneric
import Derived.Shelf.SlSortCmp.WholeK
import Derived.Ground.SlsfProg
import Derived.Test.YtiabdcejibeciaaGreatDoorProg
namespace Go.Proofs.YtiabdcejibeciaaGreatDoor
open Go.RowKit

theorem kindCk_rise {l : List It} (h : headIs l = true) : kindCk l = if rises l then 0 else 3 := by
  unfold kindCk
  rw [h, Bool.true_and]

set_option maxHeartbeats 4000000 in
set_option maxRecDepth 100000 in
theorem ckjudge_any (w : World) (ao : Option Addr) (n cap : Nat) (its : List IP) (h : IL w ao n cap its) (hn : n ≤ 1000000) :
    Calls Tryz.prog 38 #[.slice ao n cap] w fun e w' => e = .returned (.int .i64 (kindCk (its.map IP.it))) ∧ Below w.heap.size w w' := by
  have hl1 := Nat.le_of_eq h.len
  have hl2 := Nat.le_of_eq h.len.symm
  have hni : (n : Int) ≤ 1000000 := by omega
  by_cases h0 : n = 0
  · subst h0
    obtain rfl : its = [] := List.eq_nil_of_length_eq_zero (by omega)
    clear h
    go_enter Tryz.func38, Tryz.ntmps38
    go_wp2
    go_ret
    exact ⟨rfl, Below.refl _ _⟩
  obtain ⟨b, off, rfl, hc⟩ := h.at (by omega)
  have HC : Hid (∀ i (hi : i < its.length), w.cell? ⟨b, off + i * 2, none⟩ = some its[i].k.val ∧ w.cell? ⟨b, off + i * 2 + 1, none⟩ = some its[i].v.val) := hc
  have hnb : ((n : Int) == 0) = false := by simp; omega
  have hn1 : (0 : Int) < (n : Int) := by omega
  have c0 := (hc 0 (by omega)).1
  rw [Nat.zero_mul, Nat.add_zero] at c0
  have HS := h.sl its[0] (List.getElem_mem (by omega))
  have H0 : Hid (its.map IP.it = its[0].it :: (its.map IP.it).drop 1) := by
    show _ = _
    rw [← List.map_drop, ← List.map_cons, ← List.drop_eq_getElem_cons (by omega), List.drop_zero]
  obtain ⟨p0, hp0⟩ : ∃ p, p = its[0] := ⟨_, rfl⟩
  rw [← hp0] at c0 HS H0
  unfold Part.val at c0
  have hlen := HS.1.len
  clear hc hp0 h0
  by_cases hk : p0.k.n = 0
  · have hkb : ((p0.k.n : Int) == 0) = true := by simp [hk]
    have HR : Hid (kindCk (its.map IP.it) = 3) := by
      show _ = _
      have e : p0.k.xs = [] := List.eq_nil_of_length_eq_zero (by omega)
      have : headIs (its.map IP.it) = false := by
        rw [H0.out]
        show decide (p0.k.xs ≠ []) = false
        rw [e]
        rfl
      unfold kindCk
      rw [this]
      rfl
    clear HS hlen hk h
    go_enter Tryz.func38, Tryz.ntmps38
    go_wp2
    go_ret
    rw [HR.out]
    exact ⟨rfl, Below.refl _ _⟩
  have hkb : ((p0.k.n : Int) == 0) = false := by simp [hk]
  have HH : Hid (headIs (its.map IP.it) = true) := by
    show _ = _
    rw [H0.out]
    show decide (p0.k.xs ≠ []) = true
    refine decide_eq_true fun e => hk ?_
    rw [← hlen, e]
    rfl
  clear HS hlen hk H0
  go_enter Tryz.func38, Tryz.ntmps38
  go_wp2_with fail
  go_loopw [18] (fun i wr => ∃ k : Nat, k + 1 ≤ n ∧ i = .int .i64 k ∧ Hid (∀ j (h : j + 1 < its.length), j < k → cmpL its[j].k.xs its[j + 1].k.xs < 0) ∧ Below w.heap.size w wr) (fun i _ => n - 1 - (intOf i).toNat)
  case atStart => exact ⟨0, by omega, rfl, fun j _ hj => by omega, Below.refl _ _⟩
  case round =>
    obtain ⟨k, hkn, rfl, HJ, hB⟩ := hrel
    by_cases hlt : k + 1 < n
    · have hki : (k : Int) < (n : Int) - 1 := by omega
      have hki1 : (k : Int) < (n : Int) := by omega
      have hki2 : (k : Int) + 1 < (n : Int) := by omega
      have hkl : k < its.length := by omega
      have hkl2 : k + 1 < its.length := by omega
      obtain ⟨c1, c2⟩ := HC.out k hkl
      obtain ⟨d1, d2⟩ := HC.out (k + 1) hkl2
      have S1 := (h.sl its[k] (List.getElem_mem hkl))
      have S2 := (h.sl its[k + 1] (List.getElem_mem hkl2))
      have HG : Hid (∀ (z : k + 1 < its.length), cmpL its[k].k.xs its[k + 1].k.xs < 0 ↔ cmpL its[k].k.xs its[k + 1].k.xs < 0) := fun _ => Iff.rfl
      obtain ⟨p, hp⟩ : ∃ p, p = its[k] := ⟨_, rfl⟩
      obtain ⟨q, hq⟩ : ∃ q, q = its[k + 1] := ⟨_, rfl⟩
      have HP : Hid (p = its[k] ∧ q = its[k + 1]) := ⟨hp, hq⟩
      rw [← hp] at c1 c2 S1
      rw [← hq] at d1 d2 S2
      rw [← hB.cell (World.block_lt_of_cell? _ _ c1)] at c1
      rw [← hB.cell (World.block_lt_of_cell? _ _ c2)] at c2
      rw [← hB.cell (World.block_lt_of_cell? _ _ d1)] at d1
      rw [← hB.cell (World.block_lt_of_cell? _ _ d2)] at d2
      have CB : ∀ W, Below wr.heap.size wr W → Calls Tryz.prog 43 #[.agg #[p.k.val, p.v.val], .agg #[q.k.val, q.v.val]] W fun e w' => e = .returned (.bool (decide (cmpL p.k.xs q.k.xs < 0))) ∧ Below W.heap.size W w' := fun W hW => ckbelow_any W p q ((S1.below hB).below hW) ((S2.below hB).below hW)
      unfold Part.val at c1 c2 d1 d2 CB
      have HWR : Hid (IntKind.i64.wrap ((k : Int) + 1) = (k : Int) + 1) := by
        show _ = _
        have := wrap_nat (k := k + 1) (by omega)
        simpa using this
      clear hp hq S1 S2 HG
      by_cases hc : cmpL p.k.xs q.k.xs < 0
      · rw [decide_eq_true hc] at CB
        have HCC : Hid (cmpL p.k.xs q.k.xs < 0) := hc
        clear hc
        go_wp2_with fail
        have HS : Hid (∀ V, Below wr.heap.size wr V → V.cell? ⟨b, off + k * 2, none⟩ = some (.slice p.k.ao p.k.n p.k.cap) ∧ V.cell? ⟨b, off + k * 2 + 1, none⟩ = some (.slice p.v.ao p.v.n p.v.cap) ∧ V.cell? ⟨b, off + (k + 1) * 2, none⟩ = some (.slice q.k.ao q.k.n q.k.cap) ∧ V.cell? ⟨b, off + (k + 1) * 2 + 1, none⟩ = some (.slice q.v.ao q.v.n q.v.cap)) := fun V hV => ⟨(hV.cell (World.block_lt_of_cell? _ _ c1)).trans c1, (hV.cell (World.block_lt_of_cell? _ _ c2)).trans c2, (hV.cell (World.block_lt_of_cell? _ _ d1)).trans d1, (hV.cell (World.block_lt_of_cell? _ _ d2)).trans d2⟩
        have E0 : Below wr.heap.size wr wr.drew := (Below.refl _ _).drew
        refine wp_region_noPanic ?_
        refine wp_region_held_drew (S := fun V => V.cell? ⟨b, off + k * 2, none⟩ = some (.slice p.k.ao p.k.n p.k.cap) ∧ V.cell? ⟨b, off + k * 2 + 1, none⟩ = some (.slice p.v.ao p.v.n p.v.cap) ∧ V.cell? ⟨b, off + (k + 1) * 2, none⟩ = some (.slice q.k.ao q.k.n q.k.cap) ∧ V.cell? ⟨b, off + (k + 1) * 2 + 1, none⟩ = some (.slice q.v.ao q.v.n q.v.cap)) (by kernel_rfl) (HS.out _ E0) (fun H0 => ?_)
        obtain ⟨v0, hv0⟩ : ∃ v, v = wr.drew := ⟨_, rfl⟩
        rw [← hv0] at H0 E0 ⊢
        clear hv0
        refine hr_take_w 0 (some 21) (.slice (some ⟨b, off, none⟩) n cap) rfl rfl (by kernel_rfl) (by kernel_rfl) (by kernel_rfl) rfl (fun W hW => by obtain ⟨h0, h1, h2, h3⟩ := hW; go_simp) H0 ?_
        simp only [Act.put, List.setIfInBounds_toArray, List.set_cons_zero, List.set_cons_succ]
        refine hr_take_w 1 (some 22) (.int .i64 k) rfl rfl (by kernel_rfl) (by kernel_rfl) (by kernel_rfl) rfl (fun W hW => by obtain ⟨h0, h1, h2, h3⟩ := hW; go_simp) H0 ?_
        simp only [Act.put, List.setIfInBounds_toArray, List.set_cons_zero, List.set_cons_succ]
        refine hr_take_w 2 (some 23) (.pointer (some ⟨b, off + k * 2, none⟩)) rfl rfl (by kernel_rfl) (by kernel_rfl) (by kernel_rfl) rfl (fun W hW => by obtain ⟨h0, h1, h2, h3⟩ := hW; go_simp) H0 ?_
        simp only [Act.put, List.setIfInBounds_toArray, List.set_cons_zero, List.set_cons_succ]
        refine hr_take_w 3 (some 24) (.agg #[.slice p.k.ao p.k.n p.k.cap, .slice p.v.ao p.v.n p.v.cap]) rfl rfl (by kernel_rfl) (by kernel_rfl) (by kernel_rfl) rfl (fun W hW => by obtain ⟨h0, h1, h2, h3⟩ := hW; go_simp) H0 ?_
        simp only [Act.put, List.setIfInBounds_toArray, List.set_cons_zero, List.set_cons_succ]
        refine hr_take_w 4 (some 25) (.slice (some ⟨b, off, none⟩) n cap) rfl rfl (by kernel_rfl) (by kernel_rfl) (by kernel_rfl) rfl (fun W hW => by obtain ⟨h0, h1, h2, h3⟩ := hW; go_simp) H0 ?_
        simp only [Act.put, List.setIfInBounds_toArray, List.set_cons_zero, List.set_cons_succ]
        refine hr_take_w 5 (some 26) (.int .i64 k) rfl rfl (by kernel_rfl) (by kernel_rfl) (by kernel_rfl) rfl (fun W hW => by obtain ⟨h0, h1, h2, h3⟩ := hW; go_simp) H0 ?_
        simp only [Act.put, List.setIfInBounds_toArray, List.set_cons_zero, List.set_cons_succ]
        refine hr_take_w 6 (some 27) (.int .i64 (k + 1)) rfl rfl (by kernel_rfl) (by kernel_rfl) (by kernel_rfl) rfl (fun W hW => by obtain ⟨h0, h1, h2, h3⟩ := hW; go_simp; exact HWR.out) H0 ?_
        simp only [Act.put, List.setIfInBounds_toArray, List.set_cons_zero, List.set_cons_succ]
        refine hr_take_w 7 (some 28) (.pointer (some ⟨b, off + (k + 1) * 2, none⟩)) rfl rfl (by kernel_rfl) (by kernel_rfl) (by kernel_rfl) rfl (fun W hW => by obtain ⟨h0, h1, h2, h3⟩ := hW; go_simp; intro hneg; omega) H0 ?_
        simp only [Act.put, List.setIfInBounds_toArray, List.set_cons_zero, List.set_cons_succ]
        refine hr_take_w 8 (some 29) (.agg #[.slice q.k.ao q.k.n q.k.cap, .slice q.v.ao q.v.n q.v.cap]) rfl rfl (by kernel_rfl) (by kernel_rfl) (by kernel_rfl) rfl (fun W hW => by obtain ⟨h0, h1, h2, h3⟩ := hW; go_simp) H0 ?_
        simp only [Act.put, List.setIfInBounds_toArray, List.set_cons_zero, List.set_cons_succ]
        refine hr_call_w 9 (some 30) 43 #[.agg #[.slice p.k.ao p.k.n p.k.cap, .slice p.v.ao p.v.n p.v.cap], .agg #[.slice q.k.ao q.k.n q.k.cap, .slice q.v.ao q.v.n q.v.cap]] rfl rfl (by kernel_rfl) rfl (by go_simp) (fun v w' => v = .bool true ∧ Below v0.heap.size v0 w') ((CB v0 E0).mono (by
          rintro e w' ⟨rfl, C⟩
          exact ⟨_, rfl, rfl, C⟩)) ?_
        rintro v v1 ⟨rfl, C0⟩
        have E1 := E0.trans (C0.mono E0.size)
        have H1 := HS.out v1 E1
        refine ⟨H1, ?_⟩
        simp only [Act.put, List.setIfInBounds_toArray, List.set_cons_zero, List.set_cons_succ]
        refine hr_take_w 10 (some 31) (.bool false) rfl rfl (by kernel_rfl) (by kernel_rfl) (by kernel_rfl) rfl (fun W hW => by obtain ⟨h0, h1, h2, h3⟩ := hW; go_simp) H1 ?_
        simp only [Act.put, List.setIfInBounds_toArray, List.set_cons_zero, List.set_cons_succ]
        refine wpAnyH_done (by kernel_rfl) ?_ _
        refine NoPanic.normal ?_
        clear CB c1 c2 d1 d2
        go_wp2
        go_roundw
        case rel =>
          refine ⟨k + 1, by omega, by go_num, fun j hj hjk => ?_, hB.trans (E1.mono hB.size)⟩
          by_cases e : j = k
          · subst e
            have := HCC.out
            rw [HP.out.1, HP.out.2] at this
            exact this
          · exact HJ.out j hj (by omega)
        case measure => simp [intOf]; omega
      · rw [decide_eq_false hc] at CB
        have HR : Hid (kindCk (its.map IP.it) = 3) := by
          show _ = _
          rw [kindCk_rise HH.out, if_neg]
          intro hr
          have := (rises_at _).1 hr k (by simpa using hkl2)
          simp only [List.getElem_map] at this
          rw [← HP.out.1, ← HP.out.2] at this
          exact hc this
        clear hc
        go_wp2_with fail
        have HS : Hid (∀ V, Below wr.heap.size wr V → V.cell? ⟨b, off + k * 2, none⟩ = some (.slice p.k.ao p.k.n p.k.cap) ∧ V.cell? ⟨b, off + k * 2 + 1, none⟩ = some (.slice p.v.ao p.v.n p.v.cap) ∧ V.cell? ⟨b, off + (k + 1) * 2, none⟩ = some (.slice q.k.ao q.k.n q.k.cap) ∧ V.cell? ⟨b, off + (k + 1) * 2 + 1, none⟩ = some (.slice q.v.ao q.v.n q.v.cap)) := fun V hV => ⟨(hV.cell (World.block_lt_of_cell? _ _ c1)).trans c1, (hV.cell (World.block_lt_of_cell? _ _ c2)).trans c2, (hV.cell (World.block_lt_of_cell? _ _ d1)).trans d1, (hV.cell (World.block_lt_of_cell? _ _ d2)).trans d2⟩
        have E0 : Below wr.heap.size wr wr.drew := (Below.refl _ _).drew
        refine wp_region_noPanic ?_
        refine wp_region_held_drew (S := fun V => V.cell? ⟨b, off + k * 2, none⟩ = some (.slice p.k.ao p.k.n p.k.cap) ∧ V.cell? ⟨b, off + k * 2 + 1, none⟩ = some (.slice p.v.ao p.v.n p.v.cap) ∧ V.cell? ⟨b, off + (k + 1) * 2, none⟩ = some (.slice q.k.ao q.k.n q.k.cap) ∧ V.cell? ⟨b, off + (k + 1) * 2 + 1, none⟩ = some (.slice q.v.ao q.v.n q.v.cap)) (by kernel_rfl) (HS.out _ E0) (fun H0 => ?_)
        obtain ⟨v0, hv0⟩ : ∃ v, v = wr.drew := ⟨_, rfl⟩
        rw [← hv0] at H0 E0 ⊢
        clear hv0
        refine hr_take_w 0 (some 21) (.slice (some ⟨b, off, none⟩) n cap) rfl rfl (by kernel_rfl) (by kernel_rfl) (by kernel_rfl) rfl (fun W hW => by obtain ⟨h0, h1, h2, h3⟩ := hW; go_simp) H0 ?_
        simp only [Act.put, List.setIfInBounds_toArray, List.set_cons_zero, List.set_cons_succ]
        refine hr_take_w 1 (some 22) (.int .i64 k) rfl rfl (by kernel_rfl) (by kernel_rfl) (by kernel_rfl) rfl (fun W hW => by obtain ⟨h0, h1, h2, h3⟩ := hW; go_simp) H0 ?_
        simp only [Act.put, List.setIfInBounds_toArray, List.set_cons_zero, List.set_cons_succ]
        refine hr_take_w 2 (some 23) (.pointer (some ⟨b, off + k * 2, none⟩)) rfl rfl (by kernel_rfl) (by kernel_rfl) (by kernel_rfl) rfl (fun W hW => by obtain ⟨h0, h1, h2, h3⟩ := hW; go_simp) H0 ?_
        simp only [Act.put, List.setIfInBounds_toArray, List.set_cons_zero, List.set_cons_succ]
        refine hr_take_w 3 (some 24) (.agg #[.slice p.k.ao p.k.n p.k.cap, .slice p.v.ao p.v.n p.v.cap]) rfl rfl (by kernel_rfl) (by kernel_rfl) (by kernel_rfl) rfl (fun W hW => by obtain ⟨h0, h1, h2, h3⟩ := hW; go_simp) H0 ?_
        simp only [Act.put, List.setIfInBounds_toArray, List.set_cons_zero, List.set_cons_succ]
        refine hr_take_w 4 (some 25) (.slice (some ⟨b, off, none⟩) n cap) rfl rfl (by kernel_rfl) (by kernel_rfl) (by kernel_rfl) rfl (fun W hW => by obtain ⟨h0, h1, h2, h3⟩ := hW; go_simp) H0 ?_
        simp only [Act.put, List.setIfInBounds_toArray, List.set_cons_zero, List.set_cons_succ]
        refine hr_take_w 5 (some 26) (.int .i64 k) rfl rfl (by kernel_rfl) (by kernel_rfl) (by kernel_rfl) rfl (fun W hW => by obtain ⟨h0, h1, h2, h3⟩ := hW; go_simp) H0 ?_
        simp only [Act.put, List.setIfInBounds_toArray, List.set_cons_zero, List.set_cons_succ]
        refine hr_take_w 6 (some 27) (.int .i64 (k + 1)) rfl rfl (by kernel_rfl) (by kernel_rfl) (by kernel_rfl) rfl (fun W hW => by obtain ⟨h0, h1, h2, h3⟩ := hW; go_simp; exact HWR.out) H0 ?_
        simp only [Act.put, List.setIfInBounds_toArray, List.set_cons_zero, List.set_cons_succ]
        refine hr_take_w 7 (some 28) (.pointer (some ⟨b, off + (k + 1) * 2, none⟩)) rfl rfl (by kernel_rfl) (by kernel_rfl) (by kernel_rfl) rfl (fun W hW => by obtain ⟨h0, h1, h2, h3⟩ := hW; go_simp; intro hneg; omega) H0 ?_
        simp only [Act.put, List.setIfInBounds_toArray, List.set_cons_zero, List.set_cons_succ]
        refine hr_take_w 8 (some 29) (.agg #[.slice q.k.ao q.k.n q.k.cap, .slice q.v.ao q.v.n q.v.cap]) rfl rfl (by kernel_rfl) (by kernel_rfl) (by kernel_rfl) rfl (fun W hW => by obtain ⟨h0, h1, h2, h3⟩ := hW; go_simp) H0 ?_
        simp only [Act.put, List.setIfInBounds_toArray, List.set_cons_zero, List.set_cons_succ]
        refine hr_call_w 9 (some 30) 43 #[.agg #[.slice p.k.ao p.k.n p.k.cap, .slice p.v.ao p.v.n p.v.cap], .agg #[.slice q.k.ao q.k.n q.k.cap, .slice q.v.ao q.v.n q.v.cap]] rfl rfl (by kernel_rfl) rfl (by go_simp) (fun v w' => v = .bool false ∧ Below v0.heap.size v0 w') ((CB v0 E0).mono (by
          rintro e w' ⟨rfl, C⟩
          exact ⟨_, rfl, rfl, C⟩)) ?_
        rintro v v1 ⟨rfl, C0⟩
        have E1 := E0.trans (C0.mono E0.size)
        have H1 := HS.out v1 E1
        refine ⟨H1, ?_⟩
        simp only [Act.put, List.setIfInBounds_toArray, List.set_cons_zero, List.set_cons_succ]
        refine hr_take_w 10 (some 31) (.bool true) rfl rfl (by kernel_rfl) (by kernel_rfl) (by kernel_rfl) rfl (fun W hW => by obtain ⟨h0, h1, h2, h3⟩ := hW; go_simp) H1 ?_
        simp only [Act.put, List.setIfInBounds_toArray, List.set_cons_zero, List.set_cons_succ]
        refine wpAnyH_done (by kernel_rfl) ?_ _
        refine NoPanic.normal ?_
        clear CB c1 c2 d1 d2
        go_wp2
        go_ret
        rw [HR.out]
        exact ⟨rfl, hB.trans (E1.mono hB.size)⟩
    · have hge : ¬ (k : Int) < (n : Int) - 1 := by omega
      have HR : Hid (kindCk (its.map IP.it) = 0) := by
        show _ = _
        rw [kindCk_rise HH.out, if_pos]
        refine (rises_at _).2 fun j hj => ?_
        simp only [List.length_map] at hj
        simp only [List.getElem_map]
        exact HJ.out j hj (by omega)
      go_wp2
      go_ret
      rw [HR.out]
      exact ⟨rfl, hB⟩
end Go.Proofs.YtiabdcejibeciaaGreatDoor

namespace Go.Proofs.YtiabdcejibeciaaGreatDoor
open Go.RowKit

def or2 (a b : Int) : Int := if a = 0 then b else a
set_option maxRecDepth 100000 in
set_option maxHeartbeats 2000000 in
theorem por2_any (w : World) (g : Nat) (c0 c1 : Int) (hg : w.heap[g]? = some (.cells #[.int .i64 c0, .int .i64 c1] 26)) :
    Calls Tryz.prog 36 #[.slice (some ⟨g, 0, none⟩) 2 2] w fun e w' => e = .returned (.int .i64 (or2 c0 c1)) ∧ w' = w := by
  have q0 : w.cell? ⟨g, 0, none⟩ = some (.int .i64 c0) := cell_of_row w g 0 _ _ _ hg
  have q1 : w.cell? ⟨g, 1, none⟩ = some (.int .i64 c1) := cell_of_row w g 1 _ _ _ hg
  clear hg
  go_enter Tryz.func36, Tryz.ntmps36
  go_wp2_with fail
  go_loopw [5, 8] (fun _ i wr => wr = w ∧ ∃ j : Nat, i = .int .i64 j ∧ j ≤ 2 ∧ (0 < j → c0 = 0) ∧ (1 < j → c1 = 0)) (fun _ i _ => 2 - (intOf i).toNat)
  case atStart => exact ⟨rfl, 0, rfl, by omega, by omega, by omega⟩
  case round =>
    obtain ⟨rfl, j, rfl, hj, h1, h2⟩ := hrel
    obtain rfl | rfl | rfl : j = 0 ∨ j = 1 ∨ j = 2 := by omega
    · by_cases z : c0 = 0
      · subst z
        clear h1 h2
        go_wp2
        go_roundw
        case rel => exact ⟨trivial, 1, rfl, by omega, fun _ => trivial, by omega⟩
        case measure => simp [intOf]
      · have zb : (c0 != 0) = true := by simp [z]
        have zc : (c0 == 0) = false := by simp [z]
        have hv : Hid (or2 c0 c1 = c0) := if_neg z
        clear h1 h2 z
        go_wp2
        go_ret
        exact ⟨by rw [hv.out] <;> rfl, rfl⟩
    · obtain rfl := h1 (by omega)
      by_cases z : c1 = 0
      · subst z
        clear h1 h2
        go_wp2
        go_roundw
        case rel => exact ⟨trivial, 2, rfl, by omega, fun _ => trivial, fun _ => trivial⟩
        case measure => simp [intOf]
      · have zb : (c1 != 0) = true := by simp [z]
        have zc : (c1 == 0) = false := by simp [z]
        have hv : Hid (or2 0 c1 = c1) := if_pos rfl
        clear h1 h2 z
        go_wp2
        go_ret
        exact ⟨by rw [hv.out] <;> rfl, rfl⟩
    · obtain rfl := h1 (by omega)
      obtain rfl := h2 (by omega)
      clear h1 h2
      go_wp2
      go_ret
      exact ⟨rfl, rfl⟩
end Go.Proofs.YtiabdcejibeciaaGreatDoor

namespace Go.Proofs.YtiabdcejibeciaaGreatDoor
open Go.RowKit

/-- What Read answers of some bytes. -/
structure CkPost (w : World) (t : Sum Int (List It)) (e : Ending) (w' : World) : Prop where
  bad : ∀ k, t = .inl k → e = .returned (.tuple #[.slice none 0 0, .int .i64 k]) ∧ k ≠ 0
  good : ∀ l, t = .inr l → ∃ ao n cap ps, e = .returned (.tuple #[.slice ao n cap, .int .i64 0]) ∧ IL w' ao n cap ps ∧ ps.map IP.it = l ∧ ∀ q ∈ ps, ∀ x, q.blk x → w.heap.size ≤ x
  bel : Below w.heap.size w w'

theorem itT_eq (xs : List Int) (k : Int) : itT xs k = (⟨(bytesS xs k 256).1, (bytesS (bytesS xs k 256).2.1 (bytesS xs k 256).2.2 1024).1⟩, (bytesS (bytesS xs k 256).2.1 (bytesS xs k 256).2.2 1024).2) := rfl
theorem rdT_or {α : Type} (f : Th α) (kind : α → Int) (xs : List Int) {v : α} {r : List Int} {q : Int} (hf : f xs 0 = (v, r, q)) : rdT f kind xs = if or2 (doneS r q) (kind v) = 0 then .inr v else .inl (or2 (doneS r q) (kind v)) := by
  unfold rdT or2
  rw [hf]
  simp only
  by_cases h : doneS r q = 0
  · rw [if_pos h, if_pos h]
  · rw [if_neg h, if_neg h, if_neg h]

set_option maxHeartbeats 8000000 in
set_option maxRecDepth 100000 in
theorem ckread_any (w : World) (ao : Option Addr) (n cap : Nat) (xs : List Int) (h : Sl w ao n cap xs) (hn : n ≤ 1000000) :
    Calls Tryz.prog 12 #[.slice ao n cap] w (CkPost w (rdCk xs)) := by
  have HRD : Hid (rdCk xs = rdT chT kindCk xs) := rdCk_T xs
  go_enter Tryz.func12, Tryz.ntmps12
  go_wp2_with fail
  refine (read_any w ao n cap xs h (by omega)).mono ?_
  rintro e w1 ⟨p, rfl, hp, R1, B1⟩
  clear h
  go_wp2_with fail
  refine (int_any w1 p p xs 0 64 (by decide) R1.byte R1).mono ?_
  rintro e w2 ⟨rfl, R2, G2⟩
  obtain ⟨r, hr⟩ : ∃ r, r = intS xs 0 64 := ⟨_, rfl⟩
  have ER : Hid (r = intS xs 0 64) := hr
  have Z2 : r.1 ≤ 64 := by rw [hr]; exact intS_le _ _ 64
  rw [← hr] at R2 ⊢
  have hpl : p < w1.heap.size := by obtain ⟨_, _, _, hR⟩ := R1; exact hR.plt
  have B2 : Below w.heap.size w w2 := B1.trans (below_grown G2 B1.size hp)
  have hpl2 : p < w2.heap.size := by have := G2.size; omega
  obtain ⟨M, hM⟩ : ∃ M, M = w2.heap.size := ⟨_, rfl⟩
  have inv0 : CkInv w w.heap.size p M (fun m => repT itT m r.2.1 r.2.2) w2 (.slice none 0 0) [] := ⟨R2, ⟨rfl, .inl ⟨rfl, rfl⟩⟩, fun _ h => by simp at h, fun _ h => by simp at h, fun _ h => by simp at h, rfl, B2, hp, by omega, by omega⟩
  clear hr R1 R2 B1 B2 G2 hpl hpl2 hM
  go_wp2_with fail
  go_loopw [5, 11] (fun v i wr => ∃ ps : List IP, i = .int .i64 (ps.length : Nat) ∧ ps.length ≤ r.1 ∧ CkInv w w.heap.size p M (fun m => repT itT m r.2.1 r.2.2) wr v ps) (fun _ i _ => r.1 - (intOf i).toNat)
  case atStart => exact ⟨[], rfl, Nat.zero_le _, inv0⟩
  case round =>
    clear inv0
    obtain ⟨ps, rfl, hle, inv⟩ := hrel
    obtain ⟨ao1, cap1, rfl, hIL⟩ := inv.row
    obtain ⟨k, hk⟩ : ∃ k, k = ps.length := ⟨_, rfl⟩
    have HK : Hid (k = ps.length) := hk
    by_cases hlt : ps.length < r.1
    · rw [← hk] at hlt ⊢
      have hki : (k : Int) < (r.1 : Int) := by omega
      clear hIL
      obtain ⟨T, hT⟩ : ∃ T, T = repT itT ps.length r.2.1 r.2.2 := ⟨_, rfl⟩
      have R0 : R wr p p T.2.1 T.2.2 := by rw [hT]; exact inv.rd
      have HI : Hid (CkInv w w.heap.size p M (fun m => repT itT m r.2.1 r.2.2) wr (.slice ao1 ps.length cap1) ps) := inv
      have HT : Hid (T = repT itT ps.length r.2.1 r.2.2) := hT
      clear inv hT hk
      go_wp2_with fail
      refine (bytes_any wr p p T.2.1 T.2.2 256 (by decide) R0).mono ?_
      rintro e w3 ⟨k0, kn, kc, rfl, S3, L3, R3, G3⟩
      obtain ⟨t1, ht1⟩ : ∃ t, t = bytesS T.2.1 T.2.2 256 := ⟨_, rfl⟩
      have HT1 : Hid (t1 = bytesS T.2.1 T.2.2 256) := ht1
      rw [← ht1] at S3 R3
      clear R0 ht1
      go_wp2_with fail
      refine (bytes_any w3 p p t1.2.1 t1.2.2 1024 (by decide) R3).mono ?_
      rintro e w4 ⟨v0, vn, vc, rfl, S4, L4, R4, G4⟩
      obtain ⟨t2, ht2⟩ : ∃ t, t = bytesS t1.2.1 t1.2.2 1024 := ⟨_, rfl⟩
      have HT2 : Hid (t2 = bytesS t1.2.1 t1.2.2 1024) := ht2
      rw [← ht2] at S4 R4
      have hpl : p < wr.heap.size := by
        have := HI.out.pos
        omega
      have far3 : ∀ a, k0 = some a → 0 < kn → a.block ≠ p := fun a ha _ => by have := L3 a ha; omega
      have S5 : Sl w4 k0 kn kc t1.1 := S3.keepNe far3 G4
      obtain ⟨q, hq⟩ : ∃ q : IP, q = ⟨⟨k0, kn, kc, t1.1⟩, ⟨v0, vn, vc, t2.1⟩⟩ := ⟨_, rfl⟩
      have hqo : q.ok w4 := by rw [hq]; exact ⟨S5, S4⟩
      have hfar : ∀ x, q.blk x → x ≠ p ∧ (Value.slice ao1 ps.length cap1).ownBlock ≠ some x := by
        intro x hx
        have hge : wr.heap.size ≤ x := by
          rw [hq] at hx
          rcases hx with ⟨a, ha, _, rfl⟩ | ⟨a, ha, _, rfl⟩
          · exact L3 a ha
          · have := L4 a ha
            have := G3.size
            omega
        refine ⟨by omega, fun e => ?_⟩
        have := (HI.out.own.lt x e).2
        omega
      have hnew : ∀ x, q.blk x → w.heap.size ≤ x := by
        intro x hx
        have h1 := HI.out.bel.size
        rw [hq] at hx
        rcases hx with ⟨a, ha, _, rfl⟩ | ⟨a, ha, _, rfl⟩
        · have := L3 a ha
          omega
        · have := L4 a ha
          have := G3.size
          omega
      have hit : q.it = (itT T.2.1 T.2.2).1 := by
        rw [itT_eq, ← HT1.out, ← HT2.out, hq]
        rfl
      have hsn := repT_snoc itT ps.length r.2.1 r.2.2
      rw [← HT.out, ← hit] at hsn
      have hrest : (itT T.2.1 T.2.2).2 = t2.2 := by rw [itT_eq, ← HT1.out, ← HT2.out]
      rw [hrest] at hsn
      have hfin : ∀ ty c, ∃ v' V4, (Builtin.append_ #[22, 22] ty #[.slice ao1 ps.length cap1, .slice (some ⟨w4.heap.size, 0, none⟩) 1 c]).run Tryz.prog (w4.alloc (.cells #[q.k.val, q.v.val] 32)) = .ok v' V4 ∧ CkInv w w.heap.size p M (fun m => repT itT m r.2.1 r.2.2) V4 v' (ps ++ [q]) := fun ty c =>
        HI.out.step (grown_trans G3 G4) hqo hfar hnew (by simp only [hsn, ← HT.out]) (by simp only [hsn]; exact R4) (by have := HK.out; omega) rfl ty c
      have hql : (Value.slice k0 kn kc = q.k.val) ∧ (Value.slice v0 vn vc = q.v.val) := by rw [hq]; exact ⟨rfl, rfl⟩
      clear S3 S4 S5 L3 L4 R3 R4 G3 G4 far3 hqo hfar hnew hit hsn hrest ht2 hq
      obtain ⟨v', V4, hrun, inv4⟩ := hfin 22 1
      rw [← hql.1, ← hql.2] at hrun
      rw [← HK.out] at hrun
      have HF : Hid (CkInv w w.heap.size p M (fun m => repT itT m r.2.1 r.2.2) V4 v' (ps ++ [q])) := inv4
      have HRUN : Hid ((Builtin.append_ #[22, 22] 22 #[.slice ao1 k cap1, .slice (some ⟨w4.heap.size, 0, none⟩) 1 1]).run Tryz.prog (w4.alloc (.cells #[.slice k0 kn kc, .slice v0 vn vc] 32)) = .ok v' V4) := hrun
      clear hfin hql inv4 hrun
      go_wp2_with (at_builtin; refine wpList_appR rfl _ _ _ _ rfl _ _ _ rfl rfl HRUN.out ?_)
      go_roundw
      case rel => exact ⟨ps ++ [q], by rw [List.length_append, ← HK.out]; go_num, by rw [List.length_append]; have := HK.out; simp only [List.length_cons, List.length_nil]; omega, HF.out⟩
      case measure => simp [intOf]; omega
    · have hge : ¬ (k : Int) < (r.1 : Int) := by omega
      have hke : ps.length = r.1 := by omega
      rw [← hk] at ⊢
      obtain ⟨T, hT⟩ : ∃ T, T = repT itT ps.length r.2.1 r.2.2 := ⟨_, rfl⟩
      have R0 : R wr p p T.2.1 T.2.2 := by rw [hT]; exact inv.rd
      have HL : Hid (ps.map IP.it = T.1) := by show _ = _; rw [hT]; exact inv.thr
      have hB := inv.bel
      have HNEW : Hid (∀ q ∈ ps, ∀ x, q.blk x → w.heap.size ≤ x) := inv.new
      have HOR : Hid (rdCk xs = if or2 (doneS T.2.1 T.2.2) (kindCk (ps.map IP.it)) = 0 then .inr (ps.map IP.it) else .inl (or2 (doneS T.2.1 T.2.2) (kindCk (ps.map IP.it)))) := by
        show _ = _
        rw [HRD.out, HL.out]
        refine rdT_or chT kindCk xs (v := T.1) (r := T.2.1) (q := T.2.2) ?_
        show ((repT itT (intS xs 0 64).1 (intS xs 0 64).2.1 (intS xs 0 64).2.2).1, (repT itT (intS xs 0 64).1 (intS xs 0 64).2.1 (intS xs 0 64).2.2).2) = _
        rw [← ER.out, ← hke, ← hT]
      have CJ : ∀ W, Below wr.heap.size wr W → Calls Tryz.prog 38 #[.slice ao1 ps.length cap1] W fun e w' => e = .returned (.int .i64 (kindCk (ps.map IP.it))) ∧ Below W.heap.size W w' := fun W hW => ckjudge_any W _ _ _ _ (hIL.below hW) (by omega)
      rw [← hk] at CJ
      obtain ⟨d, hd⟩ : ∃ d, d = doneS T.2.1 T.2.2 := ⟨_, rfl⟩
      obtain ⟨j, hj⟩ : ∃ j, j = kindCk (ps.map IP.it) := ⟨_, rfl⟩
      have CD := done_any wr p p T.2.1 T.2.2 R0
      have HIL : Hid (IL wr ao1 k cap1 ps) := by show _; rw [hk]; exact hIL
      rw [← hd, ← hj] at HOR
      rw [← hd] at CD
      rw [← hj] at CJ
      clear inv hT hd hj R0 hIL hk hke
      go_wp2_with fail
      refine CD.mono ?_
      rintro e w3 ⟨rfl, hw⟩
      obtain rfl := hw.symm
      clear CD
      go_wp2_with fail
      refine (CJ _ (Below.refl _ _)).mono ?_
      rintro e w4 ⟨rfl, B4⟩
      clear CJ
      obtain ⟨w5, h5⟩ : ∃ W, W = w4.alloc (.cells #[.int .i64 d, .int .i64 j] 26) := ⟨_, rfl⟩
      have B5 : Below w4.heap.size w4 w5 := by rw [h5]; exact (Below.refl _ _).alloc (Nat.le_refl _) _
      have CO := por2_any w5 w4.heap.size d j (by rw [h5]; exact heap_alloc_new w4 _)
      have B6 : Below w.heap.size w w5 := (hB.trans (B4.mono hB.size)).trans (B5.mono (hB.trans (B4.mono hB.size)).size)
      have HI5 : Hid (IL w5 ao1 k cap1 ps) := (HIL.out.below B4).below B5
      clear HIL hB B4 B5
      go_wp2_with fail
      rw [← h5]
      clear h5
      refine CO.mono ?_
      rintro e w6 ⟨rfl, hw⟩
      obtain rfl := hw.symm
      clear CO
      obtain ⟨z, hz⟩ : ∃ z, z = or2 d j := ⟨_, rfl⟩
      rw [← hz] at HOR ⊢
      clear hz
      by_cases hz : z = 0
      · subst hz
        have HOK : Hid (rdCk xs = .inr (ps.map IP.it)) := by show _ = _; rw [HOR.out, if_pos rfl]
        clear HOR
        go_wp2
        go_ret2
        refine ⟨fun q hq => ?_, fun l hl => ?_, B6⟩
        · rw [HOK.out] at hq
          cases hq
        · rw [HOK.out] at hl
          obtain rfl := Sum.inr.inj hl
          exact ⟨_, _, _, ps, rfl, HI5.out, rfl, HNEW.out⟩
      · have hzb : (z != 0) = true := by simp [hz]
        have HOK : Hid (rdCk xs = .inl z ∧ z ≠ 0) := ⟨by rw [HOR.out, if_neg hz], hz⟩
        clear hz HOR
        go_wp2
        go_ret2
        refine ⟨fun q hq => ?_, fun l hl => ?_, B6⟩
        · rw [HOK.out.1] at hq
          obtain rfl := Sum.inl.inj hq
          exact ⟨rfl, HOK.out.2⟩
        · rw [HOK.out.1] at hl
          cases hl
end Go.Proofs.YtiabdcejibeciaaGreatDoor

namespace Go.Proofs.YtiabdcejibeciaaGreatDoor
open Go.RowKit

/-- Two rows of the call's own are not one. -/
def Sp (v u : Value) : Prop := v.ownBlock = none ∨ v.ownBlock ≠ u.ownBlock
theorem Sp.symm {v u : Value} (h : Sp v u) : Sp u v := by
  unfold Sp at *
  rcases h with h | h
  · cases hu : u.ownBlock with
    | none => exact .inl rfl
    | some g => exact .inr (by rw [h]; simp)
  · exact .inr (Ne.symm h)
theorem Sp.nil (v : Value) : Sp (.slice none 0 0) v := .inl rfl
/-- append to a row of the call's own: where the row lies behind it. -/
theorem run_append_at {P : Program} (w : World) (base : Nat) (t ty e : TypeId) (i : TypeInfo) (z : Value) (size bytes : Nat) (ht : P.underlying t = some (.slice e)) (hi : P.info? e = some i) (hz : i.zero = some z)
    (hsize : i.size = size) (hby : i.bytes = bytes) (hzs : z.cells.size = size) (hsz : 0 < size)
    (v : Value) (n : Nat) (xs : List Value) (hown : w.ownsRow base e size v n xs)
    (a : Addr) (m c : Nat) (news : List Value) (hl : news.length = m * size) (hnews : ∀ j u, news[j]? = some u → w.cell? (a.add j) = some u) (h1 : ∀ u ∈ news, u.oneCell' = true)
    (h63 : n + m ≤ maxLen) (hbytes : (n + m) * bytes ≤ 140737488355328) (hbase : base ≤ w.heap.size) :
    ∃ v' w', (Builtin.append_ #[t, t] ty #[v, .slice (some a) m c]).run P w = .ok v' w' ∧ w'.ownsRow base e size v' (n + m) (xs ++ news) ∧ w.grownBy w' v.ownBlock ∧
      ∀ g, v'.ownBlock = some g → v.ownBlock = some g ∨ w.heap.size ≤ g := by
  obtain ⟨v', w', hr, ho, hg, _⟩ := run_append_own (P := P) w base t ty e i z size bytes ht hi hz hsize hby hzs hsz v n xs hown a m c news hl hnews h1 h63 hbytes hbase
  refine ⟨v', w', hr, ho, hg, ?_⟩
  have hsmall : n + m ≤ 9223372036854775807 := by simp only [maxLen] at h63; omega
  subst hsize
  subst hby
  rcases hown.2 with ⟨rfl, rfl⟩ | ⟨g, cap, cur, rfl, hbg, hgc, hnc, hcm, hcs, htake⟩
  · have hown2 : w.ownsRow w.heap.size e i.size (.slice none 0 0) 0 xs := ⟨hown.1, .inl ⟨rfl, rfl⟩⟩
    obtain ⟨v2, w2, hr2, ho2, _, _⟩ := run_append_own (P := P) w w.heap.size t ty e i z i.size i.bytes ht hi hz rfl rfl hzs hsz _ 0 xs hown2 a m c news hl hnews h1 h63 hbytes (Nat.le_refl _)
    rw [hr] at hr2
    simp only [Result.ok.injEq] at hr2
    obtain ⟨rfl, rfl⟩ := hr2
    intro g hgv
    exact .inr (ho2.lt g hgv).1
  · by_cases hroom : n + m ≤ cap
    · have hfit : n * i.size + news.length ≤ cur.size := by rw [hl, hcs, ← Nat.add_mul]; exact Nat.mul_le_mul_right _ hroom
      have hr2 := run_append_room (P := P) w t ty e i ht hi g n cap cur hgc a m c news hl hnews h1 hroom hfit
      rw [hr] at hr2
      simp only [Result.ok.injEq] at hr2
      obtain ⟨rfl, rfl⟩ := hr2
      intro g' hg'
      exact .inl hg'
    · have holds : ∀ j u, xs[j]? = some u → w.cell? ((⟨g, 0, none⟩ : Addr).add j) = some u := hown.cells (g := g) rfl
      have hr2 := run_append_grow (P := P) w t ty e i z ht hi hz ⟨g, 0, none⟩ n cap xs hown.1 holds a m c news hl hnews (by omega) (by omega) (growslice_fits (by omega) hbytes)
      rw [hr] at hr2
      simp only [Result.ok.injEq] at hr2
      obtain ⟨rfl, rfl⟩ := hr2
      intro g' hg'
      simp only [Value.ownBlock, Option.some.injEq] at hg'
      exact .inr (by omega)
theorem row_kept {w w' : World} {base : Nat} {e : TypeId} {size : Nat} {v : Value} {n : Nat} {xs : List Value} (h : w.ownsRow base e size v n xs) (hb : ∀ g, v.ownBlock = some g → w'.heap[g]? = w.heap[g]?) : w'.ownsRow base e size v n xs := by
  refine ⟨h.1, ?_⟩
  rcases h.2 with c | ⟨g, cap, cur, rfl, a1, a2, a3, a4, a5, a6⟩
  · exact .inl c
  · exact .inr ⟨g, cap, cur, rfl, a1, (hb g rfl).trans a2, a3, a4, a5, a6⟩

theorem row_slice {w : World} {base : Nat} {e : TypeId} {size : Nat} {v : Value} {n : Nat} {xs : List Value} (h : w.ownsRow base e size v n xs) : ∃ a m c, v = .slice a m c := by
  rcases h.2 with ⟨rfl, _⟩ | ⟨g, cap, cur, rfl, _⟩
  · exact ⟨_, _, _, rfl⟩
  · exact ⟨_, _, _, rfl⟩
/-- A block apart from a node's own four. -/
def Off (g : Nat) (k v c : Value) (b : Nat) : Prop := b ≠ g ∧ k.ownBlock ≠ some b ∧ v.ownBlock ≠ some b ∧ c.ownBlock ≠ some b
/-- Only the node's own four blocks have changed, and new ones were made. -/
structure Chg (W W' : World) (g : Nat) (k v c k' v' c' : Value) : Prop where
  size : W.heap.size ≤ W'.heap.size
  off : ∀ b, b < W.heap.size → Off g k v c b → W'.heap[b]? = W.heap[b]? ∧ Off g k' v' c' b
theorem Chg.trans {W W' W'' : World} {g : Nat} {k v c k' v' c' k2 v2 c2 : Value} (h : Chg W W' g k v c k' v' c') (h' : Chg W' W'' g k' v' c' k2 v2 c2) : Chg W W'' g k v c k2 v2 c2 :=
  ⟨Nat.le_trans h.size h'.size, fun b hb ho => by
    obtain ⟨h1, h2⟩ := h.off b hb ho
    obtain ⟨h3, h4⟩ := h'.off b (Nat.lt_of_lt_of_le hb h.size) h2
    exact ⟨h3.trans h1, h4⟩⟩
theorem Chg.below {W W' : World} {g : Nat} {k v c : Value} (h : Below W.heap.size W W') : Chg W W' g k v c k v c := ⟨h.size, fun b hb ho => ⟨h.block b hb, ho⟩⟩
/-- A fact that hangs on blocks apart from the node's own: of those below m, or from n on. -/
def Far (W : World) (m n g : Nat) (k v c : Value) (φ : World → Prop) : Prop :=
  ∃ A : Nat → Prop, (∀ b, A b → b < W.heap.size ∧ (b < m ∨ n ≤ b) ∧ Off g k v c b) ∧ ∀ W', (∀ b, A b → W'.heap[b]? = W.heap[b]?) → φ W'
theorem Far.chg {W W' : World} {m n g : Nat} {k v c k' v' c' : Value} {φ : World → Prop} (h : Far W m n g k v c φ) (hc : Chg W W' g k v c k' v' c') : Far W' m n g k' v' c' φ := by
  obtain ⟨A, h1, h2⟩ := h
  refine ⟨A, fun b hb => ?_, fun w hw => h2 w fun b hb => ?_⟩
  · obtain ⟨a1, a2, a3⟩ := h1 b hb
    exact ⟨Nat.lt_of_lt_of_le a1 hc.size, a2, (hc.off b a1 a3).2⟩
  · obtain ⟨a1, a2, a3⟩ := h1 b hb
    exact (hw b hb).trans (hc.off b a1 a3).1
theorem Far.now {W : World} {m n g : Nat} {k v c : Value} {φ : World → Prop} (h : Far W m n g k v c φ) : φ W := by
  obtain ⟨A, h1, h2⟩ := h
  exact h2 W fun _ _ => rfl
theorem Far.end {W : World} {m n g : Nat} {k v c : Value} {φ : World → Prop} (h : Far W m n g k v c φ) {w : World} (hw : ∀ b, (b < m ∨ n ≤ b) → b < W.heap.size → w.heap[b]? = W.heap[b]?) : φ w := by
  obtain ⟨A, h1, h2⟩ := h
  exact h2 w fun b hb => hw b (h1 b hb).2.1 (h1 b hb).1
/-- What hangs on a part of memory: below m, or from n on. -/
def On (w' : World) (m n : Nat) (φ : World → Prop) : Prop := ∀ W, (∀ b, (b < m ∨ n ≤ b) → b < w'.heap.size → W.heap[b]? = w'.heap[b]?) → φ W
theorem On.now {w' : World} {m n : Nat} {φ : World → Prop} (h : On w' m n φ) : φ w' := h w' fun _ _ _ => rfl
/-- Behind a call that was made while a node is being made. -/
theorem On.far {W W' : World} {m n g : Nat} {k v c : Value} {φ : World → Prop} (h : On W' m W.heap.size φ) (hn : n ≤ W.heap.size) (ho : ∀ b, b < m → Off g k v c b) (hg : ∀ b, W.heap.size ≤ b → Off g k v c b) : Far W' m n g k v c φ :=
  ⟨fun b => (b < m ∨ W.heap.size ≤ b) ∧ b < W'.heap.size, fun b hb' => ⟨hb'.2, by omega, by
    rcases hb'.1 with h1 | h1
    · exact ho b h1
    · exact hg b h1⟩, fun w hw => h w fun b h1 h2 => hw b ⟨h1, h2⟩⟩

/-- A node that is being made. -/
structure NB (W : World) (base g : Nat) (t pe : TypeId) (L : Int) (k v c : Value) (ks vs us : List Value) : Prop where
  arr : Arr W g t [.int .i64 L, k, v, c]
  bg : base ≤ g
  ok : W.ownsRow base 30 1 k ks.length ks
  ov : W.ownsRow base 30 1 v vs.length vs
  oc : W.ownsRow base pe 1 c us.length us
  s1 : Sp k v
  s2 : Sp k c
  s3 : Sp v c
section
variable {W W' : World} {base g : Nat} {t pe : TypeId} {L : Int} {k v c : Value} {ks vs us : List Value}
theorem NB.le (h : NB W base g t pe L k v c ks vs us) : base ≤ W.heap.size := Nat.le_trans h.bg (Nat.le_of_lt h.arr.lt)
theorem NB.below (h : NB W base g t pe L k v c ks vs us) (hb : Below W.heap.size W W') : NB W' base g t pe L k v c ks vs us :=
  ⟨arr_below h.arr hb, h.bg, own_below h.ok hb, own_below h.ov hb, own_below h.oc hb, h.s1, h.s2, h.s3⟩
theorem NB.new (W : World) (t pe : TypeId) (L : Int) : NB (W.alloc (.cells #[.int .i64 L, .slice none 0 0, .slice none 0 0, .slice none 0 0] t)) W.heap.size W.heap.size t pe L (.slice none 0 0) (.slice none 0 0) (.slice none 0 0) [] [] [] :=
  ⟨heap_alloc_new W _, Nat.le_refl _, World.ownsRow_nil _ _ _ _, World.ownsRow_nil _ _ _ _, World.ownsRow_nil _ _ _ _, Sp.nil _, Sp.nil _, Sp.nil _⟩
/-- What lies below the call's own memory, and what is new, is apart from the node. -/
theorem NB.offLow (h : NB W base g t pe L k v c ks vs us) {b : Nat} (hb : b < base) : Off g k v c b := by
  have h1 := h.bg
  refine ⟨by omega, fun e => ?_, fun e => ?_, fun e => ?_⟩
  · have := (h.ok.lt b e).1; omega
  · have := (h.ov.lt b e).1; omega
  · have := (h.oc.lt b e).1; omega
theorem NB.offNew (h : NB W base g t pe L k v c ks vs us) {b : Nat} (hb : W.heap.size ≤ b) : Off g k v c b := by
  have h1 := h.arr.lt
  refine ⟨by omega, fun e => ?_, fun e => ?_, fun e => ?_⟩
  · have := (h.ok.lt b e).2; omega
  · have := (h.ov.lt b e).2; omega
  · have := (h.oc.lt b e).2; omega
/-- A new level. -/
theorem NB.level (h : NB W base g t pe L k v c ks vs us) (hk : t ≠ 30) (hp : t ≠ pe) (M : Int) : NB (W.setCell ⟨g, 0, none⟩ (.int .i64 M)) base g t pe M k v c ks vs us ∧ Chg W (W.setCell ⟨g, 0, none⟩ (.int .i64 M)) g k v c k v c ∧ Below base W (W.setCell ⟨g, 0, none⟩ (.int .i64 M)) := by
  have hg : W.grownBy (W.setCell ⟨g, 0, none⟩ (.int .i64 M)) (some g) := grown_set (a := W) (b := W) ⟨rfl, rfl, rfl, Nat.le_refl _, fun _ _ _ => rfl⟩ 0 _
  refine ⟨⟨h.arr.set 0 _, h.bg, h.ok.kept hg (.inr (arr_not_row h.arr hk h.ok)), h.ov.kept hg (.inr (arr_not_row h.arr hk h.ov)), h.oc.kept hg (.inr (arr_not_row h.arr hp h.oc)), h.s1, h.s2, h.s3⟩, ⟨hg.size, fun b hb ho => ⟨hg.block b hb (by simpa using ho.1), ho⟩⟩, (Below.refl _ _).setCell h.bg _⟩
end
/-- Of two rows one was grown. -/
theorem Sp.grown {W : World} {base : Nat} {e : TypeId} {v v' u : Value} {m : Nat} {ys : List Value} (h : Sp v u) (hu : W.ownsRow base e 1 u m ys) (hv : ∀ g, v'.ownBlock = some g → v.ownBlock = some g ∨ W.heap.size ≤ g) : Sp v' u := by
  unfold Sp at *
  cases hv' : v'.ownBlock with
  | none => exact .inl rfl
  | some g =>
    refine .inr fun e => ?_
    rcases hv g hv' with h1 | h1
    · rcases h with h | h
      · rw [h] at h1; simp at h1
      · exact h (h1.trans e)
    · have := (hu.lt g e.symm).2
      omega
theorem Sp.keeps {W W' : World} {base : Nat} {e : TypeId} {v u : Value} {m : Nat} {ys : List Value} (h : Sp v u) (hu : W.ownsRow base e 1 u m ys) (hg : W.grownBy W' v.ownBlock) : W'.ownsRow base e 1 u m ys :=
  row_kept hu fun g hgu => hg.block g (hu.lt g hgu).2 (fun e => by
    unfold Sp at h
    rcases h with h | h
    · rw [h] at e; simp at e
    · exact h (by rw [← e, hgu]))
/-- What an append to a field of the node comes to, and the store behind it. -/
structure NApp (W : World) (base g : Nat) (t pe : TypeId) (L : Int) (k v c : Value) (W1 W2 : World) (k' v' c' : Value) (ks vs us : List Value) : Prop where
  arr : Arr W1 g t [.int .i64 L, k, v, c]
  nb : NB W2 base g t pe L k' v' c' ks vs us
  chg : Chg W W2 g k v c k' v' c'
  below : Below base W W2
section
variable {W : World} {base g : Nat} {t pe : TypeId} {L : Int} {k v c : Value} {ks vs us : List Value}
theorem NB.appK (h : NB W base g t pe L k v c ks vs us) (hk : t ≠ 30) (hp : t ≠ pe) {ty : TypeId} {bo : Addr} {cap : Nat} {u : Value} (hx : VL W (some bo) 1 cap [u]) (hu : u.oneCell' = true) (hn : ks.length ≤ 1000000) :
    ∃ k' W1, (Builtin.append_ #[33, 33] ty #[k, .slice (some bo) 1 cap]).run Tryz.prog W = .ok k' W1 ∧ NApp W base g t pe L k v c W1 (W1.setCell ⟨g, 1, none⟩ k') k' v c (ks ++ [u]) vs us := by
  obtain ⟨i0, hi, hz0, hz1, hz2⟩ := info_parts kinfo
  obtain ⟨k', W1, hr, ho, hg, ha⟩ := run_append_at (P := Tryz.prog) W base 33 ty 30 i0 (.slice none 0 0) 1 24 Tryz.underlying33 hi hz0 hz1 hz2 rfl (by decide) k ks.length ks h.ok bo 1 cap [u] rfl (hx.cells bo rfl) (by intro y hy; rw [List.mem_singleton.1 hy]; exact hu) (by simp [maxLen]; omega) (by omega) h.le
  obtain ⟨a1, a2, a3, a4⟩ := arr_put h.arr hk h.ok h.le h.bg ho hg 1
  have hs : W1.grownBy (W1.setCell ⟨g, 1, none⟩ k') (some g) := grown_set (a := W1) (b := W1) ⟨rfl, rfl, rfl, Nat.le_refl _, fun _ _ _ => rfl⟩ 1 _
  have ov1 := h.s1.keeps h.ov hg
  have oc1 := h.s2.keeps h.oc hg
  refine ⟨k', W1, hr, a1, ⟨a2, h.bg, by simpa using a3, ov1.kept hs (.inr (arr_not_row a1 hk ov1)), oc1.kept hs (.inr (arr_not_row a1 hp oc1)), h.s1.grown h.ov ha, h.s2.grown h.oc ha, h.s3⟩, ⟨Nat.le_trans hg.size hs.size, fun b hb hf => ⟨?_, hf.1, fun e => ?_, hf.2.2⟩⟩, a4⟩
  · rw [hs.block b (Nat.lt_of_lt_of_le hb hg.size) (by simpa using hf.1)]
    exact hg.block b hb (fun e => hf.2.1 e.symm)
  · rcases ha b e with h1 | h1
    · exact hf.2.1 h1
    · omega
theorem NB.appV (h : NB W base g t pe L k v c ks vs us) (hk : t ≠ 30) (hp : t ≠ pe) {ty : TypeId} {bo : Addr} {cap : Nat} {u : Value} (hx : VL W (some bo) 1 cap [u]) (hu : u.oneCell' = true) (hn : vs.length ≤ 1000000) :
    ∃ v' W1, (Builtin.append_ #[33, 33] ty #[v, .slice (some bo) 1 cap]).run Tryz.prog W = .ok v' W1 ∧ NApp W base g t pe L k v c W1 (W1.setCell ⟨g, 2, none⟩ v') k v' c ks (vs ++ [u]) us := by
  obtain ⟨i0, hi, hz0, hz1, hz2⟩ := info_parts kinfo
  obtain ⟨v', W1, hr, ho, hg, ha⟩ := run_append_at (P := Tryz.prog) W base 33 ty 30 i0 (.slice none 0 0) 1 24 Tryz.underlying33 hi hz0 hz1 hz2 rfl (by decide) v vs.length vs h.ov bo 1 cap [u] rfl (hx.cells bo rfl) (by intro y hy; rw [List.mem_singleton.1 hy]; exact hu) (by simp [maxLen]; omega) (by omega) h.le
  obtain ⟨a1, a2, a3, a4⟩ := arr_put h.arr hk h.ov h.le h.bg ho hg 2
  have hs : W1.grownBy (W1.setCell ⟨g, 2, none⟩ v') (some g) := grown_set (a := W1) (b := W1) ⟨rfl, rfl, rfl, Nat.le_refl _, fun _ _ _ => rfl⟩ 2 _
  have ok1 := h.s1.symm.keeps h.ok hg
  have oc1 := h.s3.keeps h.oc hg
  refine ⟨v', W1, hr, a1, ⟨a2, h.bg, ok1.kept hs (.inr (arr_not_row a1 hk ok1)), by simpa using a3, oc1.kept hs (.inr (arr_not_row a1 hp oc1)), (h.s1.symm.grown h.ok ha).symm, h.s2, h.s3.grown h.oc ha⟩, ⟨Nat.le_trans hg.size hs.size, fun b hb hf => ⟨?_, hf.1, hf.2.1, fun e => ?_, hf.2.2.2⟩⟩, a4⟩
  · rw [hs.block b (Nat.lt_of_lt_of_le hb hg.size) (by simpa using hf.1)]
    exact hg.block b hb (fun e => hf.2.2.1 e.symm)
  · rcases ha b e with h1 | h1
    · exact hf.2.2.1 h1
    · omega
theorem NB.appC (h : NB W base g t pe L k v c ks vs us) (hk : t ≠ 30) (hp : t ≠ pe) {ps : TypeId} (hps : Tryz.prog.underlying ps = some (.slice pe)) (hinfo : (Tryz.prog.info? pe).map (fun i => (i.zero, i.size, i.bytes)) = some (some (.pointer none), 1, 8)) {ty : TypeId} {bo : Addr} {cap : Nat} {u : Value} (hx : VL W (some bo) 1 cap [u]) (hu : u.oneCell' = true) (hn : us.length ≤ 1000000) :
    ∃ c' W1, (Builtin.append_ #[ps, ps] ty #[c, .slice (some bo) 1 cap]).run Tryz.prog W = .ok c' W1 ∧ NApp W base g t pe L k v c W1 (W1.setCell ⟨g, 3, none⟩ c') k v c' ks vs (us ++ [u]) := by
  obtain ⟨i0, hi, hz0, hz1, hz2⟩ := info_parts hinfo
  obtain ⟨c', W1, hr, ho, hg, ha⟩ := run_append_at (P := Tryz.prog) W base ps ty pe i0 (.pointer none) 1 8 hps hi hz0 hz1 hz2 rfl (by decide) c us.length us h.oc bo 1 cap [u] rfl (hx.cells bo rfl) (by intro y hy; rw [List.mem_singleton.1 hy]; exact hu) (by simp [maxLen]; omega) (by omega) h.le
  obtain ⟨a1, a2, a3, a4⟩ := arr_put h.arr hp h.oc h.le h.bg ho hg 3
  have hs : W1.grownBy (W1.setCell ⟨g, 3, none⟩ c') (some g) := grown_set (a := W1) (b := W1) ⟨rfl, rfl, rfl, Nat.le_refl _, fun _ _ _ => rfl⟩ 3 _
  have ok1 := h.s2.symm.keeps h.ok hg
  have ov1 := h.s3.symm.keeps h.ov hg
  refine ⟨c', W1, hr, a1, ⟨a2, h.bg, ok1.kept hs (.inr (arr_not_row a1 hk ok1)), ov1.kept hs (.inr (arr_not_row a1 hk ov1)), by simpa using a3, h.s1, (h.s2.symm.grown h.ok ha).symm, (h.s3.symm.grown h.ov ha).symm⟩, ⟨Nat.le_trans hg.size hs.size, fun b hb hf => ⟨?_, hf.1, hf.2.1, hf.2.2.1, fun e => ?_⟩⟩, a4⟩
  · rw [hs.block b (Nat.lt_of_lt_of_le hb hg.size) (by simpa using hf.1)]
    exact hg.block b hb (fun e => hf.2.2.2 e.symm)
  · rcases ha b e with h1 | h1
    · exact hf.2.2.2 h1
    · omega
/-- The node's own blocks are as they were. -/
theorem NB.on {w : World} (h : NB W base g t pe L k v c ks vs us) (hw : ∀ b, base ≤ b → b < W.heap.size → w.heap[b]? = W.heap[b]?) : NB w base g t pe L k v c ks vs us :=
  ⟨(hw g h.bg h.arr.lt).trans h.arr, h.bg, row_kept h.ok fun b hb => hw b (h.ok.lt b hb).1 (h.ok.lt b hb).2, row_kept h.ov fun b hb => hw b (h.ov.lt b hb).1 (h.ov.lt b hb).2, row_kept h.oc fun b hb => hw b (h.oc.lt b hb).1 (h.oc.lt b hb).2, h.s1, h.s2, h.s3⟩
/-- It is made. -/
theorem NB.tree {W : World} {L : Nat} {ks vs : List Part} {l : List It} {segs : List (List It)} {xs : List It} (h : NB W base g t pe L k v c (ks.map Part.val) (vs.map Part.val) us) (hks : ∀ q ∈ ks, Sl W q.ao q.n q.cap q.xs) (hvs : ∀ q ∈ vs, Sl W q.ao q.n q.cap q.xs)
    (hs : Shp lev l L segs xs) (ek : ks.map Part.xs = xs.map It.k) (ev : vs.map Part.xs = xs.map It.v) (kid : Kids W us segs) : T W (.pointer (some ⟨g, 0, none⟩)) l := by
  obtain ⟨ko, kc, rfl, K, -⟩ := VL.own h.ok
  obtain ⟨vo, vc, rfl, V, -⟩ := VL.own h.ov
  obtain ⟨co, cc, rfl, C, -⟩ := VL.own h.oc
  exact T.make h.arr ⟨K, hks⟩ ⟨V, hvs⟩ C hs ek ev kid
end
end Go.Proofs.YtiabdcejibeciaaGreatDoor

namespace Go.Proofs.YtiabdcejibeciaaGreatDoor
open Go.RowKit

/-- Items of which i are gone through, the last segment not closed yet. -/
structure Prt (lv : List Int → Nat) (L : Nat) (l : List It) (i fr : Nat) (segs : List (List It)) (xs : List It) : Prop where
  le : fr ≤ i
  hi : i ≤ l.length
  len : segs.length = xs.length
  eq : l.take fr = wvA segs xs
  top : ∀ x ∈ xs, lv x.k = L
  low : ∀ s ∈ segs, ∀ x ∈ s, lv x.k < L
  cur : ∀ j (h : j < l.length), fr ≤ j → j < i → lv l[j].k < L
section
variable {lv : List Int → Nat} {L : Nat} {l : List It} {i fr : Nat} {segs : List (List It)} {xs : List It}
theorem Prt.start (lv : List Int → Nat) (L : Nat) (l : List It) : Prt lv L l 0 0 [] [] :=
  ⟨Nat.le_refl _, Nat.zero_le _, rfl, rfl, fun x h => by simp at h, fun s h => by simp at h, fun j h _ h' => by omega⟩
theorem wvA_many : ∀ (P : List (List It)) (xs : List It), P.length = xs.length → P.length ≤ (wvA P xs).length
  | [], _, _ => by simp
  | _ :: _, [], h => by simp at h
  | s :: P, x :: xs, h => by
    have := wvA_many P xs (by simpa using h)
    simp only [wvA, List.length_append, List.length_cons]
    omega
theorem Prt.many (h : Prt lv L l i fr segs xs) : segs.length ≤ i := by
  have h1 := wvA_many segs xs h.len
  have h2 := h.le
  rw [← h.eq, List.length_take] at h1
  omega
theorem Prt.skip (h : Prt lv L l i fr segs xs) (hi : i < l.length) (hl : lv l[i].k < L) : Prt lv L l (i + 1) fr segs xs :=
  ⟨by have := h.le; omega, hi, h.len, h.eq, h.top, h.low, fun j hj h1 h2 => by
    by_cases hji : j = i
    · subst hji; exact hl
    · exact h.cur j hj h1 (by omega)⟩
theorem Prt.seg (h : Prt lv L l i fr segs xs) : ∀ x ∈ (l.take i).drop fr, lv x.k < L := fun x hx => by
  obtain ⟨j, hj, rfl⟩ := List.mem_iff_getElem.1 hx
  simp only [List.length_drop, List.length_take] at hj
  rw [List.getElem_drop, List.getElem_take]
  exact h.cur (fr + j) (by omega) (by omega) (by omega)
theorem Prt.take (h : Prt lv L l i fr segs xs) (hi : i < l.length) (hl : lv l[i].k = L) : Prt lv L l (i + 1) (i + 1) (segs ++ [(l.take i).drop fr]) (xs ++ [l[i]]) := by
  refine ⟨Nat.le_refl _, hi, by simp [h.len], ?_, fun x hx => ?_, fun s hs x hx => ?_, fun j hj h1 h2 => by omega⟩
  · rw [wvA_app _ _ _ _ h.len, ← h.eq]
    simp only [wvA]
    rw [List.take_succ_eq_append_getElem hi, ← List.append_assoc]
    congr 1
    have hle := h.le
    have : l.take fr = (l.take i).take fr := by rw [List.take_take, Nat.min_eq_left hle]
    rw [this, List.take_append_drop]
  · rcases List.mem_append.1 hx with hx | hx
    · exact h.top x hx
    · rw [List.mem_singleton.1 hx]; exact hl
  · rcases List.mem_append.1 hs with hs | hs
    · exact h.low s hs x hx
    · rw [List.mem_singleton.1 hs] at hx
      exact h.seg x hx
theorem Prt.pos (h : Prt lv L l l.length fr segs xs) (ha : ∃ x ∈ l, lv x.k = L) : 0 < fr := by
  cases fr with
  | succ n => omega
  | zero =>
    exfalso
    obtain ⟨x, hx, hxl⟩ := ha
    obtain ⟨j, hj, rfl⟩ := List.mem_iff_getElem.1 hx
    have := h.cur j hj (Nat.zero_le _) hj
    omega
theorem Prt.done (h : Prt lv L l l.length fr segs xs) (ha : ∃ x ∈ l, lv x.k = L) : Shp lv l L (segs ++ [l.drop fr]) xs := by
  have hlast : ∀ x ∈ l.drop fr, lv x.k < L := by
    have := h.seg
    rwa [List.take_length] at this
  have heq : l = weave (segs ++ [l.drop fr]) xs := by
    have := weave_app segs [l.drop fr] xs [] h.len
    rw [List.append_nil] at this
    rw [this, ← h.eq]
    simp only [weave]
    rw [List.take_append_drop]
  refine ⟨by simp [h.len], ?_, heq, h.top, fun s hs x hx => ?_⟩
  · obtain ⟨x, hx, hxl⟩ := ha
    cases xs with
    | cons y ys => simp
    | nil =>
      exfalso
      have hs0 : segs = [] := List.eq_nil_of_length_eq_zero h.len
      subst hs0
      have h0 := h.eq
      simp only [wvA] at h0
      rw [← List.take_append_drop fr l, h0, List.nil_append] at hx
      have := hlast x hx
      omega
  · rcases List.mem_append.1 hs with hs | hs
    · exact h.low s hs x hx
    · rw [List.mem_singleton.1 hs] at hx
      exact hlast x hx
end

/-- Bytes hang on the blocks that stood. -/
theorem Sl.on {w w' : World} {ao : Option Addr} {n cap : Nat} {xs : List Int} (h : Sl w ao n cap xs) (hb : ∀ b, b < w.heap.size → w'.heap[b]? = w.heap[b]?) : Sl w' ao n cap xs := by
  refine ⟨h.len, h.le, h.mx, h.nil, fun a ha i hi => ?_, h.byte⟩
  have hc := h.cell a ha i hi
  rw [← hc]
  exact World.cell?_of_block (hb _ (World.block_lt_of_cell? w _ hc))

/-- Kids of a node that is being made. -/
structure KidsF (W : World) (m n g : Nat) (k v c : Value) (us : List Value) (segs : List (List It)) : Prop where
  len : us.length = segs.length
  kid : ∀ (i : Nat) (s : List It), segs[i]? = some s → ∃ u, us[i]? = some u ∧ Far W m n g k v c fun w => T w u s
section
variable {W W' : World} {m n g : Nat} {k v c k' v' c' : Value} {us : List Value} {segs : List (List It)}
theorem KidsF.nil (W : World) (m n g : Nat) (k v c : Value) : KidsF W m n g k v c [] [] := ⟨rfl, fun i s h => by simp at h⟩
theorem KidsF.chg (h : KidsF W m n g k v c us segs) (hc : Chg W W' g k v c k' v' c') : KidsF W' m n g k' v' c' us segs :=
  ⟨h.len, fun i s hi => by obtain ⟨u, hu, hf⟩ := h.kid i s hi; exact ⟨u, hu, hf.chg hc⟩⟩
theorem KidsF.app (h : KidsF W m n g k v c us segs) {u : Value} {s : List It} (hu : Far W m n g k v c fun w => T w u s) : KidsF W m n g k v c (us ++ [u]) (segs ++ [s]) := by
  refine ⟨by simp [h.len], fun i t hi => ?_⟩
  have hl := h.len
  by_cases hlt : i < segs.length
  · rw [List.getElem?_append_left hlt] at hi
    rw [List.getElem?_append_left (by omega)]
    exact h.kid i t hi
  · rw [List.getElem?_append_right (by omega)] at hi
    rw [List.getElem?_append_right (by omega)]
    cases hj : i - segs.length with
    | zero =>
      rw [hj] at hi
      rw [hl, hj]
      simp only [List.getElem?_cons_zero, Option.some.injEq] at hi ⊢
      subst hi
      exact ⟨u, rfl, hu⟩
    | succ j => rw [hj] at hi; simp at hi
theorem KidsF.end (h : KidsF W m n g k v c us segs) {w : World} (hw : ∀ b, (b < m ∨ n ≤ b) → b < W.heap.size → w.heap[b]? = W.heap[b]?) : Kids w us segs :=
  ⟨h.len, fun i s hi => by obtain ⟨u, hu, hf⟩ := h.kid i s hi; exact ⟨u, hu, hf.end hw⟩⟩
end

/-- A leaf in memory. -/
structure LP where
  L : Nat
  k : Part
  v : Part
def LP.it (q : LP) : It := ⟨q.k.xs, q.v.xs⟩
/-- Its bytes, and its level is its key's. -/
def LP.ok (w : World) (q : LP) : Prop := Sl w q.k.ao q.k.n q.k.cap q.k.xs ∧ Sl w q.v.ao q.v.n q.v.cap q.v.xs ∧ q.L = lev q.k.xs
/-- The slice at ao, of n leaves, up to cap, holds ls. -/
structure LL (w : World) (ao : Option Addr) (n cap : Nat) (ls : List LP) : Prop where
  len : ls.length = n
  le : n ≤ cap
  mx : cap ≤ maxLen
  nil : ao = none → n = 0 ∧ cap = 0
  cell : ∀ a, ao = some a → ∀ i (h : i < ls.length), w.cell? (a.add (i * 3)) = some (.int .i64 ls[i].L) ∧ w.cell? (a.add (i * 3 + 1)) = some ls[i].k.val ∧ w.cell? (a.add (i * 3 + 2)) = some ls[i].v.val
theorem LL.below {w w' : World} {ao : Option Addr} {n cap : Nat} {ls : List LP} (h : LL w ao n cap ls) (hb : Below w.heap.size w w') : LL w' ao n cap ls :=
  ⟨h.len, h.le, h.mx, h.nil, fun a ha i hi => by
    obtain ⟨h1, h2, h3⟩ := h.cell a ha i hi
    exact ⟨(hb.cell (World.block_lt_of_cell? w _ h1)).trans h1, (hb.cell (World.block_lt_of_cell? w _ h2)).trans h2, (hb.cell (World.block_lt_of_cell? w _ h3)).trans h3⟩⟩
theorem LL.at {w : World} {ao : Option Addr} {n cap : Nat} {ls : List LP} (h : LL w ao n cap ls) (hn : 0 < n) :
    ∃ b off, ao = some ⟨b, off, none⟩ ∧ ∀ i (hi : i < ls.length), w.cell? ⟨b, off + i * 3, none⟩ = some (.int .i64 ls[i].L) ∧ w.cell? ⟨b, off + i * 3 + 1, none⟩ = some ls[i].k.val ∧ w.cell? ⟨b, off + i * 3 + 2, none⟩ = some ls[i].v.val := by
  have hl := h.len
  cases ao with
  | none => have := (h.nil rfl).1; omega
  | some a =>
    obtain ⟨b, off, spot⟩ := a
    have hc := (h.cell _ rfl 0 (by omega)).1
    have hs : spot = none := by simpa [Addr.add] using World.cell?_spot hc
    subst hs
    exact ⟨b, off, rfl, fun i hi => by have := h.cell _ rfl i hi; rw [Addr.add_lit, Addr.add_lit, Addr.add_lit, ← Nat.add_assoc, ← Nat.add_assoc] at this; exact this⟩
theorem leafInfo : (Tryz.prog.info? 49).map (fun i => (i.zero, i.size, i.bytes)) = some (some (.agg #[.int .i64 0, .slice none 0 0, .slice none 0 0]), 3, 56) := by kernel_rfl
theorem size3 (w : World) : (sizeOf 49).run Tryz.prog w = .ok 3 w := by
  have hI := leafInfo
  cases hi : Tryz.prog.info? 49 with
  | none => rw [hi] at hI; simp at hI
  | some i =>
    rw [hi] at hI
    simp only [Option.map_some, Option.some.injEq, Prod.mk.injEq] at hI
    simp [sizeOf, typeInfo, hi, hI.2.1]
/-- Where l[j:..:c] lies. -/
def bk3 (ao : Option Addr) (c j : Nat) : Option Addr := if c = j then ao else ao.map (·.add (j * 3))
/-- l[j:] -/
theorem run_back3 {W : World} {ao : Option Addr} {n cap j : Nat} (h1 : j ≤ n) :
    (Instr.sliceAt 45 (.slice ao n cap) (some (.int .i64 (j : Nat))) none none).run Tryz.prog W = .ok (.slice (bk3 ao cap j) (n - j) (cap - j)) W := by
  have ht := Tryz.underlying45
  have he : Tryz.prog.elem 45 = 49 := by simp [Program.elem, ht]
  rw [run_sliceAt_slice W 45 _ _ _ _ (by rw [he]; exact ht), run_slice_l W 45 ao n cap (by rw [he]; exact ht) .i64 j (by omega) (by omega), he, size3]
  simp only [Result.andThen_ok, sliced, Int.toNat_natCast, bk3]
/-- l[j:i:i] -/
theorem run_mid3 {W : World} {ao : Option Addr} {n cap j i : Nat} (h1 : j ≤ i) (h2 : i ≤ cap) :
    (Instr.sliceAt 45 (.slice ao n cap) (some (.int .i64 (j : Nat))) (some (.int .i64 (i : Nat))) (some (.int .i64 (i : Nat)))).run Tryz.prog W = .ok (.slice (bk3 ao i j) (i - j) (i - j)) W := by
  have ht := Tryz.underlying45
  have he : Tryz.prog.elem 45 = 49 := by simp [Program.elem, ht]
  rw [run_sliceAt_slice W 45 _ _ _ _ (by rw [he]; exact ht), run_slice_lhm W 45 ao n cap (by rw [he]; exact ht) .i64 .i64 .i64 j i i (by omega) (by omega) (by omega) (by omega), he, size3]
  simp only [Result.andThen_ok, sliced, Int.toNat_natCast, bk3]
theorem LL.part {w : World} {ao : Option Addr} {n cap : Nat} {ls : List LP} (h : LL w ao n cap ls) {j i c : Nat} (hj : j ≤ i) (hi : i ≤ n) (hc : i ≤ c) (hcc : c ≤ cap) : LL w (bk3 ao c j) (i - j) (c - j) ((ls.take i).drop j) := by
  have h1 := h.len
  have h2 := h.mx
  refine ⟨by simp; omega, by omega, by omega, fun hn => ?_, fun b hb p hp => ?_⟩
  · unfold bk3 at hn
    by_cases he : c = j
    · omega
    · rw [if_neg he] at hn
      have := h.nil (by simpa using hn)
      omega
  · simp only [List.length_drop, List.length_take] at hp
    have he : c ≠ j := by omega
    unfold bk3 at hb
    rw [if_neg he] at hb
    cases ao with
    | none => simp at hb
    | some a =>
      have hb' : a.add (j * 3) = b := by simpa using hb
      have := h.cell a rfl (j + p) (by omega)
      rw [← hb', Addr.add_add, Addr.add_add, Addr.add_add, List.getElem_drop, List.getElem_take, ← Nat.add_mul, ← Nat.add_assoc, ← Nat.add_assoc, ← Nat.add_mul]
      exact this
/-- What shape answers: a tree that hangs on the bytes' blocks and on new ones alone. -/
def OnT (m : Nat) (w : World) (l : List It) (e : Ending) (w' : World) : Prop := ∃ v, e = .returned (.pointer v) ∧ On w' m w.heap.size (fun W => T W (.pointer v) l) ∧ Below w.heap.size w w'
theorem OnT.nil (m : Nat) (w : World) : OnT m w [] (.returned (.pointer none)) w := ⟨none, rfl, fun W _ => T.nil W, Below.refl _ _⟩
/-- All is made. -/
theorem NB.onT {W w0 : World} {base g : Nat} {t pe : TypeId} {k v c : Value} {us : List Value} {L : Nat} {ks vs : List Part} {l : List It} {segs : List (List It)} {xs : List It} (h : NB W base g t pe L k v c (ks.map Part.val) (vs.map Part.val) us)
    (hm : w0.heap.size ≤ W.heap.size) (h0 : ∀ b, b < w0.heap.size → W.heap[b]? = w0.heap[b]?) (hks : ∀ q ∈ ks, Sl w0 q.ao q.n q.cap q.xs) (hvs : ∀ q ∈ vs, Sl w0 q.ao q.n q.cap q.xs)
    (hs : Shp lev l L segs xs) (ek : ks.map Part.xs = xs.map It.k) (ev : vs.map Part.xs = xs.map It.v) (kid : KidsF W w0.heap.size base g k v c us segs) : On W w0.heap.size base fun w => T w (.pointer (some ⟨g, 0, none⟩)) l := fun w hw => by
  have hw0 : ∀ b, b < w0.heap.size → w.heap[b]? = w0.heap[b]? := fun b hb => (hw b (.inl hb) (by omega)).trans (h0 b hb)
  exact (h.on (fun b h1 h2 => hw b (.inr h1) h2)).tree (fun q hq => (hks q hq).on hw0) (fun q hq => (hvs q hq).on hw0) hs ek ev (kid.end hw)
end Go.Proofs.YtiabdcejibeciaaGreatDoor

namespace Go.Proofs
open Go.Shelf
def Tryz.sortLeaf_ren : Go.Shelf.Ren := ⟨fun | 6 => 20 | 15 => 51 | 14 => 50 | 28 => 83 | 29 => 84 | 20 => 75 | 21 => 76 | 22 => 77 | 23 => 78 | 24 => 79 | 25 => 80 | 26 => 81 | 27 => 82 | 46 => 98 | 47 => 99 | 48 => 100 | 49 => 101 | 50 => 102 | 57 => 109 | n => n, fun | 22 => 45 | 24 => 49 | 25 => 52 | 3 => 3 | 39 => 84 | 0 => 0 | 53 => 124 | 55 => 63 | 4 => 4 | 46 => 118 | 45 => 117 | 50 => 100 | 5 => 5 | 9 => 9 | 66 => 140 | 70 => 143 | 76 => 154 | 77 => 155 | n => n, fun | n => n⟩
theorem Tryz.sortLeaf : Go.Proofs.SlLaysF0.n6 Tryz.prog Tryz.sortLeaf_ren := {
  mixed := by kernel_rfl
  f6 := ⟨Tryz.f20.name, by decide, Tryz.func20.trans (congrArg some (by kernel_rfl))⟩
  f14 := ⟨Tryz.f50.name, by decide, Tryz.func50.trans (congrArg some (by kernel_rfl))⟩
  f15 := Tryz.func51.trans (congrArg some (by kernel_rfl))
  f20 := ⟨Tryz.f75.name, by decide, Tryz.func75.trans (congrArg some (by kernel_rfl))⟩
  f21 := ⟨Tryz.f76.name, by decide, Tryz.func76.trans (congrArg some (by kernel_rfl))⟩
  f22 := ⟨Tryz.f77.name, by decide, Tryz.func77.trans (congrArg some (by kernel_rfl))⟩
  f23 := ⟨Tryz.f78.name, by decide, Tryz.func78.trans (congrArg some (by kernel_rfl))⟩
  f24 := ⟨Tryz.f79.name, by decide, Tryz.func79.trans (congrArg some (by kernel_rfl))⟩
  f25 := ⟨Tryz.f80.name, by decide, Tryz.func80.trans (congrArg some (by kernel_rfl))⟩
  f26 := ⟨Tryz.f81.name, by decide, Tryz.func81.trans (congrArg some (by kernel_rfl))⟩
  f27 := ⟨Tryz.f82.name, by decide, Tryz.func82.trans (congrArg some (by kernel_rfl))⟩
  f28 := Tryz.func83.trans (congrArg some (by kernel_rfl))
  f29 := Tryz.func84.trans (congrArg some (by kernel_rfl))
  f46 := ⟨Tryz.f98.name, by decide, Tryz.func98.trans (congrArg some (by kernel_rfl))⟩
  f47 := Tryz.func99.trans (congrArg some (by kernel_rfl))
  f48 := Tryz.func100.trans (congrArg some (by kernel_rfl))
  f49 := ⟨Tryz.f101.name, by decide, Tryz.func101.trans (congrArg some (by kernel_rfl))⟩
  f50 := ⟨Tryz.f102.name, by decide, Tryz.func102.trans (congrArg some (by kernel_rfl))⟩
  f57 := ⟨Tryz.f109.name, by decide, Tryz.func109.trans (congrArg some (by kernel_rfl))⟩
  t0 := Tryz.underlying0
  a0 := Tryz.isAgg0
  z0 := Tryz.sizeOf0
  v0 := Tryz.zeroValue0
  t3 := Tryz.underlying3
  a3 := Tryz.isAgg3
  z3 := Tryz.sizeOf3
  v3 := Tryz.zeroValue3
  t4 := Tryz.underlying4
  a4 := Tryz.isAgg4
  z4 := Tryz.sizeOf4
  v4 := Tryz.zeroValue4
  t5 := Tryz.underlying5
  a5 := Tryz.isAgg5
  z5 := Tryz.sizeOf5
  v5 := Tryz.zeroValue5
  t9 := Tryz.underlying9
  a9 := Tryz.isAgg9
  z9 := Tryz.sizeOf9
  v9 := Tryz.zeroValue9
  t22 := Tryz.underlying45
  a22 := Tryz.isAgg45
  z22 := Tryz.sizeOf45
  v22 := Tryz.zeroValue45
  t25 := Tryz.underlying52
  a25 := Tryz.isAgg52
  z25 := Tryz.sizeOf52
  v25 := Tryz.zeroValue52
  t39 := Tryz.underlying84
  a39 := Tryz.isAgg84
  z39 := Tryz.sizeOf84
  v39 := Tryz.zeroValue84
  t45 := Tryz.underlying117
  a45 := Tryz.isAgg117
  z45 := Tryz.sizeOf117
  v45 := Tryz.zeroValue117
  t46 := Tryz.underlying118
  a46 := Tryz.isAgg118
  z46 := Tryz.sizeOf118
  v46 := Tryz.zeroValue118
  t50 := Tryz.underlying100
  a50 := Tryz.isAgg100
  z50 := Tryz.sizeOf100
  v50 := Tryz.zeroValue100
  t53 := Tryz.underlying124
  a53 := Tryz.isAgg124
  z53 := Tryz.sizeOf124
  v53 := Tryz.zeroValue124
  t55 := Tryz.underlying63
  a55 := Tryz.isAgg63
  z55 := Tryz.sizeOf63
  v55 := Tryz.zeroValue63
  t66 := Tryz.underlying140
  a66 := Tryz.isAgg140
  z66 := Tryz.sizeOf140
  v66 := Tryz.zeroValue140
  t70 := Tryz.underlying143
  a70 := Tryz.isAgg143
  z70 := Tryz.sizeOf143
  v70 := Tryz.zeroValue143
  t76 := Tryz.underlying154
  a76 := Tryz.isAgg154
  z76 := Tryz.sizeOf154
  v76 := Tryz.zeroValue154
  t77 := Tryz.underlying155
  a77 := Tryz.isAgg155
  z77 := Tryz.sizeOf155
  v77 := Tryz.zeroValue155 }
end Go.Proofs

namespace Go.Proofs.YtiabdcejibeciaaGreatDoor
open Go.RowKit

/-- The cells of some leaves. -/
def encL (q : LP) : List Value := [.int .i64 q.L, q.k.val, q.v.val]
def flatL (ls : List LP) : List Value := ls.flatMap encL
theorem flatL_cons (q : LP) (ls : List LP) : flatL (q :: ls) = .int .i64 q.L :: q.k.val :: q.v.val :: flatL ls := rfl
theorem flatL_app (a b : List LP) : flatL (a ++ b) = flatL a ++ flatL b := by simp [flatL]
theorem flatL_length (ls : List LP) : (flatL ls).length = ls.length * 3 := by
  induction ls with
  | nil => rfl
  | cons q ls ih =>
    rw [flatL_cons, List.length_cons, List.length_cons, List.length_cons, ih, List.length_cons]
    omega
theorem flatL_get : ∀ (ls : List LP) (i : Nat) (hi : i < ls.length) (j : Nat), j < 3 → (flatL ls)[i * 3 + j]? = (encL ls[i])[j]?
  | q :: ls, 0, _, j, hj => by
    match j, hj with
    | 0, _ => rfl
    | 1, _ => rfl
    | 2, _ => rfl
  | q :: ls, i + 1, hi, j, hj => by
    have := flatL_get ls i (by simpa using hi) j hj
    rw [flatL_cons, show (i + 1) * 3 + j = (i * 3 + j) + 1 + 1 + 1 by omega]
    simpa using this
theorem flatL_one (ls : List LP) : ∀ u ∈ flatL ls, u.oneCell' = true := fun u hu => by
  obtain ⟨q, -, hq⟩ := List.mem_flatMap.1 hu
  simp only [encL, List.mem_cons, List.not_mem_nil, or_false] at hq
  rcases hq with rfl | rfl | rfl <;> rfl
/-- A leaf whose bytes stand in w. -/
structure LW (w : World) where
  q : LP
  hk : SlT w q.k
  hv : SlT w q.v
def LW.enc {w : World} (x : LW w) : List Value := encL x.q
def LW.cf {w : World} (x y : LW w) : Int := cmpL x.q.k.xs y.q.k.xs
theorem slT_none (w : World) : SlT w ⟨none, 0, 0, []⟩ := ⟨Sl.nothing w, fun a h => by simp at h⟩
theorem swoL (w : World) : Sort.SWO (ltOf (LW.cf (w := w))) := by
  refine ⟨fun x => decide_eq_false (cmpL_irr x.q.k.xs), fun x y z h1 h2 => decide_eq_true (cmpL_lt_trans _ _ _ (of_decide_eq_true h1) (of_decide_eq_true h2)), fun x y z h1 h2 => ?_⟩
  · replace h1 := of_decide_eq_false h1
    replace h2 := of_decide_eq_false h2
    refine decide_eq_false fun h => ?_
    unfold LW.cf at h h1 h2
    rcases cmpL_total x.q.k.xs y.q.k.xs with h3 | h3 | h3
    · exact h1 h3
    · rw [h3] at h
      exact h2 h
    · exact h2 (cmpL_lt_trans _ _ _ h3 h)
/-- Blocks behind the sort: all but the row's. -/
theorem sortW_block {α : Type} [Inhabited α] (enc : α → List Value) (k : Nat) (w : World) (blk off m : Nat) (dk : Array α) (os : Array Obj) (b : Nat) (hb : b < w.heap.size) (hne : b ≠ blk) : (sortWorldK enc k w blk off m dk os).heap[b]? = w.heap[b]? := by
  unfold sortWorldK
  rw [Sort.heap_grow_old _ _ (by rw [Sort.size_putRowK]; exact hb)]
  simp only [Sort.putRowK, Sort.putRow, Sort.mapBlock, Array.getElem?_modify]
  rw [if_neg (fun e => hne e.symm)]
  rfl
theorem sortW_size {α : Type} [Inhabited α] (enc : α → List Value) (k : Nat) (w : World) (blk off m : Nat) (dk : Array α) (os : Array Obj) : w.heap.size ≤ (sortWorldK enc k w blk off m dk os).heap.size := by
  unfold sortWorldK
  rw [Sort.size_grow, Sort.size_putRowK]
  exact Nat.le_add_right _ _
theorem sortW_kp {α : Type} [Inhabited α] (enc : α → List Value) (k : Nat) (w : World) (blk off m : Nat) (dk : Array α) (os : Array Obj) {t : TypeId} {cur : Array Value} {z : Nat × Nat} (hg : w.heap[blk]? = some (.cells cur t z)) (ht : t ≠ 5) : KpB w (sortWorldK enc k w blk off m dk os) := fun b c hbc => by
  have hne : b ≠ blk := fun e => by
    subst e
    rw [hg] at hbc
    simp only [Option.some.injEq, Obj.cells.injEq] at hbc
    exact ht hbc.2.1
  rw [sortW_block enc k w blk off m dk os b (Array.getElem?_eq_some_iff.1 hbc).1 hne]
  exact hbc
theorem sortW_below {α : Type} [Inhabited α] (enc : α → List Value) (k : Nat) (w : World) (blk off m : Nat) (dk : Array α) (os : Array Obj) (base : Nat) (hb : base ≤ blk) (hblk : blk < w.heap.size) : Below base w (sortWorldK enc k w blk off m dk os) :=
  ⟨rfl, rfl, rfl, sortW_size enc k w blk off m dk os, fun b h => sortW_block enc k w blk off m dk os b (by omega) (by omega)⟩

set_option maxHeartbeats 1000000 in
set_option maxRecDepth 100000 in
/-- The comparison. -/
theorem cmpLeaf (W : World) (x y : LP) (hx : Sl W x.k.ao x.k.n x.k.cap x.k.xs) (hy : Sl W y.k.ao y.k.n y.k.cap y.k.xs) :
    Calls Tryz.prog 21 #[.agg (encL x).toArray, .agg (encL y).toArray] W fun e w' => e = .returned (.int .i64 (cmpL x.k.xs y.k.xs)) ∧ ∃ q os', w' = Sort.grow (W.drewN q) os' := by
  obtain ⟨W1, hW1⟩ : ∃ V, V = W.alloc (.cells #[.int .i64 x.L, .slice x.k.ao x.k.n x.k.cap, .slice x.v.ao x.v.n x.v.cap] 49) := ⟨_, rfl⟩
  obtain ⟨W2, hW2⟩ : ∃ V, V = W1.alloc (.cells #[.int .i64 y.L, .slice y.k.ao y.k.n y.k.cap, .slice y.v.ao y.v.n y.v.cap] 49) := ⟨_, rfl⟩
  have B1 : Below W.heap.size W W1 := by rw [hW1]; exact (Below.refl _ _).alloc (Nat.le_refl _) _
  have C2 : Below W1.heap.size W1 W2 := by rw [hW2]; exact (Below.refl _ _).alloc (Nat.le_refl _) _
  have B2 := B1.trans (C2.mono B1.size)
  have CB := bcmp_any W2 x.k.ao y.k.ao x.k.n x.k.cap y.k.n y.k.cap x.k.xs y.k.xs (hx.below B2) (hy.below B2)
  have hg : W2 = Sort.grow (W.drewN 0) #[.cells #[.int .i64 x.L, .slice x.k.ao x.k.n x.k.cap, .slice x.v.ao x.v.n x.v.cap] 49, .cells #[.int .i64 y.L, .slice y.k.ao y.k.n y.k.cap, .slice y.v.ao y.v.n y.v.cap] 49] := by
    rw [hW2, hW1, Sort.alloc_eq_grow, Sort.alloc_eq_grow, Sort.grow_grow]
    rfl
  have HG : Hid (W2 = Sort.grow (W.drewN 0) #[.cells #[.int .i64 x.L, .slice x.k.ao x.k.n x.k.cap, .slice x.v.ao x.v.n x.v.cap] 49, .cells #[.int .i64 y.L, .slice y.k.ao y.k.n y.k.cap, .slice y.v.ao y.v.n y.v.cap] 49]) := hg
  clear hg
  unfold encL Part.val
  go_enter Tryz.func21, Tryz.ntmps21
  go_wp2_with fail
  rw [← hW1, ← hW2]
  clear hW1 hW2
  refine CB.mono ?_
  rintro e w' ⟨rfl, hw⟩
  obtain rfl := hw.symm
  go_wp2
  go_ret
  exact ⟨rfl, 0, _, HG.out⟩

/-- No key stands ahead of a lesser one. -/
def RiseL (ls : List LP) : Prop := ls.Pairwise fun a b => ¬ cmpL b.k.xs a.k.xs < 0
/-- What the sort leaves. -/
def SortPost (w : World) (base g n cap : Nat) (ls : List LP) (e : Ending) (w' : World) : Prop := e = .returned (.tuple #[]) ∧
  ∃ ls', ls'.Perm ls ∧ RiseL ls' ∧ LL w' (some ⟨g, 0, none⟩) n cap ls' ∧ KpB w w' ∧ Below base w w'

set_option maxHeartbeats 1000000 in
/-- slices.SortFunc of leaves. -/
theorem sortL_any (w : World) (base g n cap : Nat) (ls : List LP) (own : w.ownsRow base 49 3 (.slice (some ⟨g, 0, none⟩) n cap) n (flatL ls)) (hsl : ∀ q ∈ ls, SlT w q.k ∧ SlT w q.v) (hn : n ≤ 1000000) :
    Calls Tryz.prog 20 #[.slice (some ⟨g, 0, none⟩) n cap, .func (.func 21) #[] #[]] w (SortPost w base g n cap ls) := by
  haveI : Inhabited (LW w) := ⟨⟨⟨0, ⟨none, 0, 0, []⟩, ⟨none, 0, 0, []⟩⟩, slT_none w, slT_none w⟩⟩
  have hlen : ls.length = n := by
    have h1 := own.1
    rw [flatL_length] at h1
    omega
  obtain ⟨cur, hgb, hbg, hle, hmx, hcs, htk⟩ : ∃ cur, w.heap[g]? = some (.cells cur 49 (0, 0)) ∧ base ≤ g ∧ n ≤ cap ∧ cap ≤ maxLen ∧ cur.size = cap * 3 ∧ cur.toList.take (n * 3) = flatL ls := by
    rcases own.2 with ⟨e, -⟩ | ⟨g', cap', cur, e, h1, h2, h3, h4, h5, h6⟩
    · simp at e
    · simp only [Value.slice.injEq, Option.some.injEq, Addr.mk.injEq, true_and, and_true] at e
      obtain ⟨rfl, rfl⟩ := e
      exact ⟨cur, h2, h1, h3, h4, h5, h6⟩
  have hglt : g < w.heap.size := (Array.getElem?_eq_some_iff.1 hgb).1
  obtain ⟨xs, hxs⟩ : ∃ xs : List (LW w), xs.map LW.q = ls := by
    have : ∀ (l : List LP), (∀ q ∈ l, SlT w q.k ∧ SlT w q.v) → ∃ xs : List (LW w), xs.map LW.q = l := by
      intro l
      induction l with
      | nil => exact fun _ => ⟨[], rfl⟩
      | cons q l ih =>
        intro h
        obtain ⟨xs, h1⟩ := ih fun y hy => h y (List.mem_cons_of_mem _ hy)
        have h2 := h q (List.mem_cons_self ..)
        exact ⟨⟨q, h2.1, h2.2⟩ :: xs, by rw [List.map_cons, h1]⟩
    exact this ls hsl
  have hxl : xs.length = n := by rw [← hlen, ← hxs, List.length_map]
  have hcell : ∀ i (hi : i < ls.length) j, j < 3 → ∀ u, (encL ls[i])[j]? = some u → w.cell? ⟨g, 0 + (i * 3 + j), none⟩ = some u := fun i hi j hj u hu => by
    have h1 := flatL_get ls i hi j hj
    rw [hu] at h1
    have h2 := own.cells (g := g) rfl (i * 3 + j) u h1
    rw [Addr.add_lit] at h2
    exact h2
  have hH : Sort.HoldsK LW.enc 3 w g 0 xs.toArray := fun t ht => by
    have ht' : t < xs.length * 3 := by simpa using ht
    have hi : t / 3 < xs.length := by omega
    have hi2 : t / 3 < ls.length := by omega
    refine ⟨?_, frozen_of_row w g (0 + t) _ _ hgb⟩
    rw [Sort.get_flatK _ _ _ _ (by simpa using ht')]
    have hx : xs.toArray[t / 3]! = xs[t / 3] := by simp [hi]
    have hq : xs[t / 3].q = ls[t / 3] := by
      have := congrArg (·[t / 3]?) hxs
      simpa [hi, hi2] using this
    rw [hx]
    have hj : t % 3 < 3 := Nat.mod_lt _ (by decide)
    have hl3 : (encL ls[t / 3]).length = 3 := rfl
    have := hcell (t / 3) hi2 (t % 3) hj (encL ls[t / 3])[t % 3] (List.getElem?_eq_getElem (by rw [hl3]; exact hj))
    rw [show t / 3 * 3 + t % 3 = t by omega] at this
    rw [this]
    unfold LW.enc
    rw [hq, getElem!_pos _ _ (by rw [hl3]; exact hj)]
    rfl
  have hcmp : CmpLays Tryz.prog 21 #[] LW.enc 3 (LW.cf (w := w)) g 0 xs.toArray.size w := fun m os dk _ x y => by
    have kp := sortW_kp (LW.enc (w := w)) 3 w g 0 m dk os hgb (by decide)
    exact cmpLeaf _ x.q y.q (x.hk.kp kp).1 (y.hk.kp kp).1
  have eg : ∀ args w, (callFunc 21 args).run Tryz.prog w = .ok (.enter 21 args) w := enters_of Tryz.func21 (by kernel_rfl) rfl
  have hsize3 : ∀ w, (Go.sizeOf 49).run Tryz.prog w = .ok 3 w := size3
  have hagg : ∀ w, (isAgg 49).run Tryz.prog w = .ok true w := fun w => by
    simp [isAgg, run_underlying Tryz.underlying49]
  have hcon := AnyQ.slices_SortFunc (P := Tryz.prog) Tryz.sortLeaf 3 hagg hsize3 (LW.enc (w := w)) (fun _ => rfl) (fun x v hv => by
    simp only [LW.enc, encL, List.mem_cons, List.not_mem_nil, or_false] at hv
    rcases hv with rfl | rfl | rfl <;> rfl) (LW.cf (w := w)) (swoL w) 21 #[] g 0 cap xs.toArray w eg hcmp hH hglt (by simp; omega)
  have hsz : xs.toArray.size = n := by simpa using hxl
  rw [hsz] at hcon
  refine Calls.mono (show Calls Tryz.prog 20 _ _ _ from hcon) ?_
  rintro e w' ⟨rfl, d', m, os, hp, hs, rfl⟩
  have hd : d'.size = n := hp.1.trans hsz
  refine ⟨rfl, d'.toList.map LW.q, ?_, ?_, ?_, sortW_kp _ 3 w g 0 m d' os hgb (by decide), sortW_below _ 3 w g 0 m d' os base hbg hglt⟩
  · have h1 := hp.2.2
    rw [Array.extract_eq_self_of_le (by omega), Array.extract_eq_self_of_le (by omega)] at h1
    have h2 := h1.map LW.q
    rw [hxs] at h2
    exact h2
  · refine List.pairwise_map.2 (List.pairwise_iff_getElem.2 fun i j hi hj hij => ?_)
    have hi' : i < d'.size := by simpa using hi
    have hj' : j < d'.size := by simpa using hj
    have h1 := hs i j (Nat.zero_le _) hij (by omega)
    rw [getElem!_pos d' i hi', getElem!_pos d' j hj'] at h1
    have h2 := of_decide_eq_false h1
    unfold LW.cf at h2
    simpa using h2
  · have hH' := holdsK_sortWorldK (LW.enc (w := w)) 3 w g 0 m xs.toArray d' os hglt hH (by omega)
    refine ⟨by simpa using hd, hle, hmx, fun h => by simp at h, fun a ha i hi => ?_⟩
    obtain rfl := Option.some.inj ha
    have hi' : i < d'.size := by simpa using hi
    have hc := HoldsK.cells hH' (fun _ => rfl) hi'
    rw [getElem!_pos d' i hi'] at hc
    have e : (d'.toList.map LW.q)[i] = d'[i].q := by simp
    rw [e]
    have h0 := hc 0 _ rfl
    have h1 := hc 1 _ rfl
    have h2 := hc 2 _ rfl
    simp only [Addr.add_lit, Nat.zero_add, Nat.add_zero] at h0 h1 h2 ⊢
    exact ⟨h0, h1, h2⟩
end Go.Proofs.YtiabdcejibeciaaGreatDoor

namespace Go.Proofs.YtiabdcejibeciaaGreatDoor
open Go.RowKit

/-- A leaf in a block of its own. -/
structure Lf (w : World) (g : Nat) (lv : Nat) (a b : Value) : Prop where
  c0 : w.cell? ⟨g, 0, none⟩ = some (.int .i64 lv)
  c1 : w.cell? ⟨g, 1, none⟩ = some a
  c2 : w.cell? ⟨g, 2, none⟩ = some b
theorem Lf.below {w w' : World} {g lv : Nat} {a b : Value} (h : Lf w g lv a b) (hb : Below w.heap.size w w') : Lf w' g lv a b :=
  ⟨(hb.cell (World.block_lt_of_cell? _ _ h.c0)).trans h.c0, (hb.cell (World.block_lt_of_cell? _ _ h.c1)).trans h.c1, (hb.cell (World.block_lt_of_cell? _ _ h.c2)).trans h.c2⟩
theorem Lf.new (w : World) (lv : Nat) (a b : Value) (t : TypeId) : Lf (w.alloc (.cells #[.int .i64 lv, a, b] t)) w.heap.size lv a b :=
  ⟨cell_of_row _ _ 0 _ _ _ (heap_alloc_new w _), cell_of_row _ _ 1 _ _ _ (heap_alloc_new w _), cell_of_row _ _ 2 _ _ _ (heap_alloc_new w _)⟩
end Go.Proofs.YtiabdcejibeciaaGreatDoor
