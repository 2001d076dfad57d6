/-
  Texts in one: PJoin, PWithout, ScopeDec, PFind, PWalk, HRegF, PLen, PTrim, Hex, CConv, PLevel, PTree, PGet, PDel.
-/
import Derived.Test.YtnicnfjickknjaaDoorTreePlaysZ1
import Derived.Test.YtnicnfjickknjaaDoorTreePlaysZ2
import Derived.Test.YtnicnfjickknjaaDoorTreePlaysZ0
import Derived.Lib.Strings
import Derived.Laws.BytesArg
import Derived.Laws.IdiomStrings
namespace Go.Proofs.YtnicnfjickknjaaDoor
open Go.RowKit

set_option maxHeartbeats 4000000 in
set_option maxRecDepth 100000 in
theorem join_fuel : ∀ (N : Nat) (w : World) (v1 v2 : Value) (l1 l2 : List It), l1.length + l2.length ≤ N → T w v1 l1 → T w v2 l2 → l1.length + l2.length ≤ 100000 →
    Calls Tryd.prog 54 #[v1, v2] w (RetT w (l1 ++ l2)) := by
  intro N
  induction N with
  | zero =>
    intro w v1 v2 l1 l2 hN h1 h2 hn
    obtain rfl : l1 = [] := List.eq_nil_of_length_eq_zero (by omega)
    obtain rfl : l2 = [] := List.eq_nil_of_length_eq_zero (by omega)
    rcases h1.is with ⟨-, rfl⟩ | ⟨d, segs, xs, rfl, hNd⟩
    · obtain ⟨p, rfl⟩ := h2.ptr
      go_enter Tryd.func54, Tryd.ntmps54
      go_wp2
      go_ret
      exact ⟨_, rfl, h2, Below.refl _ _⟩
    · have h0 := hNd.shp.pos
      have := hNd.shp.key xs[0] (List.getElem_mem h0)
      simp at this
  | succ N ih =>
    intro w v1 v2 l1 l2 hN h1 h2 hn
    rcases h1.is with ⟨rfl, rfl⟩ | ⟨d, segs, xs, rfl, h⟩
    · obtain ⟨p, rfl⟩ := h2.ptr
      go_enter Tryd.func54, Tryd.ntmps54
      go_wp2
      go_ret
      exact ⟨_, rfl, h2, Below.refl _ _⟩
    rcases h2.is with ⟨rfl, rfl⟩ | ⟨f, fegs, ys, rfl, k⟩
    · unfold Nd.ptr at h1 ⊢
      go_enter Tryd.func54, Tryd.ntmps54
      go_wp2
      go_ret
      rw [List.append_nil]
      exact ⟨_, rfl, h1, Below.refl _ _⟩
    have hm := h.many
    have hnk1 := Nat.le_of_eq h.nk
    have hnk2 := Nat.le_of_eq h.nk.symm
    have hnv1 := Nat.le_of_eq h.nv
    have hnv2 := Nat.le_of_eq h.nv.symm
    have hnc1 := Nat.le_of_eq h.nc
    have hnc2 := Nat.le_of_eq h.nc.symm
    have km := k.many
    have knk1 := Nat.le_of_eq k.nk
    have knk2 := Nat.le_of_eq k.nk.symm
    have knv1 := Nat.le_of_eq k.nv
    have knv2 := Nat.le_of_eq k.nv.symm
    have knc1 := Nat.le_of_eq k.nc
    have knc2 := Nat.le_of_eq k.nc.symm
    have hpos := h.shp.pos
    have kpos := k.shp.pos
    have hT1 := h1
    unfold Nd.ptr at h1 h2 ⊢
    by_cases hlt : d.L < f.L
    · have hlt' : (d.L : Int) < (f.L : Int) := by omega
      obtain ⟨s, A, B, c⟩ := k.shp.cut 0 (Nat.zero_le _)
      have hA : Hid (A = []) := by show _ = _; rw [c.eA]; rfl
      go_enter Tryd.func54, Tryd.ntmps54
      go_wp2_with fail
      have aHS : Hid (∀ V, Below w.heap.size w V → V.cell? ⟨d.b, 0, none⟩ = some (.int .i64 d.L) ∧ V.cell? ⟨f.b, 0, none⟩ = some (.int .i64 f.L)) := fun V hV => ⟨(h.ok.below hV).c0, (k.ok.below hV).c0⟩
      have aE0 : Below w.heap.size w w.drew := (Below.refl _ _).drew
      refine wp_region_noPanic ?_
      refine wp_region_held_drew (S := fun V => V.cell? ⟨d.b, 0, none⟩ = some (.int .i64 d.L) ∧ V.cell? ⟨f.b, 0, none⟩ = some (.int .i64 f.L)) (by kernel_rfl) (aHS.out _ aE0) (fun aH0 => ?_)
      obtain ⟨av0, hv0⟩ : ∃ v, v = w.drew := ⟨_, rfl⟩
      rw [← hv0] at aH0 aE0 ⊢
      clear hv0
      refine hr_take_w 0 (some 16) (.pointer (some ⟨d.b, 0, none⟩)) rfl rfl (by kernel_rfl) (by kernel_rfl) (by kernel_rfl) rfl (fun W hW => by obtain ⟨h0, h1⟩ := hW; go_simp) aH0 ?_
      simp only [Act.put, List.setIfInBounds_toArray, List.set_cons_zero, List.set_cons_succ]
      refine hr_take_w 1 (some 17) (.pointer (some ⟨d.b, 0, none⟩)) rfl rfl (by kernel_rfl) (by kernel_rfl) (by kernel_rfl) rfl (fun W hW => by obtain ⟨h0, h1⟩ := hW; go_simp) aH0 ?_
      simp only [Act.put, List.setIfInBounds_toArray, List.set_cons_zero, List.set_cons_succ]
      refine hr_take_w 2 (some 18) (.pointer (some ⟨d.b, 0, none⟩)) rfl rfl (by kernel_rfl) (by kernel_rfl) (by kernel_rfl) rfl (fun W hW => by obtain ⟨h0, h1⟩ := hW; go_simp) aH0 ?_
      simp only [Act.put, List.setIfInBounds_toArray, List.set_cons_zero, List.set_cons_succ]
      refine hr_take_w 3 (some 19) (.int .i64 d.L) rfl rfl (by kernel_rfl) (by kernel_rfl) (by kernel_rfl) rfl (fun W hW => by obtain ⟨h0, h1⟩ := hW; go_simp) aH0 ?_
      simp only [Act.put, List.setIfInBounds_toArray, List.set_cons_zero, List.set_cons_succ]
      refine hr_take_w 4 (some 20) (.pointer (some ⟨f.b, 0, none⟩)) rfl rfl (by kernel_rfl) (by kernel_rfl) (by kernel_rfl) rfl (fun W hW => by obtain ⟨h0, h1⟩ := hW; go_simp) aH0 ?_
      simp only [Act.put, List.setIfInBounds_toArray, List.set_cons_zero, List.set_cons_succ]
      refine hr_take_w 5 (some 21) (.pointer (some ⟨f.b, 0, none⟩)) rfl rfl (by kernel_rfl) (by kernel_rfl) (by kernel_rfl) rfl (fun W hW => by obtain ⟨h0, h1⟩ := hW; go_simp) aH0 ?_
      simp only [Act.put, List.setIfInBounds_toArray, List.set_cons_zero, List.set_cons_succ]
      refine hr_take_w 6 (some 22) (.pointer (some ⟨f.b, 0, none⟩)) rfl rfl (by kernel_rfl) (by kernel_rfl) (by kernel_rfl) rfl (fun W hW => by obtain ⟨h0, h1⟩ := hW; go_simp) aH0 ?_
      simp only [Act.put, List.setIfInBounds_toArray, List.set_cons_zero, List.set_cons_succ]
      refine hr_take_w 7 (some 23) (.int .i64 f.L) rfl rfl (by kernel_rfl) (by kernel_rfl) (by kernel_rfl) rfl (fun W hW => by obtain ⟨h0, h1⟩ := hW; go_simp) aH0 ?_
      simp only [Act.put, List.setIfInBounds_toArray, List.set_cons_zero, List.set_cons_succ]
      refine hr_take_w 8 (some 24) (.bool true) rfl rfl (by kernel_rfl) (by kernel_rfl) (by kernel_rfl) rfl (fun W hW => by obtain ⟨h0, h1⟩ := hW; go_simp) aH0 ?_
      simp only [Act.put, List.setIfInBounds_toArray, List.set_cons_zero, List.set_cons_succ]
      refine hr_take_w 9 (some 15) (.bool true) rfl rfl (by kernel_rfl) (by kernel_rfl) (by kernel_rfl) rfl (fun W hW => by obtain ⟨h0, h1⟩ := hW; go_simp) aH0 ?_
      simp only [Act.put, List.setIfInBounds_toArray, List.set_cons_zero, List.set_cons_succ]
      refine wpAnyH_done (by kernel_rfl) ?_ _
      refine NoPanic.normal ?_
      have Na := h.below aE0
      have Ka := k.below aE0
      obtain ⟨kb, ko, s', u, eco, hs1, hs2, hcell, hTk, hlen⟩ := Ka.kidAt 0 (Nat.zero_le _)
      obtain rfl : s = s' := Option.some.inj (c.seg.symm.trans hs1)
      have c3 := Ka.ok.c3
      rw [eco] at c3
      have c0 : (0 : Int) < (f.cs.length : Int) := by omega
      have CI := ih av0 (.pointer (some ⟨d.b, 0, none⟩)) u l1 s (by omega) (h1.below aE0) hTk (by omega)
      rw [Nat.add_zero] at hcell
      clear eco hs1 hs2
      go_wp2_with fail
      refine CI.mono ?_
      rintro e w2 ⟨x, rfl, Tx, B2'⟩
      have B2 : Below w.heap.size w w2 := aE0.trans (B2'.mono aE0.size)
      have CW := withKid_any w2 l2 f fegs ys (k.below B2) 0 s A B (l1 ++ s) c x Tx (by
        intro y hy
        rcases List.mem_append.1 hy with hy | hy
        · have := h.shp.le y hy
          omega
        · exact c.ls y hy) (by omega)
      unfold Nd.ptr at CW
      clear CI c3 hcell hTk B2'
      go_wp2_with fail
      refine CW.mono ?_
      rintro e w3 ⟨z, rfl, Tz, B3'⟩
      have B3 : Below w.heap.size w w3 := B2.trans (B3'.mono B2.size)
      go_wp2
      go_ret
      refine ⟨_, rfl, ?_, B3⟩
      have e : l1 ++ l2 = A ++ ((l1 ++ s) ++ B) := by rw [c.el, hA.out]; simp
      rw [e]
      exact Tz
    have hlt' : ¬ (d.L : Int) < (f.L : Int) := by omega
    have c1 := h.ok.c1
    by_cases hgt : f.L < d.L
    · have hgt' : (f.L : Int) < (d.L : Int) := by omega
      obtain ⟨s, A, B, c⟩ := h.shp.cut d.ks.length (by omega)
      have hB : Hid (B = []) := by
        show _ = _
        have hd : xs.drop d.ks.length = [] := List.drop_eq_nil_of_le (by omega)
        rw [c.eB, hd]
        rfl
      go_enter Tryd.func54, Tryd.ntmps54
      go_wp2_with fail
      have aHS : Hid (∀ V, Below w.heap.size w V → V.cell? ⟨d.b, 0, none⟩ = some (.int .i64 d.L) ∧ V.cell? ⟨f.b, 0, none⟩ = some (.int .i64 f.L)) := fun V hV => ⟨(h.ok.below hV).c0, (k.ok.below hV).c0⟩
      have aE0 : Below w.heap.size w w.drew := (Below.refl _ _).drew
      refine wp_region_noPanic ?_
      refine wp_region_held_drew (S := fun V => V.cell? ⟨d.b, 0, none⟩ = some (.int .i64 d.L) ∧ V.cell? ⟨f.b, 0, none⟩ = some (.int .i64 f.L)) (by kernel_rfl) (aHS.out _ aE0) (fun aH0 => ?_)
      obtain ⟨av0, hv0⟩ : ∃ v, v = w.drew := ⟨_, rfl⟩
      rw [← hv0] at aH0 aE0 ⊢
      clear hv0
      refine hr_take_w 0 (some 16) (.pointer (some ⟨d.b, 0, none⟩)) rfl rfl (by kernel_rfl) (by kernel_rfl) (by kernel_rfl) rfl (fun W hW => by obtain ⟨h0, h1⟩ := hW; go_simp) aH0 ?_
      simp only [Act.put, List.setIfInBounds_toArray, List.set_cons_zero, List.set_cons_succ]
      refine hr_take_w 1 (some 17) (.pointer (some ⟨d.b, 0, none⟩)) rfl rfl (by kernel_rfl) (by kernel_rfl) (by kernel_rfl) rfl (fun W hW => by obtain ⟨h0, h1⟩ := hW; go_simp) aH0 ?_
      simp only [Act.put, List.setIfInBounds_toArray, List.set_cons_zero, List.set_cons_succ]
      refine hr_take_w 2 (some 18) (.pointer (some ⟨d.b, 0, none⟩)) rfl rfl (by kernel_rfl) (by kernel_rfl) (by kernel_rfl) rfl (fun W hW => by obtain ⟨h0, h1⟩ := hW; go_simp) aH0 ?_
      simp only [Act.put, List.setIfInBounds_toArray, List.set_cons_zero, List.set_cons_succ]
      refine hr_take_w 3 (some 19) (.int .i64 d.L) rfl rfl (by kernel_rfl) (by kernel_rfl) (by kernel_rfl) rfl (fun W hW => by obtain ⟨h0, h1⟩ := hW; go_simp) aH0 ?_
      simp only [Act.put, List.setIfInBounds_toArray, List.set_cons_zero, List.set_cons_succ]
      refine hr_take_w 4 (some 20) (.pointer (some ⟨f.b, 0, none⟩)) rfl rfl (by kernel_rfl) (by kernel_rfl) (by kernel_rfl) rfl (fun W hW => by obtain ⟨h0, h1⟩ := hW; go_simp) aH0 ?_
      simp only [Act.put, List.setIfInBounds_toArray, List.set_cons_zero, List.set_cons_succ]
      refine hr_take_w 5 (some 21) (.pointer (some ⟨f.b, 0, none⟩)) rfl rfl (by kernel_rfl) (by kernel_rfl) (by kernel_rfl) rfl (fun W hW => by obtain ⟨h0, h1⟩ := hW; go_simp) aH0 ?_
      simp only [Act.put, List.setIfInBounds_toArray, List.set_cons_zero, List.set_cons_succ]
      refine hr_take_w 6 (some 22) (.pointer (some ⟨f.b, 0, none⟩)) rfl rfl (by kernel_rfl) (by kernel_rfl) (by kernel_rfl) rfl (fun W hW => by obtain ⟨h0, h1⟩ := hW; go_simp) aH0 ?_
      simp only [Act.put, List.setIfInBounds_toArray, List.set_cons_zero, List.set_cons_succ]
      refine hr_take_w 7 (some 23) (.int .i64 f.L) rfl rfl (by kernel_rfl) (by kernel_rfl) (by kernel_rfl) rfl (fun W hW => by obtain ⟨h0, h1⟩ := hW; go_simp) aH0 ?_
      simp only [Act.put, List.setIfInBounds_toArray, List.set_cons_zero, List.set_cons_succ]
      refine hr_take_w 8 (some 24) (.bool false) rfl rfl (by kernel_rfl) (by kernel_rfl) (by kernel_rfl) rfl (fun W hW => by obtain ⟨h0, h1⟩ := hW; go_simp) aH0 ?_
      simp only [Act.put, List.setIfInBounds_toArray, List.set_cons_zero, List.set_cons_succ]
      refine hr_take_w 9 (some 15) (.bool false) rfl rfl (by kernel_rfl) (by kernel_rfl) (by kernel_rfl) rfl (fun W hW => by obtain ⟨h0, h1⟩ := hW; go_simp) aH0 ?_
      simp only [Act.put, List.setIfInBounds_toArray, List.set_cons_zero, List.set_cons_succ]
      refine wpAnyH_done (by kernel_rfl) ?_ _
      refine NoPanic.normal ?_
      have Na := h.below aE0
      have Ka := k.below aE0
      have c1 := Na.ok.c1
      go_wp2_with fail
      have bHS : Hid (∀ V, Below av0.heap.size av0 V → V.cell? ⟨d.b, 0, none⟩ = some (.int .i64 d.L) ∧ V.cell? ⟨f.b, 0, none⟩ = some (.int .i64 f.L)) := fun V hV => ⟨(Na.ok.below hV).c0, (Ka.ok.below hV).c0⟩
      have bE0 : Below av0.heap.size av0 av0.drew := (Below.refl _ _).drew
      refine wp_region_noPanic ?_
      refine wp_region_held_drew (S := fun V => V.cell? ⟨d.b, 0, none⟩ = some (.int .i64 d.L) ∧ V.cell? ⟨f.b, 0, none⟩ = some (.int .i64 f.L)) (by kernel_rfl) (bHS.out _ bE0) (fun bH0 => ?_)
      obtain ⟨bv0, hv0⟩ : ∃ v, v = av0.drew := ⟨_, rfl⟩
      rw [← hv0] at bH0 bE0 ⊢
      clear hv0
      refine hr_take_w 0 (some 40) (.pointer (some ⟨d.b, 0, none⟩)) rfl rfl (by kernel_rfl) (by kernel_rfl) (by kernel_rfl) rfl (fun W hW => by obtain ⟨h0, h1⟩ := hW; go_simp) bH0 ?_
      simp only [Act.put, List.setIfInBounds_toArray, List.set_cons_zero, List.set_cons_succ]
      refine hr_take_w 1 (some 41) (.pointer (some ⟨d.b, 0, none⟩)) rfl rfl (by kernel_rfl) (by kernel_rfl) (by kernel_rfl) rfl (fun W hW => by obtain ⟨h0, h1⟩ := hW; go_simp) bH0 ?_
      simp only [Act.put, List.setIfInBounds_toArray, List.set_cons_zero, List.set_cons_succ]
      refine hr_take_w 2 (some 42) (.pointer (some ⟨d.b, 0, none⟩)) rfl rfl (by kernel_rfl) (by kernel_rfl) (by kernel_rfl) rfl (fun W hW => by obtain ⟨h0, h1⟩ := hW; go_simp) bH0 ?_
      simp only [Act.put, List.setIfInBounds_toArray, List.set_cons_zero, List.set_cons_succ]
      refine hr_take_w 3 (some 43) (.int .i64 d.L) rfl rfl (by kernel_rfl) (by kernel_rfl) (by kernel_rfl) rfl (fun W hW => by obtain ⟨h0, h1⟩ := hW; go_simp) bH0 ?_
      simp only [Act.put, List.setIfInBounds_toArray, List.set_cons_zero, List.set_cons_succ]
      refine hr_take_w 4 (some 44) (.pointer (some ⟨f.b, 0, none⟩)) rfl rfl (by kernel_rfl) (by kernel_rfl) (by kernel_rfl) rfl (fun W hW => by obtain ⟨h0, h1⟩ := hW; go_simp) bH0 ?_
      simp only [Act.put, List.setIfInBounds_toArray, List.set_cons_zero, List.set_cons_succ]
      refine hr_take_w 5 (some 45) (.pointer (some ⟨f.b, 0, none⟩)) rfl rfl (by kernel_rfl) (by kernel_rfl) (by kernel_rfl) rfl (fun W hW => by obtain ⟨h0, h1⟩ := hW; go_simp) bH0 ?_
      simp only [Act.put, List.setIfInBounds_toArray, List.set_cons_zero, List.set_cons_succ]
      refine hr_take_w 6 (some 46) (.pointer (some ⟨f.b, 0, none⟩)) rfl rfl (by kernel_rfl) (by kernel_rfl) (by kernel_rfl) rfl (fun W hW => by obtain ⟨h0, h1⟩ := hW; go_simp) bH0 ?_
      simp only [Act.put, List.setIfInBounds_toArray, List.set_cons_zero, List.set_cons_succ]
      refine hr_take_w 7 (some 47) (.int .i64 f.L) rfl rfl (by kernel_rfl) (by kernel_rfl) (by kernel_rfl) rfl (fun W hW => by obtain ⟨h0, h1⟩ := hW; go_simp) bH0 ?_
      simp only [Act.put, List.setIfInBounds_toArray, List.set_cons_zero, List.set_cons_succ]
      refine hr_take_w 8 (some 48) (.bool true) rfl rfl (by kernel_rfl) (by kernel_rfl) (by kernel_rfl) rfl (fun W hW => by obtain ⟨h0, h1⟩ := hW; go_simp) bH0 ?_
      simp only [Act.put, List.setIfInBounds_toArray, List.set_cons_zero, List.set_cons_succ]
      refine wpAnyH_done (by kernel_rfl) ?_ _
      refine NoPanic.normal ?_
      have Bb : Below w.heap.size w bv0 := aE0.trans (bE0.mono aE0.size)
      have Nb := h.below Bb
      obtain ⟨kb, ko, s', u, eco, hs1, hs2, hcell, hTk, hlen⟩ := Nb.kidAt d.ks.length (by omega)
      obtain rfl : s = s' := Option.some.inj (c.seg.symm.trans hs1)
      have c3 := Nb.ok.c3
      rw [eco] at c3
      have c0 : (d.ks.length : Int) < (d.cs.length : Int) := by omega
      have CI := ih bv0 u (.pointer (some ⟨f.b, 0, none⟩)) s l2 (by omega) hTk (h2.below Bb) (by omega)
      clear eco hs1 hs2
      go_wp2_with fail
      refine CI.mono ?_
      rintro e w2 ⟨x, rfl, Tx, B2'⟩
      have B2 : Below w.heap.size w w2 := Bb.trans (B2'.mono Bb.size)
      have CW := withKid_any w2 l1 d segs xs (h.below B2) d.ks.length s A B (s ++ l2) c x Tx (by
        intro y hy
        rcases List.mem_append.1 hy with hy | hy
        · exact c.ls y hy
        · have := k.shp.le y hy
          omega) (by omega)
      unfold Nd.ptr at CW
      clear CI c3 hcell hTk B2'
      go_wp2_with fail
      refine CW.mono ?_
      rintro e w3 ⟨z, rfl, Tz, B3'⟩
      have B3 : Below w.heap.size w w3 := B2.trans (B3'.mono B2.size)
      go_wp2
      go_ret
      refine ⟨_, rfl, ?_, B3⟩
      have e : l1 ++ l2 = A ++ ((s ++ l2) ++ B) := by rw [c.el, hB.out]; simp
      rw [e]
      exact Tz
    have hgt' : ¬ (f.L : Int) < (d.L : Int) := by omega
    have hLe : Hid (f.L = d.L) := by show _ = _; omega
    go_enter Tryd.func54, Tryd.ntmps54
    go_wp2_with fail
    have aHS : Hid (∀ V, Below w.heap.size w V → V.cell? ⟨d.b, 0, none⟩ = some (.int .i64 d.L) ∧ V.cell? ⟨f.b, 0, none⟩ = some (.int .i64 f.L)) := fun V hV => ⟨(h.ok.below hV).c0, (k.ok.below hV).c0⟩
    have aE0 : Below w.heap.size w w.drew := (Below.refl _ _).drew
    refine wp_region_noPanic ?_
    refine wp_region_held_drew (S := fun V => V.cell? ⟨d.b, 0, none⟩ = some (.int .i64 d.L) ∧ V.cell? ⟨f.b, 0, none⟩ = some (.int .i64 f.L)) (by kernel_rfl) (aHS.out _ aE0) (fun aH0 => ?_)
    obtain ⟨av0, hv0⟩ : ∃ v, v = w.drew := ⟨_, rfl⟩
    rw [← hv0] at aH0 aE0 ⊢
    clear hv0
    refine hr_take_w 0 (some 16) (.pointer (some ⟨d.b, 0, none⟩)) rfl rfl (by kernel_rfl) (by kernel_rfl) (by kernel_rfl) rfl (fun W hW => by obtain ⟨h0, h1⟩ := hW; go_simp) aH0 ?_
    simp only [Act.put, List.setIfInBounds_toArray, List.set_cons_zero, List.set_cons_succ]
    refine hr_take_w 1 (some 17) (.pointer (some ⟨d.b, 0, none⟩)) rfl rfl (by kernel_rfl) (by kernel_rfl) (by kernel_rfl) rfl (fun W hW => by obtain ⟨h0, h1⟩ := hW; go_simp) aH0 ?_
    simp only [Act.put, List.setIfInBounds_toArray, List.set_cons_zero, List.set_cons_succ]
    refine hr_take_w 2 (some 18) (.pointer (some ⟨d.b, 0, none⟩)) rfl rfl (by kernel_rfl) (by kernel_rfl) (by kernel_rfl) rfl (fun W hW => by obtain ⟨h0, h1⟩ := hW; go_simp) aH0 ?_
    simp only [Act.put, List.setIfInBounds_toArray, List.set_cons_zero, List.set_cons_succ]
    refine hr_take_w 3 (some 19) (.int .i64 d.L) rfl rfl (by kernel_rfl) (by kernel_rfl) (by kernel_rfl) rfl (fun W hW => by obtain ⟨h0, h1⟩ := hW; go_simp) aH0 ?_
    simp only [Act.put, List.setIfInBounds_toArray, List.set_cons_zero, List.set_cons_succ]
    refine hr_take_w 4 (some 20) (.pointer (some ⟨f.b, 0, none⟩)) rfl rfl (by kernel_rfl) (by kernel_rfl) (by kernel_rfl) rfl (fun W hW => by obtain ⟨h0, h1⟩ := hW; go_simp) aH0 ?_
    simp only [Act.put, List.setIfInBounds_toArray, List.set_cons_zero, List.set_cons_succ]
    refine hr_take_w 5 (some 21) (.pointer (some ⟨f.b, 0, none⟩)) rfl rfl (by kernel_rfl) (by kernel_rfl) (by kernel_rfl) rfl (fun W hW => by obtain ⟨h0, h1⟩ := hW; go_simp) aH0 ?_
    simp only [Act.put, List.setIfInBounds_toArray, List.set_cons_zero, List.set_cons_succ]
    refine hr_take_w 6 (some 22) (.pointer (some ⟨f.b, 0, none⟩)) rfl rfl (by kernel_rfl) (by kernel_rfl) (by kernel_rfl) rfl (fun W hW => by obtain ⟨h0, h1⟩ := hW; go_simp) aH0 ?_
    simp only [Act.put, List.setIfInBounds_toArray, List.set_cons_zero, List.set_cons_succ]
    refine hr_take_w 7 (some 23) (.int .i64 f.L) rfl rfl (by kernel_rfl) (by kernel_rfl) (by kernel_rfl) rfl (fun W hW => by obtain ⟨h0, h1⟩ := hW; go_simp) aH0 ?_
    simp only [Act.put, List.setIfInBounds_toArray, List.set_cons_zero, List.set_cons_succ]
    refine hr_take_w 8 (some 24) (.bool false) rfl rfl (by kernel_rfl) (by kernel_rfl) (by kernel_rfl) rfl (fun W hW => by obtain ⟨h0, h1⟩ := hW; go_simp) aH0 ?_
    simp only [Act.put, List.setIfInBounds_toArray, List.set_cons_zero, List.set_cons_succ]
    refine hr_take_w 9 (some 15) (.bool false) rfl rfl (by kernel_rfl) (by kernel_rfl) (by kernel_rfl) rfl (fun W hW => by obtain ⟨h0, h1⟩ := hW; go_simp) aH0 ?_
    simp only [Act.put, List.setIfInBounds_toArray, List.set_cons_zero, List.set_cons_succ]
    refine wpAnyH_done (by kernel_rfl) ?_ _
    refine NoPanic.normal ?_
    have Na := h.below aE0
    have Ka := k.below aE0
    have c1 := Na.ok.c1
    go_wp2_with fail
    have bHS : Hid (∀ V, Below av0.heap.size av0 V → V.cell? ⟨d.b, 0, none⟩ = some (.int .i64 d.L) ∧ V.cell? ⟨f.b, 0, none⟩ = some (.int .i64 f.L)) := fun V hV => ⟨(Na.ok.below hV).c0, (Ka.ok.below hV).c0⟩
    have bE0 : Below av0.heap.size av0 av0.drew := (Below.refl _ _).drew
    refine wp_region_noPanic ?_
    refine wp_region_held_drew (S := fun V => V.cell? ⟨d.b, 0, none⟩ = some (.int .i64 d.L) ∧ V.cell? ⟨f.b, 0, none⟩ = some (.int .i64 f.L)) (by kernel_rfl) (bHS.out _ bE0) (fun bH0 => ?_)
    obtain ⟨bv0, hv0⟩ : ∃ v, v = av0.drew := ⟨_, rfl⟩
    rw [← hv0] at bH0 bE0 ⊢
    clear hv0
    refine hr_take_w 0 (some 40) (.pointer (some ⟨d.b, 0, none⟩)) rfl rfl (by kernel_rfl) (by kernel_rfl) (by kernel_rfl) rfl (fun W hW => by obtain ⟨h0, h1⟩ := hW; go_simp) bH0 ?_
    simp only [Act.put, List.setIfInBounds_toArray, List.set_cons_zero, List.set_cons_succ]
    refine hr_take_w 1 (some 41) (.pointer (some ⟨d.b, 0, none⟩)) rfl rfl (by kernel_rfl) (by kernel_rfl) (by kernel_rfl) rfl (fun W hW => by obtain ⟨h0, h1⟩ := hW; go_simp) bH0 ?_
    simp only [Act.put, List.setIfInBounds_toArray, List.set_cons_zero, List.set_cons_succ]
    refine hr_take_w 2 (some 42) (.pointer (some ⟨d.b, 0, none⟩)) rfl rfl (by kernel_rfl) (by kernel_rfl) (by kernel_rfl) rfl (fun W hW => by obtain ⟨h0, h1⟩ := hW; go_simp) bH0 ?_
    simp only [Act.put, List.setIfInBounds_toArray, List.set_cons_zero, List.set_cons_succ]
    refine hr_take_w 3 (some 43) (.int .i64 d.L) rfl rfl (by kernel_rfl) (by kernel_rfl) (by kernel_rfl) rfl (fun W hW => by obtain ⟨h0, h1⟩ := hW; go_simp) bH0 ?_
    simp only [Act.put, List.setIfInBounds_toArray, List.set_cons_zero, List.set_cons_succ]
    refine hr_take_w 4 (some 44) (.pointer (some ⟨f.b, 0, none⟩)) rfl rfl (by kernel_rfl) (by kernel_rfl) (by kernel_rfl) rfl (fun W hW => by obtain ⟨h0, h1⟩ := hW; go_simp) bH0 ?_
    simp only [Act.put, List.setIfInBounds_toArray, List.set_cons_zero, List.set_cons_succ]
    refine hr_take_w 5 (some 45) (.pointer (some ⟨f.b, 0, none⟩)) rfl rfl (by kernel_rfl) (by kernel_rfl) (by kernel_rfl) rfl (fun W hW => by obtain ⟨h0, h1⟩ := hW; go_simp) bH0 ?_
    simp only [Act.put, List.setIfInBounds_toArray, List.set_cons_zero, List.set_cons_succ]
    refine hr_take_w 6 (some 46) (.pointer (some ⟨f.b, 0, none⟩)) rfl rfl (by kernel_rfl) (by kernel_rfl) (by kernel_rfl) rfl (fun W hW => by obtain ⟨h0, h1⟩ := hW; go_simp) bH0 ?_
    simp only [Act.put, List.setIfInBounds_toArray, List.set_cons_zero, List.set_cons_succ]
    refine hr_take_w 7 (some 47) (.int .i64 f.L) rfl rfl (by kernel_rfl) (by kernel_rfl) (by kernel_rfl) rfl (fun W hW => by obtain ⟨h0, h1⟩ := hW; go_simp) bH0 ?_
    simp only [Act.put, List.setIfInBounds_toArray, List.set_cons_zero, List.set_cons_succ]
    refine hr_take_w 8 (some 48) (.bool false) rfl rfl (by kernel_rfl) (by kernel_rfl) (by kernel_rfl) rfl (fun W hW => by obtain ⟨h0, h1⟩ := hW; go_simp) bH0 ?_
    simp only [Act.put, List.setIfInBounds_toArray, List.set_cons_zero, List.set_cons_succ]
    refine wpAnyH_done (by kernel_rfl) ?_ _
    refine NoPanic.normal ?_
    have Bb : Below w.heap.size w bv0 := aE0.trans (bE0.mono aE0.size)
    have Nb := h.below Bb
    have Kb := k.below Bb
    have hjoin : Hid (∃ s t, segs[xs.length]? = some s ∧ fegs[0]? = some t ∧ ∀ u, u = s ++ t → Shp lev (l1 ++ l2) d.L (segs.take xs.length ++ u :: fegs.drop 1) (xs ++ ys)) := by
      have hk2 := k.shp
      rw [hLe.out] at hk2
      exact h.shp.join hk2
    obtain ⟨s, t, hsg, htg, hsh⟩ := hjoin.out
    have HSH := hsh _ rfl
    clear hjoin hsh
    obtain ⟨kb, ko, s', u, eco, hs1, hs2, hcell, hTk, hlen⟩ := Nb.kidAt d.ks.length (by omega)
    obtain ⟨jb, jo, t', u2, ecf, ht1, ht2, hcell2, hTk2, hlen2⟩ := Kb.kidAt 0 (Nat.zero_le _)
    have hxl : xs.length = d.ks.length := h.nk.symm
    rw [hxl] at hsg
    obtain rfl : s = s' := Option.some.inj (hsg.symm.trans hs1)
    obtain rfl : t = t' := Option.some.inj (htg.symm.trans ht1)
    rw [Nat.add_zero] at hcell2
    clear hxl hs1 hs2 ht1 ht2
    have CI : ∀ V, Below bv0.heap.size bv0 V → Calls Tryd.prog 54 #[u, u2] V fun e w' => ∃ x, e = .returned (.pointer x) ∧ T w' (.pointer x) (s ++ t) ∧ Below V.heap.size V w' := by
      intro V hV
      refine (ih V u u2 s t (by omega) (hTk.below hV) (hTk2.below hV) (by omega)).mono ?_
      rintro e w' ⟨z, rfl, Tz, hb⟩
      obtain ⟨x, rfl⟩ := Tz.ptr
      exact ⟨x, rfl, Tz, hb⟩
    obtain ⟨q1, rfl⟩ := hTk.ptr
    obtain ⟨q2, rfl⟩ := hTk2.ptr
    have c0 : (d.ks.length : Int) < (d.cs.length : Int) := by omega
    have hfne : ¬ f.cs = [] := by
      intro e
      rw [e] at knc2
      simp at knc2
    have hw : IntKind.i64.wrap ((d.ks.length : Int) + 1) = (d.ks.length : Int) + 1 := by have := wrap_nat (k := d.ks.length + 1) (by omega); simpa using this
    go_wp2_with fail
    have cHS : Hid (∀ V, Below bv0.heap.size bv0 V → V.cell? ⟨d.b, 3, none⟩ = some (.slice (some ⟨kb, ko, none⟩) d.cs.length d.cc) ∧ V.cell? ⟨f.b, 3, none⟩ = some (.slice (some ⟨jb, jo, none⟩) f.cs.length f.cc) ∧ V.cell? ⟨kb, ko + d.ks.length, none⟩ = some (.pointer q1) ∧ V.cell? ⟨jb, jo, none⟩ = some (.pointer q2)) := fun V hV => ⟨by rw [← eco]; exact (Nb.ok.below hV).c3, by rw [← ecf]; exact (Kb.ok.below hV).c3, (hV.cell (World.block_lt_of_cell? _ _ hcell)).trans hcell, (hV.cell (World.block_lt_of_cell? _ _ hcell2)).trans hcell2⟩
    have cE0 : Below bv0.heap.size bv0 bv0.drew := (Below.refl _ _).drew
    refine wp_region_noPanic ?_
    refine wp_region_held_drew (S := fun V => V.cell? ⟨d.b, 3, none⟩ = some (.slice (some ⟨kb, ko, none⟩) d.cs.length d.cc) ∧ V.cell? ⟨f.b, 3, none⟩ = some (.slice (some ⟨jb, jo, none⟩) f.cs.length f.cc) ∧ V.cell? ⟨kb, ko + d.ks.length, none⟩ = some (.pointer q1) ∧ V.cell? ⟨jb, jo, none⟩ = some (.pointer q2)) (by kernel_rfl) (cHS.out _ cE0) (fun cH0 => ?_)
    obtain ⟨cv0, hv0⟩ : ∃ v, v = bv0.drew := ⟨_, rfl⟩
    rw [← hv0] at cH0 cE0 ⊢
    clear hv0
    refine hr_take_w 0 (some 61) (.pointer (some ⟨f.b, 0, none⟩)) rfl rfl (by kernel_rfl) (by kernel_rfl) (by kernel_rfl) rfl (fun W hW => by obtain ⟨h0, h1, h2, h3⟩ := hW; go_simp) cH0 ?_
    simp only [Act.put, List.setIfInBounds_toArray, List.set_cons_zero, List.set_cons_succ]
    refine hr_take_w 1 (some 62) (.pointer (some ⟨f.b, 0, none⟩)) rfl rfl (by kernel_rfl) (by kernel_rfl) (by kernel_rfl) rfl (fun W hW => by obtain ⟨h0, h1, h2, h3⟩ := hW; go_simp) cH0 ?_
    simp only [Act.put, List.setIfInBounds_toArray, List.set_cons_zero, List.set_cons_succ]
    refine hr_take_w 2 (some 63) (.pointer (some ⟨f.b, 3, none⟩)) rfl rfl (by kernel_rfl) (by kernel_rfl) (by kernel_rfl) rfl (fun W hW => by obtain ⟨h0, h1, h2, h3⟩ := hW; go_simp) cH0 ?_
    simp only [Act.put, List.setIfInBounds_toArray, List.set_cons_zero, List.set_cons_succ]
    refine hr_take_w 3 (some 64) (.slice (some ⟨jb, jo, none⟩) f.cs.length f.cc) rfl rfl (by kernel_rfl) (by kernel_rfl) (by kernel_rfl) rfl (fun W hW => by obtain ⟨h0, h1, h2, h3⟩ := hW; go_simp) cH0 ?_
    simp only [Act.put, List.setIfInBounds_toArray, List.set_cons_zero, List.set_cons_succ]
    refine hr_take_w 4 (some 65) (.pointer (some ⟨d.b, 0, none⟩)) rfl rfl (by kernel_rfl) (by kernel_rfl) (by kernel_rfl) rfl (fun W hW => by obtain ⟨h0, h1, h2, h3⟩ := hW; go_simp) cH0 ?_
    simp only [Act.put, List.setIfInBounds_toArray, List.set_cons_zero, List.set_cons_succ]
    refine hr_take_w 5 (some 66) (.pointer (some ⟨d.b, 0, none⟩)) rfl rfl (by kernel_rfl) (by kernel_rfl) (by kernel_rfl) rfl (fun W hW => by obtain ⟨h0, h1, h2, h3⟩ := hW; go_simp) cH0 ?_
    simp only [Act.put, List.setIfInBounds_toArray, List.set_cons_zero, List.set_cons_succ]
    refine hr_take_w 6 (some 67) (.pointer (some ⟨d.b, 3, none⟩)) rfl rfl (by kernel_rfl) (by kernel_rfl) (by kernel_rfl) rfl (fun W hW => by obtain ⟨h0, h1, h2, h3⟩ := hW; go_simp) cH0 ?_
    simp only [Act.put, List.setIfInBounds_toArray, List.set_cons_zero, List.set_cons_succ]
    refine hr_take_w 7 (some 68) (.slice (some ⟨kb, ko, none⟩) d.cs.length d.cc) rfl rfl (by kernel_rfl) (by kernel_rfl) (by kernel_rfl) rfl (fun W hW => by obtain ⟨h0, h1, h2, h3⟩ := hW; go_simp) cH0 ?_
    simp only [Act.put, List.setIfInBounds_toArray, List.set_cons_zero, List.set_cons_succ]
    refine hr_take_w 8 (some 69) (.int .i64 d.ks.length) rfl rfl (by kernel_rfl) (by kernel_rfl) (by kernel_rfl) rfl (fun W hW => by obtain ⟨h0, h1, h2, h3⟩ := hW; go_simp) cH0 ?_
    simp only [Act.put, List.setIfInBounds_toArray, List.set_cons_zero, List.set_cons_succ]
    refine hr_take_w 9 (some 70) (.pointer (some ⟨kb, ko + d.ks.length, none⟩)) rfl rfl (by kernel_rfl) (by kernel_rfl) (by kernel_rfl) rfl (fun W hW => by obtain ⟨h0, h1, h2, h3⟩ := hW; go_simp) cH0 ?_
    simp only [Act.put, List.setIfInBounds_toArray, List.set_cons_zero, List.set_cons_succ]
    refine hr_take_w 10 (some 71) (.pointer q1) rfl rfl (by kernel_rfl) (by kernel_rfl) (by kernel_rfl) rfl (fun W hW => by obtain ⟨h0, h1, h2, h3⟩ := hW; go_simp) cH0 ?_
    simp only [Act.put, List.setIfInBounds_toArray, List.set_cons_zero, List.set_cons_succ]
    refine hr_take_w 11 (some 72) (.pointer (some ⟨f.b, 0, none⟩)) rfl rfl (by kernel_rfl) (by kernel_rfl) (by kernel_rfl) rfl (fun W hW => by obtain ⟨h0, h1, h2, h3⟩ := hW; go_simp) cH0 ?_
    simp only [Act.put, List.setIfInBounds_toArray, List.set_cons_zero, List.set_cons_succ]
    refine hr_take_w 12 (some 73) (.pointer (some ⟨f.b, 0, none⟩)) rfl rfl (by kernel_rfl) (by kernel_rfl) (by kernel_rfl) rfl (fun W hW => by obtain ⟨h0, h1, h2, h3⟩ := hW; go_simp) cH0 ?_
    simp only [Act.put, List.setIfInBounds_toArray, List.set_cons_zero, List.set_cons_succ]
    refine hr_take_w 13 (some 74) (.pointer (some ⟨f.b, 3, none⟩)) rfl rfl (by kernel_rfl) (by kernel_rfl) (by kernel_rfl) rfl (fun W hW => by obtain ⟨h0, h1, h2, h3⟩ := hW; go_simp) cH0 ?_
    simp only [Act.put, List.setIfInBounds_toArray, List.set_cons_zero, List.set_cons_succ]
    refine hr_take_w 14 (some 75) (.slice (some ⟨jb, jo, none⟩) f.cs.length f.cc) rfl rfl (by kernel_rfl) (by kernel_rfl) (by kernel_rfl) rfl (fun W hW => by obtain ⟨h0, h1, h2, h3⟩ := hW; go_simp) cH0 ?_
    simp only [Act.put, List.setIfInBounds_toArray, List.set_cons_zero, List.set_cons_succ]
    refine hr_take_w 15 (some 76) (.pointer (some ⟨jb, jo, none⟩)) rfl rfl (by kernel_rfl) (by kernel_rfl) (by kernel_rfl) rfl (fun W hW => by obtain ⟨h0, h1, h2, h3⟩ := hW; go_simp) cH0 ?_
    simp only [Act.put, List.setIfInBounds_toArray, List.set_cons_zero, List.set_cons_succ]
    refine hr_take_w 16 (some 77) (.pointer q2) rfl rfl (by kernel_rfl) (by kernel_rfl) (by kernel_rfl) rfl (fun W hW => by obtain ⟨h0, h1, h2, h3⟩ := hW; go_simp) cH0 ?_
    simp only [Act.put, List.setIfInBounds_toArray, List.set_cons_zero, List.set_cons_succ]
    refine hr_call_w 17 (some 78) 54 #[.pointer q1, .pointer q2] rfl rfl (by kernel_rfl) rfl (by go_simp) (fun v w' => ∃ x, v = .pointer x ∧ T w' (.pointer x) (s ++ t) ∧ Below cv0.heap.size cv0 w') ((CI _ cE0).mono (by
      rintro e w' ⟨x, rfl, F, C⟩
      exact ⟨_, rfl, x, rfl, F, C⟩)) ?_
    rintro v cv1 ⟨x, rfl, cF0, cC0⟩
    have cE1 := cE0.trans (cC0.mono cE0.size)
    have cH1 := cHS.out cv1 cE1
    refine ⟨cH1, ?_⟩
    simp only [Act.put, List.setIfInBounds_toArray, List.set_cons_zero, List.set_cons_succ]
    refine hr_ex 18 (some 79) rfl rfl (by kernel_rfl) rfl (R := fun v w' => ∃ g, v = .slice (some ⟨g, 0, none⟩) 1 1 ∧ VL w' (some ⟨g, 0, none⟩) 1 1 [.pointer x] ∧ Below cv1.heap.size cv1 w') (⟨_, _, by go_simp, _, rfl, VL.new cv1 [.pointer x] 52 (by simp [maxLen]), (Below.refl _ _).alloc (Nat.le_refl _) _⟩) ?_
    rintro v cv2 ⟨cg1, rfl, cG1, cC1⟩
    have cE2 := cE1.trans (cC1.mono cE1.size)
    have cH2 := cHS.out cv2 cE2
    refine ⟨cH2, ?_⟩
    simp only [Act.put, List.setIfInBounds_toArray, List.set_cons_zero, List.set_cons_succ]
    refine hr_call_w 19 (some 80) 49 #[.slice (some ⟨jb, jo, none⟩) f.cs.length f.cc, .int .i64 0, .int .i64 1, .slice (some ⟨cg1, 0, none⟩) 1 1] rfl rfl (by kernel_rfl) rfl (by go_simp) (fun v w' => ∃ ro rc, v = .slice ro (0 + 1 + (f.cs.length - 1)) rc ∧ VL w' ro (0 + 1 + (f.cs.length - 1)) rc (f.cs.take 0 ++ [.pointer x] ++ f.cs.drop 1) ∧ Below cv2.heap.size cv2 w') ((chgN_any cv2 (some ⟨jb, jo, none⟩) (some ⟨cg1, 0, none⟩) f.cs.length f.cc 1 1 0 1 f.cs [.pointer x] (by rw [← ecf]; exact Kb.ok.cl.below cE2) cG1 Kb.one (by intro y hy; rw [List.mem_singleton.1 hy]; rfl) (by omega) (by omega) (by omega)).mono (by
      rintro e w' ⟨ro, rc, rfl, F, C⟩
      exact ⟨_, rfl, ro, rc, rfl, F, C⟩)) ?_
    rintro v cv3 ⟨ro, rc, rfl, cF2, cC2⟩
    have cE3 := cE2.trans (cC2.mono cE2.size)
    have cH3 := cHS.out cv3 cE3
    clear cG1
    refine ⟨cH3, ?_⟩
    simp only [Act.put, List.setIfInBounds_toArray, List.set_cons_zero, List.set_cons_succ]
    refine hr_take_w 20 (some 6) (.slice ro (0 + 1 + (f.cs.length - 1)) rc) rfl rfl (by kernel_rfl) (by kernel_rfl) (by kernel_rfl) rfl (fun W hW => by obtain ⟨h0, h1, h2, h3⟩ := hW; go_simp) cH3 ?_
    simp only [Act.put, List.setIfInBounds_toArray, List.set_cons_zero, List.set_cons_succ]
    refine wpAnyH_done (by kernel_rfl) ?_ _
    refine NoPanic.normal ?_
    have tk := cF0.below (cC1.trans (cC2.mono cC1.size))
    rw [show f.cs.take 0 ++ [.pointer x] ++ f.cs.drop 1 = .pointer x :: f.cs.drop 1 from by simp] at cF2
    have Nc := Nb.below cE3
    have Kc := Kb.below cE3
    have Bc : Below w.heap.size w cv3 := Bb.trans (cE3.mono Bb.size)
    clear cF0
    go_wp2_with fail
    have eHS : Hid (∀ V, Below cv3.heap.size cv3 V → V.cell? ⟨d.b, 0, none⟩ = some (.int .i64 d.L) ∧ V.cell? ⟨d.b, 1, none⟩ = some (.slice d.ko d.ks.length d.kc) ∧ V.cell? ⟨d.b, 2, none⟩ = some (.slice d.vo d.vs.length d.vc) ∧ V.cell? ⟨d.b, 3, none⟩ = some (.slice d.co d.cs.length d.cc) ∧ V.cell? ⟨f.b, 0, none⟩ = some (.int .i64 f.L) ∧ V.cell? ⟨f.b, 1, none⟩ = some (.slice f.ko f.ks.length f.kc) ∧ V.cell? ⟨f.b, 2, none⟩ = some (.slice f.vo f.vs.length f.vc) ∧ V.cell? ⟨f.b, 3, none⟩ = some (.slice f.co f.cs.length f.cc)) := fun V hV => ⟨(Nc.ok.below hV).c0, (Nc.ok.below hV).c1, (Nc.ok.below hV).c2, (Nc.ok.below hV).c3, (Kc.ok.below hV).c0, (Kc.ok.below hV).c1, (Kc.ok.below hV).c2, (Kc.ok.below hV).c3⟩
    have eE0 : Below cv3.heap.size cv3 cv3.drew := (Below.refl _ _).drew
    refine wp_region_noPanic ?_
    refine wp_region_held_drew (S := fun V => V.cell? ⟨d.b, 0, none⟩ = some (.int .i64 d.L) ∧ V.cell? ⟨d.b, 1, none⟩ = some (.slice d.ko d.ks.length d.kc) ∧ V.cell? ⟨d.b, 2, none⟩ = some (.slice d.vo d.vs.length d.vc) ∧ V.cell? ⟨d.b, 3, none⟩ = some (.slice d.co d.cs.length d.cc) ∧ V.cell? ⟨f.b, 0, none⟩ = some (.int .i64 f.L) ∧ V.cell? ⟨f.b, 1, none⟩ = some (.slice f.ko f.ks.length f.kc) ∧ V.cell? ⟨f.b, 2, none⟩ = some (.slice f.vo f.vs.length f.vc) ∧ V.cell? ⟨f.b, 3, none⟩ = some (.slice f.co f.cs.length f.cc)) (by kernel_rfl) (eHS.out _ eE0) (fun eH0 => ?_)
    obtain ⟨ev0, hv0⟩ : ∃ v, v = cv3.drew := ⟨_, rfl⟩
    rw [← hv0] at eH0 eE0 ⊢
    clear hv0
    refine hr_take_w 0 (some 81) (.pointer (some ⟨d.b, 0, none⟩)) rfl rfl (by kernel_rfl) (by kernel_rfl) (by kernel_rfl) rfl (fun W hW => by obtain ⟨h0, h1, h2, h3, h4, h5, h6, h7⟩ := hW; go_simp) eH0 ?_
    simp only [Act.put, List.setIfInBounds_toArray, List.set_cons_zero, List.set_cons_succ]
    refine hr_take_w 1 (some 82) (.pointer (some ⟨d.b, 0, none⟩)) rfl rfl (by kernel_rfl) (by kernel_rfl) (by kernel_rfl) rfl (fun W hW => by obtain ⟨h0, h1, h2, h3, h4, h5, h6, h7⟩ := hW; go_simp) eH0 ?_
    simp only [Act.put, List.setIfInBounds_toArray, List.set_cons_zero, List.set_cons_succ]
    refine hr_take_w 2 (some 83) (.pointer (some ⟨d.b, 0, none⟩)) rfl rfl (by kernel_rfl) (by kernel_rfl) (by kernel_rfl) rfl (fun W hW => by obtain ⟨h0, h1, h2, h3, h4, h5, h6, h7⟩ := hW; go_simp) eH0 ?_
    simp only [Act.put, List.setIfInBounds_toArray, List.set_cons_zero, List.set_cons_succ]
    refine hr_take_w 3 (some 84) (.int .i64 d.L) rfl rfl (by kernel_rfl) (by kernel_rfl) (by kernel_rfl) rfl (fun W hW => by obtain ⟨h0, h1, h2, h3, h4, h5, h6, h7⟩ := hW; go_simp) eH0 ?_
    simp only [Act.put, List.setIfInBounds_toArray, List.set_cons_zero, List.set_cons_succ]
    refine hr_take_w 4 (some 85) (.pointer (some ⟨d.b, 0, none⟩)) rfl rfl (by kernel_rfl) (by kernel_rfl) (by kernel_rfl) rfl (fun W hW => by obtain ⟨h0, h1, h2, h3, h4, h5, h6, h7⟩ := hW; go_simp) eH0 ?_
    simp only [Act.put, List.setIfInBounds_toArray, List.set_cons_zero, List.set_cons_succ]
    refine hr_take_w 5 (some 86) (.pointer (some ⟨d.b, 0, none⟩)) rfl rfl (by kernel_rfl) (by kernel_rfl) (by kernel_rfl) rfl (fun W hW => by obtain ⟨h0, h1, h2, h3, h4, h5, h6, h7⟩ := hW; go_simp) eH0 ?_
    simp only [Act.put, List.setIfInBounds_toArray, List.set_cons_zero, List.set_cons_succ]
    refine hr_take_w 6 (some 87) (.pointer (some ⟨d.b, 1, none⟩)) rfl rfl (by kernel_rfl) (by kernel_rfl) (by kernel_rfl) rfl (fun W hW => by obtain ⟨h0, h1, h2, h3, h4, h5, h6, h7⟩ := hW; go_simp) eH0 ?_
    simp only [Act.put, List.setIfInBounds_toArray, List.set_cons_zero, List.set_cons_succ]
    refine hr_take_w 7 (some 88) (.slice d.ko d.ks.length d.kc) rfl rfl (by kernel_rfl) (by kernel_rfl) (by kernel_rfl) rfl (fun W hW => by obtain ⟨h0, h1, h2, h3, h4, h5, h6, h7⟩ := hW; go_simp) eH0 ?_
    simp only [Act.put, List.setIfInBounds_toArray, List.set_cons_zero, List.set_cons_succ]
    refine hr_take_w 8 (some 89) (.int .i64 d.ks.length) rfl rfl (by kernel_rfl) (by kernel_rfl) (by kernel_rfl) rfl (fun W hW => by obtain ⟨h0, h1, h2, h3, h4, h5, h6, h7⟩ := hW; go_simp) eH0 ?_
    simp only [Act.put, List.setIfInBounds_toArray, List.set_cons_zero, List.set_cons_succ]
    refine hr_take_w 9 (some 90) (.int .i64 d.ks.length) rfl rfl (by kernel_rfl) (by kernel_rfl) (by kernel_rfl) rfl (fun W hW => by obtain ⟨h0, h1, h2, h3, h4, h5, h6, h7⟩ := hW; go_simp) eH0 ?_
    simp only [Act.put, List.setIfInBounds_toArray, List.set_cons_zero, List.set_cons_succ]
    refine hr_take_w 10 (some 91) (.pointer (some ⟨f.b, 0, none⟩)) rfl rfl (by kernel_rfl) (by kernel_rfl) (by kernel_rfl) rfl (fun W hW => by obtain ⟨h0, h1, h2, h3, h4, h5, h6, h7⟩ := hW; go_simp) eH0 ?_
    simp only [Act.put, List.setIfInBounds_toArray, List.set_cons_zero, List.set_cons_succ]
    refine hr_take_w 11 (some 92) (.pointer (some ⟨f.b, 0, none⟩)) rfl rfl (by kernel_rfl) (by kernel_rfl) (by kernel_rfl) rfl (fun W hW => by obtain ⟨h0, h1, h2, h3, h4, h5, h6, h7⟩ := hW; go_simp) eH0 ?_
    simp only [Act.put, List.setIfInBounds_toArray, List.set_cons_zero, List.set_cons_succ]
    refine hr_take_w 12 (some 93) (.pointer (some ⟨f.b, 1, none⟩)) rfl rfl (by kernel_rfl) (by kernel_rfl) (by kernel_rfl) rfl (fun W hW => by obtain ⟨h0, h1, h2, h3, h4, h5, h6, h7⟩ := hW; go_simp) eH0 ?_
    simp only [Act.put, List.setIfInBounds_toArray, List.set_cons_zero, List.set_cons_succ]
    refine hr_take_w 13 (some 94) (.slice f.ko f.ks.length f.kc) rfl rfl (by kernel_rfl) (by kernel_rfl) (by kernel_rfl) rfl (fun W hW => by obtain ⟨h0, h1, h2, h3, h4, h5, h6, h7⟩ := hW; go_simp) eH0 ?_
    simp only [Act.put, List.setIfInBounds_toArray, List.set_cons_zero, List.set_cons_succ]
    refine hr_take_w 15 (some 96) (.pointer (some ⟨d.b, 0, none⟩)) rfl rfl (by kernel_rfl) (by kernel_rfl) (by kernel_rfl) rfl (fun W hW => by obtain ⟨h0, h1, h2, h3, h4, h5, h6, h7⟩ := hW; go_simp) eH0 ?_
    simp only [Act.put, List.setIfInBounds_toArray, List.set_cons_zero, List.set_cons_succ]
    refine hr_take_w 16 (some 97) (.pointer (some ⟨d.b, 0, none⟩)) rfl rfl (by kernel_rfl) (by kernel_rfl) (by kernel_rfl) rfl (fun W hW => by obtain ⟨h0, h1, h2, h3, h4, h5, h6, h7⟩ := hW; go_simp) eH0 ?_
    simp only [Act.put, List.setIfInBounds_toArray, List.set_cons_zero, List.set_cons_succ]
    refine hr_take_w 17 (some 98) (.pointer (some ⟨d.b, 2, none⟩)) rfl rfl (by kernel_rfl) (by kernel_rfl) (by kernel_rfl) rfl (fun W hW => by obtain ⟨h0, h1, h2, h3, h4, h5, h6, h7⟩ := hW; go_simp) eH0 ?_
    simp only [Act.put, List.setIfInBounds_toArray, List.set_cons_zero, List.set_cons_succ]
    refine hr_take_w 18 (some 99) (.slice d.vo d.vs.length d.vc) rfl rfl (by kernel_rfl) (by kernel_rfl) (by kernel_rfl) rfl (fun W hW => by obtain ⟨h0, h1, h2, h3, h4, h5, h6, h7⟩ := hW; go_simp) eH0 ?_
    simp only [Act.put, List.setIfInBounds_toArray, List.set_cons_zero, List.set_cons_succ]
    refine hr_take_w 19 (some 100) (.int .i64 d.ks.length) rfl rfl (by kernel_rfl) (by kernel_rfl) (by kernel_rfl) rfl (fun W hW => by obtain ⟨h0, h1, h2, h3, h4, h5, h6, h7⟩ := hW; go_simp) eH0 ?_
    simp only [Act.put, List.setIfInBounds_toArray, List.set_cons_zero, List.set_cons_succ]
    refine hr_take_w 20 (some 101) (.int .i64 d.ks.length) rfl rfl (by kernel_rfl) (by kernel_rfl) (by kernel_rfl) rfl (fun W hW => by obtain ⟨h0, h1, h2, h3, h4, h5, h6, h7⟩ := hW; go_simp) eH0 ?_
    simp only [Act.put, List.setIfInBounds_toArray, List.set_cons_zero, List.set_cons_succ]
    refine hr_take_w 21 (some 102) (.pointer (some ⟨f.b, 0, none⟩)) rfl rfl (by kernel_rfl) (by kernel_rfl) (by kernel_rfl) rfl (fun W hW => by obtain ⟨h0, h1, h2, h3, h4, h5, h6, h7⟩ := hW; go_simp) eH0 ?_
    simp only [Act.put, List.setIfInBounds_toArray, List.set_cons_zero, List.set_cons_succ]
    refine hr_take_w 22 (some 103) (.pointer (some ⟨f.b, 0, none⟩)) rfl rfl (by kernel_rfl) (by kernel_rfl) (by kernel_rfl) rfl (fun W hW => by obtain ⟨h0, h1, h2, h3, h4, h5, h6, h7⟩ := hW; go_simp) eH0 ?_
    simp only [Act.put, List.setIfInBounds_toArray, List.set_cons_zero, List.set_cons_succ]
    refine hr_take_w 23 (some 104) (.pointer (some ⟨f.b, 2, none⟩)) rfl rfl (by kernel_rfl) (by kernel_rfl) (by kernel_rfl) rfl (fun W hW => by obtain ⟨h0, h1, h2, h3, h4, h5, h6, h7⟩ := hW; go_simp) eH0 ?_
    simp only [Act.put, List.setIfInBounds_toArray, List.set_cons_zero, List.set_cons_succ]
    refine hr_take_w 24 (some 105) (.slice f.vo f.vs.length f.vc) rfl rfl (by kernel_rfl) (by kernel_rfl) (by kernel_rfl) rfl (fun W hW => by obtain ⟨h0, h1, h2, h3, h4, h5, h6, h7⟩ := hW; go_simp) eH0 ?_
    simp only [Act.put, List.setIfInBounds_toArray, List.set_cons_zero, List.set_cons_succ]
    refine hr_take_w 26 (some 107) (.pointer (some ⟨d.b, 0, none⟩)) rfl rfl (by kernel_rfl) (by kernel_rfl) (by kernel_rfl) rfl (fun W hW => by obtain ⟨h0, h1, h2, h3, h4, h5, h6, h7⟩ := hW; go_simp) eH0 ?_
    simp only [Act.put, List.setIfInBounds_toArray, List.set_cons_zero, List.set_cons_succ]
    refine hr_take_w 27 (some 108) (.pointer (some ⟨d.b, 0, none⟩)) rfl rfl (by kernel_rfl) (by kernel_rfl) (by kernel_rfl) rfl (fun W hW => by obtain ⟨h0, h1, h2, h3, h4, h5, h6, h7⟩ := hW; go_simp) eH0 ?_
    simp only [Act.put, List.setIfInBounds_toArray, List.set_cons_zero, List.set_cons_succ]
    refine hr_take_w 28 (some 109) (.pointer (some ⟨d.b, 3, none⟩)) rfl rfl (by kernel_rfl) (by kernel_rfl) (by kernel_rfl) rfl (fun W hW => by obtain ⟨h0, h1, h2, h3, h4, h5, h6, h7⟩ := hW; go_simp) eH0 ?_
    simp only [Act.put, List.setIfInBounds_toArray, List.set_cons_zero, List.set_cons_succ]
    refine hr_take_w 29 (some 110) (.slice d.co d.cs.length d.cc) rfl rfl (by kernel_rfl) (by kernel_rfl) (by kernel_rfl) rfl (fun W hW => by obtain ⟨h0, h1, h2, h3, h4, h5, h6, h7⟩ := hW; go_simp) eH0 ?_
    simp only [Act.put, List.setIfInBounds_toArray, List.set_cons_zero, List.set_cons_succ]
    refine hr_take_w 30 (some 111) (.int .i64 d.ks.length) rfl rfl (by kernel_rfl) (by kernel_rfl) (by kernel_rfl) rfl (fun W hW => by obtain ⟨h0, h1, h2, h3, h4, h5, h6, h7⟩ := hW; go_simp) eH0 ?_
    simp only [Act.put, List.setIfInBounds_toArray, List.set_cons_zero, List.set_cons_succ]
    refine hr_take_w 31 (some 112) (.int .i64 d.ks.length) rfl rfl (by kernel_rfl) (by kernel_rfl) (by kernel_rfl) rfl (fun W hW => by obtain ⟨h0, h1, h2, h3, h4, h5, h6, h7⟩ := hW; go_simp) eH0 ?_
    simp only [Act.put, List.setIfInBounds_toArray, List.set_cons_zero, List.set_cons_succ]
    refine hr_take_w 32 (some 113) (.int .i64 ((d.ks.length + 1 : Nat) : Int)) rfl rfl (by kernel_rfl) (by kernel_rfl) (by kernel_rfl) rfl (fun W hW => by obtain ⟨h0, h1, h2, h3, h4, h5, h6, h7⟩ := hW; go_simp) eH0 ?_
    simp only [Act.put, List.setIfInBounds_toArray, List.set_cons_zero, List.set_cons_succ]
    refine hr_take_w 33 (some 114) (.slice ro (0 + 1 + (f.cs.length - 1)) rc) rfl rfl (by kernel_rfl) (by kernel_rfl) (by kernel_rfl) rfl (fun W hW => by obtain ⟨h0, h1, h2, h3, h4, h5, h6, h7⟩ := hW; go_simp) eH0 ?_
    simp only [Act.put, List.setIfInBounds_toArray, List.set_cons_zero, List.set_cons_succ]
    refine hr_call_w 14 (some 95) 48 #[.slice d.ko d.ks.length d.kc, .int .i64 d.ks.length, .int .i64 d.ks.length, .slice f.ko f.ks.length f.kc] rfl rfl (by kernel_rfl) rfl (by go_simp) (fun v w' => ∃ nko nkc, v = .slice nko (d.ks.length + f.ks.length + (d.ks.length - d.ks.length)) nkc ∧ VL w' nko (d.ks.length + f.ks.length + (d.ks.length - d.ks.length)) nkc ((d.ks.map Part.val).take d.ks.length ++ (f.ks.map Part.val) ++ (d.ks.map Part.val).drop d.ks.length) ∧ Below ev0.heap.size ev0 w') ((chgK_any ev0 d.ko f.ko d.ks.length d.kc f.ks.length f.kc d.ks.length d.ks.length (d.ks.map Part.val) (f.ks.map Part.val) (Nc.ok.kl.vl.below eE0) (Kc.ok.kl.vl.below eE0) (part_one _) (part_one _) (Nat.le_refl _) (by omega) (by omega)).mono (by
      rintro e w' ⟨nko, nkc, rfl, F, C⟩
      exact ⟨_, rfl, nko, nkc, rfl, F, C⟩)) ?_
    rintro v ev1 ⟨nko, nkc, rfl, eF0, eC0⟩
    have eE1 := eE0.trans (eC0.mono eE0.size)
    have eH1 := eHS.out ev1 eE1
    refine ⟨eH1, ?_⟩
    simp only [Act.put, List.setIfInBounds_toArray, List.set_cons_zero, List.set_cons_succ]
    refine hr_call_w 25 (some 106) 48 #[.slice d.vo d.vs.length d.vc, .int .i64 d.ks.length, .int .i64 d.ks.length, .slice f.vo f.vs.length f.vc] rfl rfl (by kernel_rfl) rfl (by go_simp) (fun v w' => ∃ nvo nvc, v = .slice nvo (d.ks.length + f.vs.length + (d.vs.length - d.ks.length)) nvc ∧ VL w' nvo (d.ks.length + f.vs.length + (d.vs.length - d.ks.length)) nvc ((d.vs.map Part.val).take d.ks.length ++ (f.vs.map Part.val) ++ (d.vs.map Part.val).drop d.ks.length) ∧ Below ev1.heap.size ev1 w') ((chgK_any ev1 d.vo f.vo d.vs.length d.vc f.vs.length f.vc d.ks.length d.ks.length (d.vs.map Part.val) (f.vs.map Part.val) (Nc.ok.vl.vl.below eE1) (Kc.ok.vl.vl.below eE1) (part_one _) (part_one _) (Nat.le_refl _) (by omega) (by omega)).mono (by
      rintro e w' ⟨nvo, nvc, rfl, F, C⟩
      exact ⟨_, rfl, nvo, nvc, rfl, F, C⟩)) ?_
    rintro v ev2 ⟨nvo, nvc, rfl, eF1, eC1⟩
    have eE2 := eE1.trans (eC1.mono eE1.size)
    have eH2 := eHS.out ev2 eE2
    refine ⟨eH2, ?_⟩
    simp only [Act.put, List.setIfInBounds_toArray, List.set_cons_zero, List.set_cons_succ]
    refine hr_call_w 34 (some 115) 49 #[.slice d.co d.cs.length d.cc, .int .i64 d.ks.length, .int .i64 ((d.ks.length + 1 : Nat) : Int), .slice ro (0 + 1 + (f.cs.length - 1)) rc] rfl rfl (by kernel_rfl) rfl (by go_simp) (fun v w' => ∃ nco ncc, v = .slice nco (d.ks.length + (0 + 1 + (f.cs.length - 1)) + (d.cs.length - (d.ks.length + 1))) ncc ∧ VL w' nco (d.ks.length + (0 + 1 + (f.cs.length - 1)) + (d.cs.length - (d.ks.length + 1))) ncc (d.cs.take d.ks.length ++ (.pointer x :: f.cs.drop 1) ++ d.cs.drop (d.ks.length + 1)) ∧ Below ev2.heap.size ev2 w') ((chgN_any ev2 d.co ro d.cs.length d.cc (0 + 1 + (f.cs.length - 1)) rc d.ks.length (d.ks.length + 1) d.cs (.pointer x :: f.cs.drop 1) (Nc.ok.cl.below eE2) (cF2.below eE2) Nc.one (by intro y hy; rcases List.mem_cons.1 hy with rfl | hy; rfl; exact Kc.one y (List.mem_of_mem_drop hy)) (by omega) (by omega) (by omega)).mono (by
      rintro e w' ⟨nco, ncc, rfl, F, C⟩
      exact ⟨_, rfl, nco, ncc, rfl, F, C⟩)) ?_
    rintro v ev3 ⟨nco, ncc, rfl, eF2, eC2⟩
    have eE3 := eE2.trans (eC2.mono eE2.size)
    have eH3 := eHS.out ev3 eE3
    refine ⟨eH3, ?_⟩
    simp only [Act.put, List.setIfInBounds_toArray, List.set_cons_zero, List.set_cons_succ]
    refine hr_take_w 35 (some 116) (.agg #[.int .i64 d.L, .slice nko (d.ks.length + f.ks.length + (d.ks.length - d.ks.length)) nkc, .slice nvo (d.ks.length + f.vs.length + (d.vs.length - d.ks.length)) nvc, .slice nco (d.ks.length + (0 + 1 + (f.cs.length - 1)) + (d.cs.length - (d.ks.length + 1))) ncc]) rfl rfl (by kernel_rfl) (by kernel_rfl) (by kernel_rfl) rfl (fun W hW => by obtain ⟨h0, h1, h2, h3, h4, h5, h6, h7⟩ := hW; go_simp) eH3 ?_
    simp only [Act.put, List.setIfInBounds_toArray, List.set_cons_zero, List.set_cons_succ]
    refine hr_ex 36 (some 117) rfl rfl (by kernel_rfl) rfl (R := fun v w' => ∃ g, v = .pointer (some ⟨g, 0, none⟩) ∧ w'.heap[g]? = some (.cells #[.int .i64 d.L, .slice nko (d.ks.length + f.ks.length + (d.ks.length - d.ks.length)) nkc, .slice nvo (d.ks.length + f.vs.length + (d.vs.length - d.ks.length)) nvc, .slice nco (d.ks.length + (0 + 1 + (f.cs.length - 1)) + (d.cs.length - (d.ks.length + 1))) ncc] 74) ∧ Below ev3.heap.size ev3 w') (⟨_, _, by go_simp, _, rfl, heap_alloc_new ev3 _, (Below.refl _ _).alloc (Nat.le_refl _) _⟩) ?_
    rintro v ev4 ⟨eg3, rfl, eG3, eC3⟩
    have eE4 := eE3.trans (eC3.mono eE3.size)
    have eH4 := eHS.out ev4 eE4
    refine ⟨eH4, ?_⟩
    simp only [Act.put, List.setIfInBounds_toArray, List.set_cons_zero, List.set_cons_succ]
    refine hr_take_w 37 (some 4) (.pointer (some ⟨eg3, 0, none⟩)) rfl rfl (by kernel_rfl) (by kernel_rfl) (by kernel_rfl) rfl (fun W hW => by obtain ⟨h0, h1, h2, h3, h4, h5, h6, h7⟩ := hW; go_simp) eH4 ?_
    simp only [Act.put, List.setIfInBounds_toArray, List.set_cons_zero, List.set_cons_succ]
    refine wpAnyH_done (by kernel_rfl) ?_ _
    refine NoPanic.normal ?_
    have Be : Below w.heap.size w ev4 := Bc.trans (eE4.mono Bc.size)
    have Ne := Nc.below eE4
    have Ke := Kc.below eE4
    have D12 := eC1.trans (eC2.mono eC1.size)
    have D1 := D12.trans (eC3.mono D12.size)
    have D2 := eC2.trans (eC3.mono eC2.size)
    have K1 := KL.of (ps := d.ks ++ f.ks) (eF0.below D1) (by rw [List.take_of_length_le (by simp), List.drop_eq_nil_of_le (by simp), List.append_nil, List.map_append]) (by
      intro q hq
      rcases List.mem_append.1 hq with hq | hq
      · exact Ne.ok.kl.sl q hq
      · exact Ke.ok.kl.sl q hq)
    have V1 := KL.of (ps := d.vs ++ f.vs) (eF1.below D2) (by rw [List.take_of_length_le (by simp; omega), List.drop_eq_nil_of_le (by simp; omega), List.append_nil, List.map_append]) (by
      intro q hq
      rcases List.mem_append.1 hq with hq | hq
      · exact Ne.ok.vl.sl q hq
      · exact Ke.ok.vl.sl q hq)
    have C1 := eF2.below eC3
    have hdn : d.cs.drop (d.ks.length + 1) = [] := List.drop_eq_nil_of_le (by omega)
    have kd := ((Ne.kids.take xs.length).app (Kids.cons (tk.below eE4) (Ke.kids.drop 1)))
    have hxl : xs.length = d.ks.length := h.nk.symm
    have TT : T ev4 (.pointer (some ⟨eg3, 0, none⟩)) (l1 ++ l2) := T.make eG3 K1 V1 C1 HSH (by rw [List.map_append, List.map_append, Ne.ek, Ke.ek]) (by rw [List.map_append, List.map_append, Ne.ev, Ke.ev]) (by rw [hdn, List.append_nil, ← hxl]; exact kd)
    clear kd hxl hdn
    go_wp2
    go_ret
    exact ⟨_, rfl, TT, Be⟩
end Go.Proofs.YtnicnfjickknjaaDoor

namespace Go.Proofs.YtnicnfjickknjaaDoor
open Go.RowKit

set_option maxHeartbeats 4000000 in
set_option maxRecDepth 100000 in
theorem without_node (w : World) (key : List Int) (xo : Option Addr) (xn xc : Nat) (hx : Sl w xo xn xc key) (l : List It) (d : Nd) (segs : List (List It)) (xs : List It) (h : Nod w l d segs xs) (hs : Srt l) (hk : has key l) (hn : l.length ≤ 100000)
    (ih : ∀ (V : World) (u : Value) (s : List It), s.length < l.length → Below w.heap.size w V → T V u s → Srt s → has key s → Calls Tryd.prog 32 #[u, .slice xo xn xc] V (RetT V (del s key))) :
    Calls Tryd.prog 32 #[d.ptr, .slice xo xn xc] w (RetT w (del l key)) := by
  have hm := h.many
  have hnk1 := Nat.le_of_eq h.nk
  have hnk2 := Nat.le_of_eq h.nk.symm
  have hnv1 := Nat.le_of_eq h.nv
  have hnv2 := Nat.le_of_eq h.nv.symm
  have hnc1 := Nat.le_of_eq h.nc
  have hnc2 := Nat.le_of_eq h.nc.symm
  have hpos := h.shp.pos
  have CP := place_any w d h.ok xo xn xc key hx (h.rise hs) (by omega)
  have hWK : ∀ (i : Nat) (s A B s' : List It) (V : World) (u : Value), Cut lev l d.L segs xs i s A B → Below w.heap.size w V → T V u s' → (∀ y ∈ s', lev y.k < d.L) → Calls Tryd.prog 47 #[d.ptr, .int .i64 i, u] V (RetT V (A ++ (s' ++ B))) := fun i s A B s' V u c hV hu hl => withKid_any V l d segs xs (h.below hV) i s A B s' c u hu hl hn
  unfold Nd.ptr at CP hWK ⊢
  go_enter Tryd.func32, Tryd.ntmps32
  go_wp2_with fail
  refine CP.mono ?_
  rintro e w1 ⟨i, b, rfl, hat, B1⟩
  have N1 := h.below B1
  obtain ⟨s, A, B, c, hA, hB, hB2, hf⟩ := h.found hs hat
  have hle := c.le
  have hw : IntKind.i64.wrap ((i : Int) + 1) = (i : Int) + 1 := by have := wrap_nat (k := i + 1) (by omega); simpa using this
  have hw2 : IntKind.i64.wrap ((i : Int) + 2) = (i : Int) + 2 := by have := wrap_nat (k := i + 2) (by omega); simpa using this
  have hss : Srt s := by
    have h1 := hs
    rw [c.el] at h1
    exact h1.app.2.1.app.1
  obtain ⟨kb, ko, s', u, eco, hs1, hs2, hcell, hTk, hlen⟩ := N1.kidAt i hle
  obtain rfl : s = s' := Option.some.inj (c.seg.symm.trans hs1)
  clear CP hs1 hs2
  cases b with
  | false =>
    have hB3 := hB2 rfl
    have HD : Hid (del l key = A ++ (del s key ++ B)) := by show _ = _; rw [c.el]; exact del_mid hA hB3
    have hks : has key s := by
      obtain ⟨y, hy, he⟩ := hk
      rw [c.el] at hy
      rcases List.mem_append.1 hy with hy | hy
      · exact absurd he (cmpL_lt_ne (hA y hy))
      · rcases List.mem_append.1 hy with hy | hy
        · exact ⟨y, hy, he⟩
        · exact absurd he.symm (cmpL_lt_ne (hB3 y hy))
    have CI := ih w1 u s hlen B1 hTk hss hks
    have c3 := N1.ok.c3
    rw [eco] at c3
    have hii : (i : Int) < (d.cs.length : Int) := by omega
    obtain ⟨q, rfl⟩ := hTk.ptr
    clear ih hf hB2 eco
    go_wp2_with fail
    refine CI.mono ?_
    rintro e w2 ⟨z, rfl, Tz, B2'⟩
    have B2 : Below w.heap.size w w2 := B1.trans (B2'.mono B1.size)
    have CW := hWK i s A B (del s key) w2 z c B2 Tz (del_lev c.ls)
    clear CI hWK c3 hcell
    go_wp2_with fail
    refine CW.mono ?_
    rintro e w3 ⟨y, rfl, Ty, B3'⟩
    have B3 : Below w.heap.size w w3 := B2.trans (B3'.mono B2.size)
    go_wp2
    go_ret
    refine ⟨_, rfl, ?_, B3⟩
    rw [HD.out]
    exact Ty
  | true =>
  obtain ⟨hi, he⟩ := hf rfl
  obtain ⟨t, B', hseg2, ht, hBe, hone, hmany⟩ := c.less hi
  have HD : Hid (del l key = A ++ ((s ++ t) ++ B')) := by
    show _ = _
    rw [del_at (A := A ++ s) (B := t ++ B') (y := xs[i]) hs (by rw [c.el, hBe]; simp) he]
    simp
  obtain ⟨kb2, ko2, t', u2, eco2, ht1, ht2, hcell2, hTk2, hlen2⟩ := N1.kidAt (i + 1) (by omega)
  obtain rfl : t = t' := Option.some.inj (hseg2.symm.trans ht1)
  obtain ⟨rfl, rfl⟩ : kb = kb2 ∧ ko = ko2 := by
    rw [eco] at eco2
    have e2 := Option.some.inj eco2
    injection e2 with e3 e4
    exact ⟨e3, e4⟩
  have hll : s.length + t.length ≤ l.length := by
    have e3 := congrArg List.length c.el
    have e4 := congrArg List.length hBe
    simp only [List.length_append, List.length_cons] at e3 e4
    omega
  have CJ : ∀ V, Below w1.heap.size w1 V → Calls Tryd.prog 54 #[u, u2] V fun e w' => ∃ z, e = .returned (.pointer z) ∧ T w' (.pointer z) (s ++ t) ∧ Below V.heap.size V w' := by
    intro V hV
    refine (join_fuel (s.length + t.length) V u u2 s t (Nat.le_refl _) (hTk.below hV) (hTk2.below hV) (by omega)).mono ?_
    rintro e w' ⟨y, rfl, Ty, hb⟩
    obtain ⟨z, rfl⟩ := Ty.ptr
    exact ⟨z, rfl, Ty, hb⟩
  obtain ⟨q1, rfl⟩ := hTk.ptr
  obtain ⟨q2, rfl⟩ := hTk2.ptr
  have hii : (i : Int) < (d.cs.length : Int) := by omega
  have hii2 : (i : Int) + 1 < (d.cs.length : Int) := by omega
  have hii3 : (0 : Int) ≤ (i : Int) + 1 := by omega
  have HM : Hid (1 < xs.length → ∀ u : List It, u = s ++ t → Shp lev (A ++ (u ++ B')) d.L (segs.take i ++ u :: segs.drop (i + 2)) (xs.take i ++ xs.drop (i + 1))) := hmany
  have HO : Hid (xs.length = 1 → A = [] ∧ B' = []) := hone
  clear ih hWK hf hB2 he hTk hTk2 ht1 ht2 hseg2 hmany hone hBe eco2
  go_wp2_with fail
  have aHS : Hid (∀ V, Below w1.heap.size w1 V → V.cell? ⟨d.b, 3, none⟩ = some (.slice (some ⟨kb, ko, none⟩) d.cs.length d.cc) ∧ V.cell? ⟨kb, ko + i, none⟩ = some (.pointer q1) ∧ V.cell? ⟨kb, ko + (i + 1), none⟩ = some (.pointer q2)) := fun V hV => ⟨by rw [← eco]; exact (N1.ok.below hV).c3, (hV.cell (World.block_lt_of_cell? _ _ hcell)).trans hcell, (hV.cell (World.block_lt_of_cell? _ _ hcell2)).trans hcell2⟩
  have aE0 : Below w1.heap.size w1 w1.drew := (Below.refl _ _).drew
  refine wp_region_noPanic ?_
  refine wp_region_held_drew (S := fun V => V.cell? ⟨d.b, 3, none⟩ = some (.slice (some ⟨kb, ko, none⟩) d.cs.length d.cc) ∧ V.cell? ⟨kb, ko + i, none⟩ = some (.pointer q1) ∧ V.cell? ⟨kb, ko + (i + 1), none⟩ = some (.pointer q2)) (by kernel_rfl) (aHS.out _ aE0) (fun aH0 => ?_)
  obtain ⟨av0, hv0⟩ : ∃ v, v = w1.drew := ⟨_, rfl⟩
  rw [← hv0] at aH0 aE0 ⊢
  clear hv0
  refine hr_take_w 0 (some 28) (.pointer (some ⟨d.b, 0, none⟩)) rfl rfl (by kernel_rfl) (by kernel_rfl) (by kernel_rfl) rfl (fun W hW => by obtain ⟨h0, h1, h2⟩ := hW; go_simp) aH0 ?_
  simp only [Act.put, List.setIfInBounds_toArray, List.set_cons_zero, List.set_cons_succ]
  refine hr_take_w 1 (some 29) (.pointer (some ⟨d.b, 0, none⟩)) rfl rfl (by kernel_rfl) (by kernel_rfl) (by kernel_rfl) rfl (fun W hW => by obtain ⟨h0, h1, h2⟩ := hW; go_simp) aH0 ?_
  simp only [Act.put, List.setIfInBounds_toArray, List.set_cons_zero, List.set_cons_succ]
  refine hr_take_w 2 (some 30) (.pointer (some ⟨d.b, 3, none⟩)) rfl rfl (by kernel_rfl) (by kernel_rfl) (by kernel_rfl) rfl (fun W hW => by obtain ⟨h0, h1, h2⟩ := hW; go_simp) aH0 ?_
  simp only [Act.put, List.setIfInBounds_toArray, List.set_cons_zero, List.set_cons_succ]
  refine hr_take_w 3 (some 31) (.slice (some ⟨kb, ko, none⟩) d.cs.length d.cc) rfl rfl (by kernel_rfl) (by kernel_rfl) (by kernel_rfl) rfl (fun W hW => by obtain ⟨h0, h1, h2⟩ := hW; go_simp) aH0 ?_
  simp only [Act.put, List.setIfInBounds_toArray, List.set_cons_zero, List.set_cons_succ]
  refine hr_take_w 4 (some 32) (.int .i64 i) rfl rfl (by kernel_rfl) (by kernel_rfl) (by kernel_rfl) rfl (fun W hW => by obtain ⟨h0, h1, h2⟩ := hW; go_simp) aH0 ?_
  simp only [Act.put, List.setIfInBounds_toArray, List.set_cons_zero, List.set_cons_succ]
  refine hr_take_w 5 (some 33) (.pointer (some ⟨kb, ko + i, none⟩)) rfl rfl (by kernel_rfl) (by kernel_rfl) (by kernel_rfl) rfl (fun W hW => by obtain ⟨h0, h1, h2⟩ := hW; go_simp) aH0 ?_
  simp only [Act.put, List.setIfInBounds_toArray, List.set_cons_zero, List.set_cons_succ]
  refine hr_take_w 6 (some 34) (.pointer q1) rfl rfl (by kernel_rfl) (by kernel_rfl) (by kernel_rfl) rfl (fun W hW => by obtain ⟨h0, h1, h2⟩ := hW; go_simp) aH0 ?_
  simp only [Act.put, List.setIfInBounds_toArray, List.set_cons_zero, List.set_cons_succ]
  refine hr_take_w 7 (some 35) (.pointer (some ⟨d.b, 0, none⟩)) rfl rfl (by kernel_rfl) (by kernel_rfl) (by kernel_rfl) rfl (fun W hW => by obtain ⟨h0, h1, h2⟩ := hW; go_simp) aH0 ?_
  simp only [Act.put, List.setIfInBounds_toArray, List.set_cons_zero, List.set_cons_succ]
  refine hr_take_w 8 (some 36) (.pointer (some ⟨d.b, 0, none⟩)) rfl rfl (by kernel_rfl) (by kernel_rfl) (by kernel_rfl) rfl (fun W hW => by obtain ⟨h0, h1, h2⟩ := hW; go_simp) aH0 ?_
  simp only [Act.put, List.setIfInBounds_toArray, List.set_cons_zero, List.set_cons_succ]
  refine hr_take_w 9 (some 37) (.pointer (some ⟨d.b, 3, none⟩)) rfl rfl (by kernel_rfl) (by kernel_rfl) (by kernel_rfl) rfl (fun W hW => by obtain ⟨h0, h1, h2⟩ := hW; go_simp) aH0 ?_
  simp only [Act.put, List.setIfInBounds_toArray, List.set_cons_zero, List.set_cons_succ]
  refine hr_take_w 10 (some 38) (.slice (some ⟨kb, ko, none⟩) d.cs.length d.cc) rfl rfl (by kernel_rfl) (by kernel_rfl) (by kernel_rfl) rfl (fun W hW => by obtain ⟨h0, h1, h2⟩ := hW; go_simp) aH0 ?_
  simp only [Act.put, List.setIfInBounds_toArray, List.set_cons_zero, List.set_cons_succ]
  refine hr_take_w 11 (some 39) (.int .i64 i) rfl rfl (by kernel_rfl) (by kernel_rfl) (by kernel_rfl) rfl (fun W hW => by obtain ⟨h0, h1, h2⟩ := hW; go_simp) aH0 ?_
  simp only [Act.put, List.setIfInBounds_toArray, List.set_cons_zero, List.set_cons_succ]
  refine hr_take_w 12 (some 40) (.int .i64 ((i + 1 : Nat) : Int)) rfl rfl (by kernel_rfl) (by kernel_rfl) (by kernel_rfl) rfl (fun W hW => by obtain ⟨h0, h1, h2⟩ := hW; go_simp) aH0 ?_
  simp only [Act.put, List.setIfInBounds_toArray, List.set_cons_zero, List.set_cons_succ]
  refine hr_take_w 13 (some 41) (.pointer (some ⟨kb, ko + (i + 1), none⟩)) rfl rfl (by kernel_rfl) (by kernel_rfl) (by kernel_rfl) rfl (fun W hW => by obtain ⟨h0, h1, h2⟩ := hW; go_simp) aH0 ?_
  simp only [Act.put, List.setIfInBounds_toArray, List.set_cons_zero, List.set_cons_succ]
  refine hr_take_w 14 (some 42) (.pointer q2) rfl rfl (by kernel_rfl) (by kernel_rfl) (by kernel_rfl) rfl (fun W hW => by obtain ⟨h0, h1, h2⟩ := hW; go_simp) aH0 ?_
  simp only [Act.put, List.setIfInBounds_toArray, List.set_cons_zero, List.set_cons_succ]
  refine hr_call_w 15 (some 43) 54 #[.pointer q1, .pointer q2] rfl rfl (by kernel_rfl) rfl (by go_simp) (fun v w' => ∃ z, v = .pointer z ∧ T w' (.pointer z) (s ++ t) ∧ Below av0.heap.size av0 w') ((CJ _ aE0).mono (by
    rintro e w' ⟨z, rfl, F, C⟩
    exact ⟨_, rfl, z, rfl, F, C⟩)) ?_
  rintro v av1 ⟨z, rfl, aF0, aC0⟩
  have aE1 := aE0.trans (aC0.mono aE0.size)
  have aH1 := aHS.out av1 aE1
  refine ⟨aH1, ?_⟩
  simp only [Act.put, List.setIfInBounds_toArray, List.set_cons_zero, List.set_cons_succ]
  refine hr_take_w 16 (some 7) (.pointer z) rfl rfl (by kernel_rfl) (by kernel_rfl) (by kernel_rfl) rfl (fun W hW => by obtain ⟨h0, h1, h2⟩ := hW; go_simp) aH1 ?_
  simp only [Act.put, List.setIfInBounds_toArray, List.set_cons_zero, List.set_cons_succ]
  refine wpAnyH_done (by kernel_rfl) ?_ _
  refine NoPanic.normal ?_
  have Ba : Below w.heap.size w av1 := B1.trans (aE1.mono B1.size)
  have Na := h.below Ba
  have c1 := Na.ok.c1
  by_cases h1 : d.ks.length = 1
  · have h1' : ((d.ks.length : Int) == 1) = true := by simp; omega
    have hx1 : xs.length = 1 := by omega
    have HX : Hid (A = [] ∧ B' = []) := HO.out hx1
    clear h1 hx1
    go_wp2
    go_ret
    refine ⟨_, rfl, ?_, Ba⟩
    rw [HD.out, HX.out.1, HX.out.2, List.nil_append, List.append_nil]
    exact aF0
  have h1' : ((d.ks.length : Int) == 1) = false := by simp; omega
  have HS := HM.out (by omega) _ rfl
  have TF : ∀ (V : World), Below av1.heap.size av1 V → ∀ (gn : Nat) (k1 : Option Addr) (k2 : Nat) (v1 : Option Addr) (v2 : Nat) (n1 : Option Addr) (n2 : Nat), V.heap[gn]? = some (.cells #[.int .i64 d.L, .slice k1 (i + 0 + (d.ks.length - (i + 1))) k2, .slice v1 (i + 0 + (d.vs.length - (i + 1))) v2, .slice n1 (i + 1 + (d.cs.length - (i + 2))) n2] 74) →
      VL V k1 (i + 0 + (d.ks.length - (i + 1))) k2 ((d.ks.map Part.val).take i ++ [] ++ (d.ks.map Part.val).drop (i + 1)) → VL V v1 (i + 0 + (d.vs.length - (i + 1))) v2 ((d.vs.map Part.val).take i ++ [] ++ (d.vs.map Part.val).drop (i + 1)) → VL V n1 (i + 1 + (d.cs.length - (i + 2))) n2 (d.cs.take i ++ [.pointer z] ++ d.cs.drop (i + 2)) → T V (.pointer (some ⟨gn, 0, none⟩)) (del l key) := by
    intro V hV gn k1 k2 v1 v2 n1 n2 hgn h1 h2 h3
    have Bv := Ba.trans (hV.mono Ba.size)
    have Nv := h.below Bv
    have kd := (Nv.kids.take i).app (Kids.cons (aF0.below hV) (Nv.kids.drop (i + 2)))
    rw [HD.out]
    refine T.make hgn (KL.of (ps := d.ks.take i ++ d.ks.drop (i + 1)) h1 (by simp [List.map_take, List.map_drop]) ?_) (KL.of (ps := d.vs.take i ++ d.vs.drop (i + 1)) h2 (by simp [List.map_take, List.map_drop]) ?_) h3 HS ?_ ?_ ?_
    · intro q hq
      rcases List.mem_append.1 hq with hq | hq
      · exact Nv.ok.kl.sl q (List.mem_of_mem_take hq)
      · exact Nv.ok.kl.sl q (List.mem_of_mem_drop hq)
    · intro q hq
      rcases List.mem_append.1 hq with hq | hq
      · exact Nv.ok.vl.sl q (List.mem_of_mem_take hq)
      · exact Nv.ok.vl.sl q (List.mem_of_mem_drop hq)
    · simp [List.map_take, List.map_drop, Nv.ek]
    · simp [List.map_take, List.map_drop, Nv.ev]
    · simpa using kd
  clear aF0 HD HM HO HS h1
  go_wp2_with fail
  have eHS : Hid (∀ V, Below av1.heap.size av1 V → V.cell? ⟨d.b, 0, none⟩ = some (.int .i64 d.L) ∧ V.cell? ⟨d.b, 1, none⟩ = some (.slice d.ko d.ks.length d.kc) ∧ V.cell? ⟨d.b, 2, none⟩ = some (.slice d.vo d.vs.length d.vc) ∧ V.cell? ⟨d.b, 3, none⟩ = some (.slice d.co d.cs.length d.cc)) := fun V hV => ⟨(Na.ok.below hV).c0, (Na.ok.below hV).c1, (Na.ok.below hV).c2, (Na.ok.below hV).c3⟩
  have eE0 : Below av1.heap.size av1 av1.drew := (Below.refl _ _).drew
  refine wp_region_noPanic ?_
  refine wp_region_held_drew (S := fun V => V.cell? ⟨d.b, 0, none⟩ = some (.int .i64 d.L) ∧ V.cell? ⟨d.b, 1, none⟩ = some (.slice d.ko d.ks.length d.kc) ∧ V.cell? ⟨d.b, 2, none⟩ = some (.slice d.vo d.vs.length d.vc) ∧ V.cell? ⟨d.b, 3, none⟩ = some (.slice d.co d.cs.length d.cc)) (by kernel_rfl) (eHS.out _ eE0) (fun eH0 => ?_)
  obtain ⟨ev0, hv0⟩ : ∃ v, v = av1.drew := ⟨_, rfl⟩
  rw [← hv0] at eH0 eE0 ⊢
  clear hv0
  refine hr_take_w 0 (some 51) (.pointer (some ⟨d.b, 0, none⟩)) rfl rfl (by kernel_rfl) (by kernel_rfl) (by kernel_rfl) rfl (fun W hW => by obtain ⟨h0, h1, h2, h3⟩ := hW; go_simp) eH0 ?_
  simp only [Act.put, List.setIfInBounds_toArray, List.set_cons_zero, List.set_cons_succ]
  refine hr_take_w 1 (some 52) (.pointer (some ⟨d.b, 0, none⟩)) rfl rfl (by kernel_rfl) (by kernel_rfl) (by kernel_rfl) rfl (fun W hW => by obtain ⟨h0, h1, h2, h3⟩ := hW; go_simp) eH0 ?_
  simp only [Act.put, List.setIfInBounds_toArray, List.set_cons_zero, List.set_cons_succ]
  refine hr_take_w 2 (some 53) (.pointer (some ⟨d.b, 0, none⟩)) rfl rfl (by kernel_rfl) (by kernel_rfl) (by kernel_rfl) rfl (fun W hW => by obtain ⟨h0, h1, h2, h3⟩ := hW; go_simp) eH0 ?_
  simp only [Act.put, List.setIfInBounds_toArray, List.set_cons_zero, List.set_cons_succ]
  refine hr_take_w 3 (some 54) (.int .i64 d.L) rfl rfl (by kernel_rfl) (by kernel_rfl) (by kernel_rfl) rfl (fun W hW => by obtain ⟨h0, h1, h2, h3⟩ := hW; go_simp) eH0 ?_
  simp only [Act.put, List.setIfInBounds_toArray, List.set_cons_zero, List.set_cons_succ]
  refine hr_take_w 4 (some 55) (.pointer (some ⟨d.b, 0, none⟩)) rfl rfl (by kernel_rfl) (by kernel_rfl) (by kernel_rfl) rfl (fun W hW => by obtain ⟨h0, h1, h2, h3⟩ := hW; go_simp) eH0 ?_
  simp only [Act.put, List.setIfInBounds_toArray, List.set_cons_zero, List.set_cons_succ]
  refine hr_take_w 5 (some 56) (.pointer (some ⟨d.b, 0, none⟩)) rfl rfl (by kernel_rfl) (by kernel_rfl) (by kernel_rfl) rfl (fun W hW => by obtain ⟨h0, h1, h2, h3⟩ := hW; go_simp) eH0 ?_
  simp only [Act.put, List.setIfInBounds_toArray, List.set_cons_zero, List.set_cons_succ]
  refine hr_take_w 6 (some 57) (.pointer (some ⟨d.b, 1, none⟩)) rfl rfl (by kernel_rfl) (by kernel_rfl) (by kernel_rfl) rfl (fun W hW => by obtain ⟨h0, h1, h2, h3⟩ := hW; go_simp) eH0 ?_
  simp only [Act.put, List.setIfInBounds_toArray, List.set_cons_zero, List.set_cons_succ]
  refine hr_take_w 7 (some 58) (.slice d.ko d.ks.length d.kc) rfl rfl (by kernel_rfl) (by kernel_rfl) (by kernel_rfl) rfl (fun W hW => by obtain ⟨h0, h1, h2, h3⟩ := hW; go_simp) eH0 ?_
  simp only [Act.put, List.setIfInBounds_toArray, List.set_cons_zero, List.set_cons_succ]
  refine hr_take_w 8 (some 59) (.int .i64 i) rfl rfl (by kernel_rfl) (by kernel_rfl) (by kernel_rfl) rfl (fun W hW => by obtain ⟨h0, h1, h2, h3⟩ := hW; go_simp) eH0 ?_
  simp only [Act.put, List.setIfInBounds_toArray, List.set_cons_zero, List.set_cons_succ]
  refine hr_take_w 9 (some 60) (.int .i64 i) rfl rfl (by kernel_rfl) (by kernel_rfl) (by kernel_rfl) rfl (fun W hW => by obtain ⟨h0, h1, h2, h3⟩ := hW; go_simp) eH0 ?_
  simp only [Act.put, List.setIfInBounds_toArray, List.set_cons_zero, List.set_cons_succ]
  refine hr_take_w 10 (some 61) (.int .i64 ((i + 1 : Nat) : Int)) rfl rfl (by kernel_rfl) (by kernel_rfl) (by kernel_rfl) rfl (fun W hW => by obtain ⟨h0, h1, h2, h3⟩ := hW; go_simp) eH0 ?_
  simp only [Act.put, List.setIfInBounds_toArray, List.set_cons_zero, List.set_cons_succ]
  refine hr_take_w 12 (some 63) (.pointer (some ⟨d.b, 0, none⟩)) rfl rfl (by kernel_rfl) (by kernel_rfl) (by kernel_rfl) rfl (fun W hW => by obtain ⟨h0, h1, h2, h3⟩ := hW; go_simp) eH0 ?_
  simp only [Act.put, List.setIfInBounds_toArray, List.set_cons_zero, List.set_cons_succ]
  refine hr_take_w 13 (some 64) (.pointer (some ⟨d.b, 0, none⟩)) rfl rfl (by kernel_rfl) (by kernel_rfl) (by kernel_rfl) rfl (fun W hW => by obtain ⟨h0, h1, h2, h3⟩ := hW; go_simp) eH0 ?_
  simp only [Act.put, List.setIfInBounds_toArray, List.set_cons_zero, List.set_cons_succ]
  refine hr_take_w 14 (some 65) (.pointer (some ⟨d.b, 2, none⟩)) rfl rfl (by kernel_rfl) (by kernel_rfl) (by kernel_rfl) rfl (fun W hW => by obtain ⟨h0, h1, h2, h3⟩ := hW; go_simp) eH0 ?_
  simp only [Act.put, List.setIfInBounds_toArray, List.set_cons_zero, List.set_cons_succ]
  refine hr_take_w 15 (some 66) (.slice d.vo d.vs.length d.vc) rfl rfl (by kernel_rfl) (by kernel_rfl) (by kernel_rfl) rfl (fun W hW => by obtain ⟨h0, h1, h2, h3⟩ := hW; go_simp) eH0 ?_
  simp only [Act.put, List.setIfInBounds_toArray, List.set_cons_zero, List.set_cons_succ]
  refine hr_take_w 16 (some 67) (.int .i64 i) rfl rfl (by kernel_rfl) (by kernel_rfl) (by kernel_rfl) rfl (fun W hW => by obtain ⟨h0, h1, h2, h3⟩ := hW; go_simp) eH0 ?_
  simp only [Act.put, List.setIfInBounds_toArray, List.set_cons_zero, List.set_cons_succ]
  refine hr_take_w 17 (some 68) (.int .i64 i) rfl rfl (by kernel_rfl) (by kernel_rfl) (by kernel_rfl) rfl (fun W hW => by obtain ⟨h0, h1, h2, h3⟩ := hW; go_simp) eH0 ?_
  simp only [Act.put, List.setIfInBounds_toArray, List.set_cons_zero, List.set_cons_succ]
  refine hr_take_w 18 (some 69) (.int .i64 ((i + 1 : Nat) : Int)) rfl rfl (by kernel_rfl) (by kernel_rfl) (by kernel_rfl) rfl (fun W hW => by obtain ⟨h0, h1, h2, h3⟩ := hW; go_simp) eH0 ?_
  simp only [Act.put, List.setIfInBounds_toArray, List.set_cons_zero, List.set_cons_succ]
  refine hr_take_w 20 (some 71) (.pointer (some ⟨d.b, 0, none⟩)) rfl rfl (by kernel_rfl) (by kernel_rfl) (by kernel_rfl) rfl (fun W hW => by obtain ⟨h0, h1, h2, h3⟩ := hW; go_simp) eH0 ?_
  simp only [Act.put, List.setIfInBounds_toArray, List.set_cons_zero, List.set_cons_succ]
  refine hr_take_w 21 (some 72) (.pointer (some ⟨d.b, 0, none⟩)) rfl rfl (by kernel_rfl) (by kernel_rfl) (by kernel_rfl) rfl (fun W hW => by obtain ⟨h0, h1, h2, h3⟩ := hW; go_simp) eH0 ?_
  simp only [Act.put, List.setIfInBounds_toArray, List.set_cons_zero, List.set_cons_succ]
  refine hr_take_w 22 (some 73) (.pointer (some ⟨d.b, 3, none⟩)) rfl rfl (by kernel_rfl) (by kernel_rfl) (by kernel_rfl) rfl (fun W hW => by obtain ⟨h0, h1, h2, h3⟩ := hW; go_simp) eH0 ?_
  simp only [Act.put, List.setIfInBounds_toArray, List.set_cons_zero, List.set_cons_succ]
  refine hr_take_w 23 (some 74) (.slice d.co d.cs.length d.cc) rfl rfl (by kernel_rfl) (by kernel_rfl) (by kernel_rfl) rfl (fun W hW => by obtain ⟨h0, h1, h2, h3⟩ := hW; go_simp) eH0 ?_
  simp only [Act.put, List.setIfInBounds_toArray, List.set_cons_zero, List.set_cons_succ]
  refine hr_take_w 24 (some 75) (.int .i64 i) rfl rfl (by kernel_rfl) (by kernel_rfl) (by kernel_rfl) rfl (fun W hW => by obtain ⟨h0, h1, h2, h3⟩ := hW; go_simp) eH0 ?_
  simp only [Act.put, List.setIfInBounds_toArray, List.set_cons_zero, List.set_cons_succ]
  refine hr_take_w 25 (some 76) (.int .i64 i) rfl rfl (by kernel_rfl) (by kernel_rfl) (by kernel_rfl) rfl (fun W hW => by obtain ⟨h0, h1, h2, h3⟩ := hW; go_simp) eH0 ?_
  simp only [Act.put, List.setIfInBounds_toArray, List.set_cons_zero, List.set_cons_succ]
  refine hr_take_w 26 (some 77) (.int .i64 ((i + 2 : Nat) : Int)) rfl rfl (by kernel_rfl) (by kernel_rfl) (by kernel_rfl) rfl (fun W hW => by obtain ⟨h0, h1, h2, h3⟩ := hW; go_simp) eH0 ?_
  simp only [Act.put, List.setIfInBounds_toArray, List.set_cons_zero, List.set_cons_succ]
  refine hr_take_w 27 (some 78) (.pointer z) rfl rfl (by kernel_rfl) (by kernel_rfl) (by kernel_rfl) rfl (fun W hW => by obtain ⟨h0, h1, h2, h3⟩ := hW; go_simp) eH0 ?_
  simp only [Act.put, List.setIfInBounds_toArray, List.set_cons_zero, List.set_cons_succ]
  refine wpAnyH_effs (fun zi zv zw => (zi = 11 → ∃ ro rc, zv = .slice ro (i + 0 + (d.ks.length - (i + 1))) rc ∧ VL zw ro (i + 0 + (d.ks.length - (i + 1))) rc ((d.ks.map Part.val).take i ++ [] ++ (d.ks.map Part.val).drop (i + 1))) ∧ (zi = 19 → ∃ ro rc, zv = .slice ro (i + 0 + (d.vs.length - (i + 1))) rc ∧ VL zw ro (i + 0 + (d.vs.length - (i + 1))) rc ((d.vs.map Part.val).take i ++ [] ++ (d.vs.map Part.val).drop (i + 1))) ∧ (zi = 28 → ∃ g, zv = .slice (some ⟨g, 0, none⟩) 1 1 ∧ VL zw (some ⟨g, 0, none⟩) 1 1 [.pointer z]) ∧ (zi = 29 → ∃ ro rc, zv = .slice ro (i + 1 + (d.cs.length - (i + 2))) rc ∧ VL zw ro (i + 1 + (d.cs.length - (i + 2))) rc (d.cs.take i ++ [.pointer z] ++ d.cs.drop (i + 2))) ∧ (zi = 30 → ∃ k1 k2 v1 v2 n1 n2, zv = .agg #[.int .i64 d.L, .slice k1 (i + 0 + (d.ks.length - (i + 1))) k2, .slice v1 (i + 0 + (d.vs.length - (i + 1))) v2, .slice n1 (i + 1 + (d.cs.length - (i + 2))) n2] ∧ VL zw k1 (i + 0 + (d.ks.length - (i + 1))) k2 ((d.ks.map Part.val).take i ++ [] ++ (d.ks.map Part.val).drop (i + 1)) ∧ VL zw v1 (i + 0 + (d.vs.length - (i + 1))) v2 ((d.vs.map Part.val).take i ++ [] ++ (d.vs.map Part.val).drop (i + 1)) ∧ VL zw n1 (i + 1 + (d.cs.length - (i + 2))) n2 (d.cs.take i ++ [.pointer z] ++ d.cs.drop (i + 2))) ∧ (zi = 31 → T zw zv (del l key)) ∧ (zi = 32 → T zw zv (del l key))) [11, 19, 28, 29, 30, 31, 32] 83 (by kernel_rfl) (by kernel_rfl) (Nat.le_of_eq (by kernel_rfl)) rfl rfl ?_ (fun W hW => eHS.out W (eE0.trans (hW.mono eE0.size))) ?_ ?_
  · intro zi v w w' h hb
    refine ⟨fun e => ?_, fun e => ?_, fun e => ?_, fun e => ?_, fun e => ?_, fun e => ?_, fun e => ?_⟩
    · have h := h.1 e
      obtain ⟨ro, rc, h1, h2⟩ := h
      exact ⟨ro, rc, h1, h2.below hb⟩
    · have h := h.2.1 e
      obtain ⟨ro, rc, h1, h2⟩ := h
      exact ⟨ro, rc, h1, h2.below hb⟩
    · have h := h.2.2.1 e
      obtain ⟨g, h1, h2⟩ := h
      exact ⟨g, h1, h2.below hb⟩
    · have h := h.2.2.2.1 e
      obtain ⟨ro, rc, h1, h2⟩ := h
      exact ⟨ro, rc, h1, h2.below hb⟩
    · have h := h.2.2.2.2.1 e
      obtain ⟨k1, k2, v1, v2, n1, n2, h1, h2, h3, h4⟩ := h
      exact ⟨k1, k2, v1, v2, n1, n2, h1, h2.below hb, h3.below hb, h4.below hb⟩
    · have h := h.2.2.2.2.2.1 e
      exact h.below hb
    · have h := h.2.2.2.2.2.2 e
      exact h.below hb
  · intro zi zhi o a w ho hs hb hdep
    simp only [List.mem_cons, List.not_mem_nil, or_false] at zhi
    rcases zhi with rfl | rfl | rfl | rfl | rfl | rfl | rfl
    · obtain rfl : _ = o := Option.some.inj (show some _ = some o from ho)
      have t58 : a.tmps[58]? = some (.slice d.ko d.ks.length d.kc) := hs.get 58 (by kernel_rfl) rfl
      have t59 : a.tmps[59]? = some (.int .i64 i) := hs.get 59 (by kernel_rfl) rfl
      have t61 : a.tmps[61]? = some (.int .i64 ((i + 1 : Nat) : Int)) := hs.get 61 (by kernel_rfl) rfl
      have E1 := eE0.trans (hb.mono eE0.size)
      refine .inr ⟨48, #[.slice d.ko d.ks.length d.kc, .int .i64 i, .int .i64 ((i + 1 : Nat) : Int), .slice none 0 0], by go_simp, (chgK_any w d.ko none d.ks.length d.kc 0 0 i (i + 1) (d.ks.map Part.val) [] (Na.ok.kl.vl.below E1) (VL.nothing w) (part_one _) (by simp) (by omega) (by omega) (by omega)).mono ?_⟩
      rintro e w' ⟨ro, rc, rfl, h1, h2⟩
      exact ⟨_, rfl, ⟨fun _ => ⟨ro, rc, rfl, h1⟩, fun e => absurd e (by decide), fun e => absurd e (by decide), fun e => absurd e (by decide), fun e => absurd e (by decide), fun e => absurd e (by decide), fun e => absurd e (by decide)⟩, h2⟩
    · obtain rfl : _ = o := Option.some.inj (show some _ = some o from ho)
      have t66 : a.tmps[66]? = some (.slice d.vo d.vs.length d.vc) := hs.get 66 (by kernel_rfl) rfl
      have t67 : a.tmps[67]? = some (.int .i64 i) := hs.get 67 (by kernel_rfl) rfl
      have t69 : a.tmps[69]? = some (.int .i64 ((i + 1 : Nat) : Int)) := hs.get 69 (by kernel_rfl) rfl
      have E1 := eE0.trans (hb.mono eE0.size)
      refine .inr ⟨48, #[.slice d.vo d.vs.length d.vc, .int .i64 i, .int .i64 ((i + 1 : Nat) : Int), .slice none 0 0], by go_simp, (chgK_any w d.vo none d.vs.length d.vc 0 0 i (i + 1) (d.vs.map Part.val) [] (Na.ok.vl.vl.below E1) (VL.nothing w) (part_one _) (by simp) (by omega) (by omega) (by omega)).mono ?_⟩
      rintro e w' ⟨ro, rc, rfl, h1, h2⟩
      exact ⟨_, rfl, ⟨fun e => absurd e (by decide), fun _ => ⟨ro, rc, rfl, h1⟩, fun e => absurd e (by decide), fun e => absurd e (by decide), fun e => absurd e (by decide), fun e => absurd e (by decide), fun e => absurd e (by decide)⟩, h2⟩
    · obtain rfl : _ = o := Option.some.inj (show some _ = some o from ho)
      have t78 : a.tmps[78]? = some (.pointer z) := hs.get 78 (by kernel_rfl) rfl
      exact .inl ⟨_, _, by go_simp, ⟨fun e => absurd e (by decide), fun e => absurd e (by decide), fun _ => ⟨_, rfl, VL.new w [.pointer z] 52 (by simp [maxLen])⟩, fun e => absurd e (by decide), fun e => absurd e (by decide), fun e => absurd e (by decide), fun e => absurd e (by decide)⟩, (Below.refl _ _).alloc (Nat.le_refl _) _⟩
    · obtain rfl : _ = o := Option.some.inj (show some _ = some o from ho)
      have t74 : a.tmps[74]? = some (.slice d.co d.cs.length d.cc) := hs.get 74 (by kernel_rfl) rfl
      have t75 : a.tmps[75]? = some (.int .i64 i) := hs.get 75 (by kernel_rfl) rfl
      have t77 : a.tmps[77]? = some (.int .i64 ((i + 2 : Nat) : Int)) := hs.get 77 (by kernel_rfl) rfl
      obtain ⟨x79, t79, f79⟩ := (hdep 28 (by kernel_rfl) (by kernel_rfl)).at 79 (by kernel_rfl)
      replace f79 := f79.2.2.1 rfl
      obtain ⟨g1, rfl, G1⟩ := f79
      have E1 := eE0.trans (hb.mono eE0.size)
      refine .inr ⟨49, #[.slice d.co d.cs.length d.cc, .int .i64 i, .int .i64 ((i + 2 : Nat) : Int), .slice (some ⟨g1, 0, none⟩) 1 1], by go_simp, (chgN_any w d.co (some ⟨g1, 0, none⟩) d.cs.length d.cc 1 1 i (i + 2) d.cs [.pointer z] (Na.ok.cl.below E1) G1 Na.one (by intro y hy; rw [List.mem_singleton.1 hy]; rfl) (by omega) (by omega) (by omega)).mono ?_⟩
      rintro e w' ⟨ro, rc, rfl, h1, h2⟩
      exact ⟨_, rfl, ⟨fun e => absurd e (by decide), fun e => absurd e (by decide), fun e => absurd e (by decide), fun _ => ⟨ro, rc, rfl, h1⟩, fun e => absurd e (by decide), fun e => absurd e (by decide), fun e => absurd e (by decide)⟩, h2⟩
    · obtain rfl : _ = o := Option.some.inj (show some _ = some o from ho)
      have t54 : a.tmps[54]? = some (.int .i64 d.L) := hs.get 54 (by kernel_rfl) rfl
      obtain ⟨x62, t62, f62⟩ := (hdep 11 (by kernel_rfl) (by kernel_rfl)).at 62 (by kernel_rfl)
      replace f62 := f62.1 rfl
      obtain ⟨x70, t70, f70⟩ := (hdep 19 (by kernel_rfl) (by kernel_rfl)).at 70 (by kernel_rfl)
      replace f70 := f70.2.1 rfl
      obtain ⟨x80, t80, f80⟩ := (hdep 29 (by kernel_rfl) (by kernel_rfl)).at 80 (by kernel_rfl)
      replace f80 := f80.2.2.2.1 rfl
      obtain ⟨k1, k2, rfl, h1⟩ := f62
      obtain ⟨v1, v2, rfl, h2⟩ := f70
      obtain ⟨n1, n2, rfl, h3⟩ := f80
      exact .inl ⟨.agg #[.int .i64 d.L, .slice k1 (i + 0 + (d.ks.length - (i + 1))) k2, .slice v1 (i + 0 + (d.vs.length - (i + 1))) v2, .slice n1 (i + 1 + (d.cs.length - (i + 2))) n2], w, by go_simp, ⟨fun e => absurd e (by decide), fun e => absurd e (by decide), fun e => absurd e (by decide), fun e => absurd e (by decide), fun _ => ⟨k1, k2, v1, v2, n1, n2, rfl, h1, h2, h3⟩, fun e => absurd e (by decide), fun e => absurd e (by decide)⟩, Below.refl _ _⟩
    · obtain rfl : _ = o := Option.some.inj (show some _ = some o from ho)
      obtain ⟨x81, t81, f81⟩ := (hdep 30 (by kernel_rfl) (by kernel_rfl)).at 81 (by kernel_rfl)
      replace f81 := f81.2.2.2.2.1 rfl
      obtain ⟨k1, k2, v1, v2, n1, n2, rfl, h1, h2, h3⟩ := f81
      have E1 := eE0.trans (hb.mono eE0.size)
      have hA2 : Below w.heap.size w (w.alloc (.cells #[.int .i64 d.L, .slice k1 (i + 0 + (d.ks.length - (i + 1))) k2, .slice v1 (i + 0 + (d.vs.length - (i + 1))) v2, .slice n1 (i + 1 + (d.cs.length - (i + 2))) n2] 74)) := (Below.refl _ _).alloc (Nat.le_refl _) _
      refine .inl ⟨_, _, by go_simp, ⟨fun e => absurd e (by decide), fun e => absurd e (by decide), fun e => absurd e (by decide), fun e => absurd e (by decide), fun e => absurd e (by decide), fun _ => TF _ (E1.trans (hA2.mono E1.size)) _ _ _ _ _ _ _ (heap_alloc_new w _) (h1.below hA2) (h2.below hA2) (h3.below hA2), fun e => absurd e (by decide)⟩, hA2⟩
    · obtain rfl : _ = o := Option.some.inj (show some _ = some o from ho)
      obtain ⟨x82, t82, f82⟩ := (hdep 31 (by kernel_rfl) (by kernel_rfl)).at 82 (by kernel_rfl)
      replace f82 := f82.2.2.2.2.2.1 rfl
      exact .inl ⟨x82, w, by go_simp, ⟨fun e => absurd e (by decide), fun e => absurd e (by decide), fun e => absurd e (by decide), fun e => absurd e (by decide), fun e => absurd e (by decide), fun e => absurd e (by decide), fun _ => f82⟩, Below.refl _ _⟩
  · intro za zw hs hb hh
    obtain ⟨x4, t4, f4⟩ := (hh 32 (by simp)).at 4 (by kernel_rfl); replace f4 := f4.2.2.2.2.2.2 rfl
    have E1 := Ba.trans ((eE0.trans (hb.mono eE0.size)).mono Ba.size)
    have hde : za.defers = [] := hs.defers
    go_wp2
    refine bodyPost_ret (v := x4) (by rw [results_tmp rfl]; simp [t4]) hde ?_
    exact ⟨_, rfl, f4, E1⟩
theorem without_fuel : ∀ (N : Nat) (l : List It) (w : World) (v : Value) (key : List Int) (xo : Option Addr) (xn xc : Nat), l.length ≤ N → Sl w xo xn xc key → T w v l → Srt l → has key l → l.length ≤ 100000 →
    Calls Tryd.prog 32 #[v, .slice xo xn xc] w (RetT w (del l key)) := by
  intro N
  induction N with
  | zero =>
    intro l w v key xo xn xc hN hx hT hs hk hn
    obtain rfl : l = [] := List.eq_nil_of_length_eq_zero (by omega)
    obtain ⟨y, hy, -⟩ := hk
    simp at hy
  | succ N ih =>
    intro l w v key xo xn xc hN hx hT hs hk hn
    rcases hT.is with ⟨rfl, rfl⟩ | ⟨d, segs, xs, rfl, h⟩
    · obtain ⟨y, hy, -⟩ := hk
      simp at hy
    · exact without_node w key xo xn xc hx l d segs xs h hs hk hn (fun V u s hlt hV hu hss hks => ih s V u key xo xn xc (by omega) (hx.below hV) hu hss hks (by omega))
end Go.Proofs.YtnicnfjickknjaaDoor

namespace Go.Proofs.YtnicnfjickknjaaDoor
open Go.RowKit

theorem least (p : Nat → Prop) : ∀ n, p n → ∃ m, p m ∧ ∀ k, k < m → ¬ p k := by
  intro n
  induction n using Nat.strongRecOn with
  | ind n ih =>
    intro hn
    by_cases h : ∃ k, k < n ∧ p k
    · obtain ⟨k, hk, hp⟩ := h
      exact ih k hk hp
    · exact ⟨n, hn, fun k hk hp => h ⟨k, hk, hp⟩⟩
theorem wp_scope_dec {P : Program} {Q : Exit → Act → World → Prop} {a : Act} {w : World} {y : Code} (l : Nat) (J : Nat → Act → World → Prop) (n : Nat) (h0 : J n a w)
    (pass : ∀ n a w, J n a w → y.wp P (Exit.jump l (fun a' w' => ∃ m, m < n ∧ J m a' w') Q) a w) : (Code.scope ((Code.label l).seq y)).wp P Q a w := by
  have hex : ∀ p : Act × World, ∃ n, (∃ k, J k p.1 p.2) → (J n p.1 p.2 ∧ ∀ m, m < n → ¬ J m p.1 p.2) := by
    intro p
    by_cases h : ∃ k, J k p.1 p.2
    · obtain ⟨k, hk⟩ := h
      obtain ⟨m, h1, h2⟩ := least (fun k => J k p.1 p.2) k hk
      exact ⟨m, fun _ => ⟨h1, h2⟩⟩
    · exact ⟨0, fun h' => absurd h' h⟩
  obtain ⟨μ, hμ⟩ := Classical.axiomOfChoice hex
  refine wp_scope_label l (fun a w => ∃ n, J n a w) (fun a w => μ (a, w)) ⟨n, h0⟩ ?_
  intro a w hJ
  obtain ⟨h1, h2⟩ := hμ (a, w) hJ
  refine wp_mono (pass _ a w h1) ?_
  intro e a' w' h
  cases e with
  | goto l' =>
    obtain ⟨he, ⟨m, hm, hJm⟩⟩ := h
    refine ⟨he, ⟨m, hJm⟩, ?_⟩
    obtain ⟨h3, h4⟩ := hμ (a', w') ⟨m, hJm⟩
    have : ¬ m < μ (a', w') := fun hlt => h4 m hlt hJm
    show μ (a', w') < μ (a, w)
    have hm' : m < μ (a, w) := hm
    omega
  | _ => exact h
end Go.Proofs.YtnicnfjickknjaaDoor

namespace Go.Proofs.YtnicnfjickknjaaDoor
open Go.RowKit

/-- What a search for a key answers. -/
def FoundV (w : World) (l : List It) (key : List Int) (e : Ending) (w' : World) : Prop := ∃ (qo : Option Addr) (qn qc : Nat) (b : Bool), e = .returned (.tuple #[.slice qo qn qc, .bool b]) ∧
  (b = true → ∃ x ∈ l, x.k = key ∧ Sl w' qo qn qc x.v) ∧ (b = false → ¬ has key l ∧ qo = none ∧ qn = 0 ∧ qc = 0) ∧ Below w.heap.size w w'

/-- What holds at the label. -/
def FJ (w : World) (l : List It) (key : List Int) (xo : Option Addr) (m xc : Nat) (n : Nat) (a' : Act) (w' : World) : Prop := Below w.heap.size w w' ∧ ∃ (u u6 u7 u8 u9 u10 u11 u12 u13 u14 u15 u16 u17 u18 u19 u20 u21 u22 u23 u24 u25 u26 u27 u28 u29 u30 : Value) (l' : List It),
  a' = { tmps := #[u, .slice xo m xc, undef, undef, .slice none 0 0, .bool false, u6, u7, u8, u9, u10, u11, u12, u13, u14, u15, u16, u17, u18, u19, u20, u21, u22, u23, u24, u25, u26, u27, u28, u29, u30], defers := [] } ∧ T w' u l' ∧ Srt l' ∧ (∀ x ∈ l', x ∈ l) ∧ (has key l → has key l') ∧ l'.length = n ∧ n ≤ 100000

set_option maxHeartbeats 4000000 in
set_option maxRecDepth 100000 in
theorem find_any (w : World) (v : Value) (l : List It) (key : List Int) (xo : Option Addr) (m xc : Nat) (hT : T w v l) (hs : Srt l) (hx : Sl w xo m xc key) (hn : l.length ≤ 100000) :
    Calls Tryd.prog 31 #[v, .slice xo m xc] w (FoundV w l key) := by
  go_enter Tryd.func31, Tryd.ntmps31
  go_wp2
  refine wp_scope_dec 0 (FJ w l key xo m xc) l.length ?_ ?_
  · exact ⟨Below.refl _ _, v, _, _, _, _, _, _, _, _, _, _, _, _, _, _, _, _, _, _, _, _, _, _, _, _, _, l, rfl, hT, hs, fun x hx => hx, fun h => h, rfl, hn⟩
  · rintro n a' w' ⟨hB, u, u6, u7, u8, u9, u10, u11, u12, u13, u14, u15, u16, u17, u18, u19, u20, u21, u22, u23, u24, u25, u26, u27, u28, u29, u30, l', rfl, hT', hs', hsub, hhas, hlen, hn'⟩
    have HN : Hid (l'.length = n) := hlen
    have HH : Hid (has key l → has key l') := hhas
    have HU : Hid (∀ x ∈ l', x ∈ l) := hsub
    have hln : l'.length ≤ 100000 := by omega
    clear hlen hhas hsub hn'
    rcases hT'.is with ⟨rfl, rfl⟩ | ⟨d, segs, xs, rfl, h⟩
    · go_wp2
      simp only [Exit.jump]
      go_ret2
      refine ⟨none, 0, 0, false, rfl, by simp, fun _ => ⟨fun hk => ?_, rfl, rfl, rfl⟩, hB⟩
      obtain ⟨y, hy, -⟩ := HH.out hk
      simp at hy
    · have hm := h.many
      have hnk1 := Nat.le_of_eq h.nk
      have hnk2 := Nat.le_of_eq h.nk.symm
      have hnv1 := Nat.le_of_eq h.nv
      have hnv2 := Nat.le_of_eq h.nv.symm
      have hnc1 := Nat.le_of_eq h.nc
      have hnc2 := Nat.le_of_eq h.nc.symm
      have CP := place_any w' d h.ok xo m xc key (hx.below hB) (h.rise hs') (by omega)
      unfold Nd.ptr at CP ⊢
      go_wp2_with fail
      refine CP.mono ?_
      rintro e w1 ⟨i, b, rfl, hat, B1⟩
      have N1 := h.below B1
      have E1 : Below w.heap.size w w1 := hB.trans (B1.mono hB.size)
      obtain ⟨s, A, B, c, hA, hBB, hB2, hf⟩ := h.found hs' hat
      have hle := c.le
      clear CP
      cases b with
      | true =>
        obtain ⟨hi, he⟩ := hf rfl
        have hv : i < d.vs.length := by omega
        have hvi : (i : Int) < (d.vs.length : Int) := by omega
        have V1 := N1.ok.vl
        have c2 := N1.ok.c2
        obtain ⟨vb, vf, ev, hcell⟩ := V1.vl.at (by omega)
        have c1 := hcell i (by simpa using hv)
        have S1 := V1.sl d.vs[i] (List.getElem_mem hv)
        have hval := h.valAt i hv hi
        simp only [List.getElem_map] at c1
        rw [ev] at c2
        obtain ⟨q, hq⟩ : ∃ q, q = d.vs[i] := ⟨_, rfl⟩
        rw [← hq] at c1 S1 hval
        have HX : Hid (xs[i].k = key) := he
        have HV : Hid (q.xs = xs[i].v) := hval
        unfold Part.val at c1
        clear hq hcell he hval hf hB2 hat
        go_wp2
        simp only [Exit.jump]
        go_ret2
        refine ⟨q.ao, q.n, q.cap, true, rfl, fun _ => ⟨xs[i], HU.out _ (h.shp.key _ (List.getElem_mem hi)), HX.out, by rw [← HV.out]; exact S1⟩, by simp, E1⟩
      | false =>
        have hB3 := hB2 rfl
        obtain ⟨kb, ko, s', u', eco, hs1, hs2, hcell, hTk, hlen⟩ := N1.kidAt i hle
        obtain rfl : s = s' := Option.some.inj (c.seg.symm.trans hs1)
        have hss : Srt s := by
          have h1 := hs'
          rw [c.el] at h1
          exact h1.app.2.1.app.1
        have c3 := N1.ok.c3
        rw [eco] at c3
        have hii : (i : Int) < (d.cs.length : Int) := by omega
        obtain ⟨q, rfl⟩ := hTk.ptr
        have HK : Hid (has key l → has key s) := fun hk => by
          obtain ⟨y, hy, he⟩ := HH.out hk
          rw [c.el] at hy
          rcases List.mem_append.1 hy with hy | hy
          · exact absurd he (cmpL_lt_ne (hA y hy))
          · rcases List.mem_append.1 hy with hy | hy
            · exact ⟨y, hy, he⟩
            · exact absurd he.symm (cmpL_lt_ne (hB3 y hy))
        have HS : Hid (∀ x ∈ s, x ∈ l) := fun y hy => HU.out y (h.shp.seg _ (List.mem_of_getElem? c.seg) y hy)
        have hlN : s.length < n := by have := HN.out; omega
        clear hs1 hs2 hf hB2 hat eco HH HU
        go_wp2
        go_step3
        refine ⟨rfl, s.length, hlN, E1, _, _, _, _, _, _, _, _, _, _, _, _, _, _, _, _, _, _, _, _, _, _, _, _, _, _, s, rfl, hTk, hss, HS.out, HK.out, rfl, by omega⟩
end Go.Proofs.YtnicnfjickknjaaDoor

namespace Go.Proofs.YtnicnfjickknjaaDoor
open Go.RowKit

/-- The items whose keys are not below lo. -/
def ge (lo : List Int) (l : List It) : List It := l.filter fun x => decide (¬ cmpL x.k lo < 0)
theorem ge_append (lo : List Int) (a b : List It) : ge lo (a ++ b) = ge lo a ++ ge lo b := by simp [ge]
theorem ge_none {lo : List Int} {l : List It} (h : ∀ x ∈ l, cmpL x.k lo < 0) : ge lo l = [] := List.filter_eq_nil_iff.2 fun x hx => by simpa using h x hx
theorem ge_one {lo : List Int} {x : It} (h : ¬ cmpL x.k lo < 0) : ge lo [x] = [x] := by simp only [ge, List.filter_cons, decide_eq_true h, if_true, List.filter_nil]
/-- Went on, or was told to stop. -/
def BPost (b : Bool) (Q R : World → Prop) (w : World) : Prop := (b = true ∧ Q w) ∨ (b = false ∧ R w)
def WPost (Q R : World → Prop) (e : Ending) (w : World) : Prop := (e = .returned (.bool true) ∧ Q w) ∨ (e = .returned (.bool false) ∧ R w)

set_option maxHeartbeats 4000000 in
set_option maxRecDepth 100000 in
theorem walk_fuel (w0 : World) (g : Nat) (lb : Array Value) (eg : ∀ args w, (callFunc g args).run Tryd.prog w = .ok (.enter g args) w) (Iv : List It → World → Prop) (St : World → Prop) (ok : It → Prop) (F : List It)
    (hIb : ∀ pre W, Iv pre W → Below w0.heap.size w0 W) (hSb : ∀ W, St W → Below w0.heap.size w0 W) (hgr : ∀ pre W W', Iv pre W → Below W.heap.size W W' → Iv pre W')
    (lo : List Int) (xo : Option Addr) (m xc : Nat) (hx : Sl w0 xo m xc lo)
    (hand : ∀ pre W (k y : Part) (x : It), Iv pre W → ok x → (∃ post, pre ++ x :: post = F) → ¬ cmpL x.k lo < 0 → k.xs = x.k → y.xs = x.v → Sl W k.ao k.n k.cap k.xs → Sl W y.ao y.n y.cap y.xs → Calls Tryd.prog g (#[k.val, y.val] ++ lb) W (WPost (Iv (pre ++ [x])) St)) :
    ∀ (N : Nat) (l : List It) (v : Value) (pre post : List It) (W : World), l.length ≤ N → pre ++ (ge lo l ++ post) = F → T w0 v l → Srt l → (∀ x ∈ l, ok x) → l.length ≤ 100000 → Iv pre W → Calls Tryd.prog 34 #[v, .slice xo m xc, .func (.func g) #[] lb] W (WPost (Iv (pre ++ ge lo l)) St) := by
  intro N
  induction N with
  | zero =>
    intro l v pre post W hN hF hT hs hok hn hI
    rcases hT.is with ⟨rfl, rfl⟩ | ⟨d, segs, xs, rfl, h⟩
    · go_enter Tryd.func34, Tryd.ntmps34
      go_wp2
      go_ret
      exact .inl ⟨rfl, by simpa [ge] using hI⟩
    · have h1 := h.shp.pos
      have h2 := h.many
      omega
  | succ N ih =>
    intro l v pre post W hN hF hT hs hok hn hI
    rcases hT.is with ⟨rfl, rfl⟩ | ⟨d, segs, xs, rfl, h⟩
    · go_enter Tryd.func34, Tryd.ntmps34
      go_wp2
      go_ret
      exact .inl ⟨rfl, by simpa [ge] using hI⟩
    have HF : Hid (pre ++ (ge lo l ++ post) = F) := hF
    clear hF
    have hb := hIb _ _ hI
    have hm := h.many
    have hnk1 := Nat.le_of_eq h.nk
    have hnk2 := Nat.le_of_eq h.nk.symm
    have hnv1 := Nat.le_of_eq h.nv
    have hnv2 := Nat.le_of_eq h.nv.symm
    have hnc1 := Nat.le_of_eq h.nc
    have hnc2 := Nat.le_of_eq h.nc.symm
    have hpos := h.shp.pos
    have CP := place_any W d (h.ok.below hb) xo m xc lo (hx.below hb) (h.rise hs) (by omega)
    unfold Nd.ptr at CP ⊢
    go_enter Tryd.func34, Tryd.ntmps34
    go_wp2_with fail
    refine CP.mono ?_
    rintro e W1 ⟨i, b0, rfl, hat, B1⟩
    have hI := hgr _ _ _ hI B1
    obtain ⟨s0, A, B, c, hA, hB, -, -⟩ := h.found hs hat
    have hle := c.le
    have HI0 : Hid (ge lo (wvA (segs.take i) (xs.take i)) = []) := by show _ = _; rw [← c.eA]; exact ge_none hA
    have HHi : Hid (∀ j (hj : j < xs.length), i ≤ j → ¬ cmpL xs[j].k lo < 0) := fun j hj hij => by rw [← h.keyAt j (by omega) hj]; exact hat.hi j (by omega) hij
    clear CP hat c hA hB B1
    go_wp2_with fail
    go_loopw [7] (fun a wr => ∃ j : Nat, a = .int .i64 j ∧ i ≤ j ∧ j ≤ xs.length ∧ Iv (pre ++ ge lo (wvA (segs.take j) (xs.take j))) wr) (fun a _ => xs.length - (intOf a).toNat)
    case atStart => exact ⟨i, rfl, Nat.le_refl _, hle, by rw [HI0.out, List.append_nil]; exact hI⟩
    case round =>
      clear hI hb
      obtain ⟨j, rfl, hij, hj, hI⟩ := hrel
      have hb := hIb _ _ hI
      have Nr := h.below hb
      obtain ⟨cb, cf, s, u, eco, hs1, hs2, hcell, hTk, hlen⟩ := h.kidAt j hj
      obtain ⟨q, rfl⟩ := hTk.ptr
      have hsm : s ∈ segs := List.mem_of_getElem? hs1
      obtain ⟨ss, Aj, Bj, cj⟩ := h.shp.cut j hj
      obtain rfl : ss = s := Option.some.inj (cj.seg.symm.trans hs1)
      have hss : Srt ss := by
        have h1 := hs
        rw [cj.el] at h1
        exact h1.app.2.1.app.1
      have HFk : Hid (pre ++ ge lo (wvA (segs.take j) (xs.take j)) ++ (ge lo ss ++ (ge lo Bj ++ post)) = F) := by
        show _ = _
        rw [← HF.out, cj.el, cj.eA]
        simp only [ge_append, List.append_assoc]
      have CI : Hid (∀ V, Iv (pre ++ ge lo (wvA (segs.take j) (xs.take j))) V → Calls Tryd.prog 34 #[.pointer q, .slice xo m xc, .func (.func g) #[] lb] V (WPost (Iv (pre ++ ge lo (wvA (segs.take j) (xs.take j)) ++ ge lo ss)) St)) := fun V hV => ih ss (.pointer q) _ (ge lo Bj ++ post) V (by omega) HFk.out hTk hss (fun x hx => hok x (h.shp.seg _ hsm x hx)) (by omega) hV
      have hji : (j : Int) < (d.cs.length : Int) := by omega
      by_cases hlt : j < d.ks.length
      · have hlt' : (j : Int) < (d.ks.length : Int) := by omega
        have hlv : (j : Int) < (d.vs.length : Int) := by omega
        have hjx : j < xs.length := by omega
        have hjv : j < d.vs.length := by omega
        obtain ⟨ab, af, eak, hck⟩ := h.ok.kl.vl.at (by omega)
        obtain ⟨vb, vf, eav, hcv⟩ := h.ok.vl.vl.at (by omega)
        have ck := hck j (by simpa using hlt)
        have cv := hcv j (by simpa using hjv)
        have SK := h.ok.kl.sl d.ks[j] (List.getElem_mem hlt)
        have SV := h.ok.vl.sl d.vs[j] (List.getElem_mem hjv)
        have ek := h.keyAt j hlt hjx
        have ev := h.valAt j hjv hjx
        simp only [List.getElem_map] at ck cv
        obtain ⟨k, hk⟩ : ∃ k, k = d.ks[j] := ⟨_, rfl⟩
        obtain ⟨y, hy⟩ : ∃ y, y = d.vs[j] := ⟨_, rfl⟩
        rw [← hk] at ck SK ek
        rw [← hy] at cv SV ev
        have c1 := h.ok.c1
        have c2 := h.ok.c2
        have c3 := h.ok.c3
        rw [eak] at c1
        rw [eav] at c2
        rw [eco] at c3
        have c1r : wr.cell? ⟨d.b, 1, none⟩ = some (.slice (some ⟨ab, af, none⟩) d.ks.length d.kc) := (hb.cell (p := ⟨d.b, 1, none⟩) h.ok.lt).trans c1
        have HW : Hid (ge lo (wvA (segs.take (j + 1)) (xs.take (j + 1))) = ge lo (wvA (segs.take j) (xs.take j)) ++ ge lo ss ++ [xs[j]]) := by
          show _ = _
          have hjs : j < segs.length := by have := h.shp.len; omega
          have e1 : segs[j] = ss := by
            have := cj.seg
            rw [List.getElem?_eq_getElem hjs] at this
            exact Option.some.inj this
          have e2 : ge lo [xs[j]] = [xs[j]] := ge_one (by have := HHi.out j hjx hij; omega)
          rw [List.take_add_one, List.take_add_one, List.getElem?_eq_getElem hjs, List.getElem?_eq_getElem hjx, wvA_app _ _ _ _ (by simp; omega), e1]
          simp only [Option.toList_some, wvA, ge_append]
          have e3 : ge lo (xs[j] :: []) = [xs[j]] := e2
          rw [e3, List.append_assoc]
        have HFx : Hid (∃ p2, pre ++ ge lo (wvA (segs.take j) (xs.take j)) ++ ge lo ss ++ xs[j] :: p2 = F) := by
          obtain ⟨t, Q, -, -, -, -, hBe⟩ := cj.next hjx
          refine ⟨ge lo (t ++ weave ([] :: Q) (xs.drop (j + 1))) ++ post, ?_⟩
          have e2 : ge lo Bj = xs[j] :: ge lo (t ++ weave ([] :: Q) (xs.drop (j + 1))) := by
            rw [hBe, show xs[j] :: (t ++ weave ([] :: Q) (xs.drop (j + 1))) = [xs[j]] ++ (t ++ weave ([] :: Q) (xs.drop (j + 1))) from rfl, ge_append, ge_one (by have := HHi.out j hjx hij; omega)]
            rfl
          rw [← HFk.out, e2]
          simp
        have CH : Hid (∀ V, Iv (pre ++ ge lo (wvA (segs.take j) (xs.take j)) ++ ge lo ss) V → Calls Tryd.prog g ((#[Value.slice k.ao k.n k.cap, Value.slice y.ao y.n y.cap] : Array Value) ++ lb) V (WPost (Iv (pre ++ ge lo (wvA (segs.take (j + 1)) (xs.take (j + 1))))) St)) := by
          intro V hV
          rw [HW.out, ← List.append_assoc, ← List.append_assoc]
          exact hand _ V k y xs[j] hV (hok _ (h.shp.key _ (List.getElem_mem hjx))) HFx.out (by have := HHi.out j hjx hij; omega) ek ev (SK.below (hIb _ _ hV)) (SV.below (hIb _ _ hV))
        have CS : Hid (∀ V, Below w0.heap.size w0 V → V.cell? ⟨d.b, 1, none⟩ = some (.slice (some ⟨ab, af, none⟩) d.ks.length d.kc) ∧ V.cell? ⟨d.b, 2, none⟩ = some (.slice (some ⟨vb, vf, none⟩) d.vs.length d.vc) ∧ V.cell? ⟨d.b, 3, none⟩ = some (.slice (some ⟨cb, cf, none⟩) d.cs.length d.cc) ∧ V.cell? ⟨cb, cf + j, none⟩ = some (.pointer q) ∧ V.cell? ⟨ab, af + j, none⟩ = some (.slice k.ao k.n k.cap) ∧ V.cell? ⟨vb, vf + j, none⟩ = some (.slice y.ao y.n y.cap)) := by
          intro V hV
          unfold Part.val at ck cv
          exact ⟨(hV.cell (World.block_lt_of_cell? _ _ c1)).trans c1, (hV.cell (World.block_lt_of_cell? _ _ c2)).trans c2, (hV.cell (World.block_lt_of_cell? _ _ c3)).trans c3, (hV.cell (World.block_lt_of_cell? _ _ hcell)).trans hcell, (hV.cell (World.block_lt_of_cell? _ _ ck)).trans ck, (hV.cell (World.block_lt_of_cell? _ _ cv)).trans cv⟩
        clear hk hy ck cv SK SV ek ev c1 c2 c3 hck hcv eak eav eco hs1 hs2 hcell hTk cj hss HW ih hand
        go_wp2_with fail
        have hb0 : Below w0.heap.size w0 wr.drew := (hIb _ _ hI).drew
        have hI0 := hgr _ _ _ hI (Below.refl _ wr).drew
        refine wp_region_noPanic ?_
        refine wp_region_held_drew (S := fun V => V.cell? ⟨d.b, 1, none⟩ = some (.slice (some ⟨ab, af, none⟩) d.ks.length d.kc) ∧ V.cell? ⟨d.b, 2, none⟩ = some (.slice (some ⟨vb, vf, none⟩) d.vs.length d.vc) ∧ V.cell? ⟨d.b, 3, none⟩ = some (.slice (some ⟨cb, cf, none⟩) d.cs.length d.cc) ∧ V.cell? ⟨cb, cf + j, none⟩ = some (.pointer q) ∧ V.cell? ⟨ab, af + j, none⟩ = some (.slice k.ao k.n k.cap) ∧ V.cell? ⟨vb, vf + j, none⟩ = some (.slice y.ao y.n y.cap)) (by kernel_rfl) (CS.out _ hb0) (fun aH0 => ?_)
        obtain ⟨v0, hv0⟩ : ∃ v, v = wr.drew := ⟨_, rfl⟩
        rw [← hv0] at aH0 hI0 ⊢
        clear hv0 hI hb0
        refine hr_take_w 0 (some 26) (.pointer (some ⟨d.b, 0, none⟩)) rfl rfl (by kernel_rfl) (by kernel_rfl) (by kernel_rfl) rfl (fun W hW => by obtain ⟨h0, h1, h2, h3, h4, h5⟩ := hW; go_simp) aH0 ?_
        simp only [Act.put, List.setIfInBounds_toArray, List.set_cons_zero, List.set_cons_succ]
        refine hr_take_w 1 (some 27) (.pointer (some ⟨d.b, 0, none⟩)) rfl rfl (by kernel_rfl) (by kernel_rfl) (by kernel_rfl) rfl (fun W hW => by obtain ⟨h0, h1, h2, h3, h4, h5⟩ := hW; go_simp) aH0 ?_
        simp only [Act.put, List.setIfInBounds_toArray, List.set_cons_zero, List.set_cons_succ]
        refine hr_take_w 2 (some 28) (.pointer (some ⟨d.b, 3, none⟩)) rfl rfl (by kernel_rfl) (by kernel_rfl) (by kernel_rfl) rfl (fun W hW => by obtain ⟨h0, h1, h2, h3, h4, h5⟩ := hW; go_simp) aH0 ?_
        simp only [Act.put, List.setIfInBounds_toArray, List.set_cons_zero, List.set_cons_succ]
        refine hr_take_w 3 (some 29) (.slice (some ⟨cb, cf, none⟩) d.cs.length d.cc) rfl rfl (by kernel_rfl) (by kernel_rfl) (by kernel_rfl) rfl (fun W hW => by obtain ⟨h0, h1, h2, h3, h4, h5⟩ := hW; go_simp) aH0 ?_
        simp only [Act.put, List.setIfInBounds_toArray, List.set_cons_zero, List.set_cons_succ]
        refine hr_take_w 4 (some 30) (.int .i64 j) rfl rfl (by kernel_rfl) (by kernel_rfl) (by kernel_rfl) rfl (fun W hW => by obtain ⟨h0, h1, h2, h3, h4, h5⟩ := hW; go_simp) aH0 ?_
        simp only [Act.put, List.setIfInBounds_toArray, List.set_cons_zero, List.set_cons_succ]
        refine hr_take_w 5 (some 31) (.pointer (some ⟨cb, cf + j, none⟩)) rfl rfl (by kernel_rfl) (by kernel_rfl) (by kernel_rfl) rfl (fun W hW => by obtain ⟨h0, h1, h2, h3, h4, h5⟩ := hW; go_simp) aH0 ?_
        simp only [Act.put, List.setIfInBounds_toArray, List.set_cons_zero, List.set_cons_succ]
        refine hr_take_w 6 (some 32) (.pointer q) rfl rfl (by kernel_rfl) (by kernel_rfl) (by kernel_rfl) rfl (fun W hW => by obtain ⟨h0, h1, h2, h3, h4, h5⟩ := hW; go_simp) aH0 ?_
        simp only [Act.put, List.setIfInBounds_toArray, List.set_cons_zero, List.set_cons_succ]
        refine hr_take_w 7 (some 33) (.slice xo m xc) rfl rfl (by kernel_rfl) (by kernel_rfl) (by kernel_rfl) rfl (fun W hW => by obtain ⟨h0, h1, h2, h3, h4, h5⟩ := hW; go_simp) aH0 ?_
        simp only [Act.put, List.setIfInBounds_toArray, List.set_cons_zero, List.set_cons_succ]
        refine hr_take_w 8 (some 34) (.func (.func g) #[] lb) rfl rfl (by kernel_rfl) (by kernel_rfl) (by kernel_rfl) rfl (fun W hW => by obtain ⟨h0, h1, h2, h3, h4, h5⟩ := hW; go_simp) aH0 ?_
        simp only [Act.put, List.setIfInBounds_toArray, List.set_cons_zero, List.set_cons_succ]
        refine hr_call_w 9 (some 35) 34 #[.pointer q, .slice xo m xc, .func (.func g) #[] lb] rfl rfl (by kernel_rfl) rfl (by go_simp) (fun v w' => ∃ b, v = .bool b ∧ BPost b (Iv (pre ++ ge lo (wvA (segs.take j) (xs.take j)) ++ ge lo ss)) St w') ((CI.out v0 hI0).mono (by
          rintro e w' (⟨rfl, h⟩ | ⟨rfl, h⟩)
          · exact ⟨_, rfl, true, rfl, .inl ⟨rfl, h⟩⟩
          · exact ⟨_, rfl, false, rfl, .inr ⟨rfl, h⟩⟩)) ?_
        rintro v v1 ⟨b, rfl, hP⟩
        have hb1 : Below w0.heap.size w0 v1 := by
          rcases hP with ⟨-, h⟩ | ⟨-, h⟩
          · exact hIb _ _ h
          · exact hSb _ h
        have aH1 := CS.out v1 hb1
        refine ⟨aH1, ?_⟩
        simp only [Act.put, List.setIfInBounds_toArray, List.set_cons_zero, List.set_cons_succ]
        clear hI0 CI
        cases b with
        | false =>
          refine hr_take_w 10 (some 36) (.bool true) rfl rfl (by kernel_rfl) (by kernel_rfl) (by kernel_rfl) rfl (fun W hW => by obtain ⟨h0, h1, h2, h3, h4, h5⟩ := hW; go_simp) aH1 ?_
          simp only [Act.put, List.setIfInBounds_toArray, List.set_cons_zero, List.set_cons_succ]
          refine hr_take_w 11 (some 37) (.bool true) rfl rfl (by kernel_rfl) (by kernel_rfl) (by kernel_rfl) rfl (fun W hW => by obtain ⟨h0, h1, h2, h3, h4, h5⟩ := hW; go_simp) aH1 ?_
          simp only [Act.put, List.setIfInBounds_toArray, List.set_cons_zero, List.set_cons_succ]
          refine hr_none 12 (some 38) rfl rfl (by kernel_rfl) (by kernel_rfl) (by kernel_rfl) rfl aH1 ?_
          simp only [Act.put, List.setIfInBounds_toArray, List.set_cons_zero, List.set_cons_succ]
          refine hr_none 13 (some 39) rfl rfl (by kernel_rfl) (by kernel_rfl) (by kernel_rfl) rfl aH1 ?_
          simp only [Act.put, List.setIfInBounds_toArray, List.set_cons_zero, List.set_cons_succ]
          refine hr_none 14 (some 40) rfl rfl (by kernel_rfl) (by kernel_rfl) (by kernel_rfl) rfl aH1 ?_
          simp only [Act.put, List.setIfInBounds_toArray, List.set_cons_zero, List.set_cons_succ]
          refine hr_none 15 (some 41) rfl rfl (by kernel_rfl) (by kernel_rfl) (by kernel_rfl) rfl aH1 ?_
          simp only [Act.put, List.setIfInBounds_toArray, List.set_cons_zero, List.set_cons_succ]
          refine hr_none 16 (some 42) rfl rfl (by kernel_rfl) (by kernel_rfl) (by kernel_rfl) rfl aH1 ?_
          simp only [Act.put, List.setIfInBounds_toArray, List.set_cons_zero, List.set_cons_succ]
          refine hr_none 17 (some 43) rfl rfl (by kernel_rfl) (by kernel_rfl) (by kernel_rfl) rfl aH1 ?_
          simp only [Act.put, List.setIfInBounds_toArray, List.set_cons_zero, List.set_cons_succ]
          refine hr_none 18 (some 44) rfl rfl (by kernel_rfl) (by kernel_rfl) (by kernel_rfl) rfl aH1 ?_
          simp only [Act.put, List.setIfInBounds_toArray, List.set_cons_zero, List.set_cons_succ]
          refine hr_none 19 (some 45) rfl rfl (by kernel_rfl) (by kernel_rfl) (by kernel_rfl) rfl aH1 ?_
          simp only [Act.put, List.setIfInBounds_toArray, List.set_cons_zero, List.set_cons_succ]
          refine hr_none 20 (some 46) rfl rfl (by kernel_rfl) (by kernel_rfl) (by kernel_rfl) rfl aH1 ?_
          simp only [Act.put, List.setIfInBounds_toArray, List.set_cons_zero, List.set_cons_succ]
          refine hr_none 21 (some 47) rfl rfl (by kernel_rfl) (by kernel_rfl) (by kernel_rfl) rfl aH1 ?_
          simp only [Act.put, List.setIfInBounds_toArray, List.set_cons_zero, List.set_cons_succ]
          refine hr_none 22 (some 48) rfl rfl (by kernel_rfl) (by kernel_rfl) (by kernel_rfl) rfl aH1 ?_
          simp only [Act.put, List.setIfInBounds_toArray, List.set_cons_zero, List.set_cons_succ]
          refine hr_none 23 (some 49) rfl rfl (by kernel_rfl) (by kernel_rfl) (by kernel_rfl) rfl aH1 ?_
          simp only [Act.put, List.setIfInBounds_toArray, List.set_cons_zero, List.set_cons_succ]
          refine hr_none 24 (some 50) rfl rfl (by kernel_rfl) (by kernel_rfl) (by kernel_rfl) rfl aH1 ?_
          simp only [Act.put, List.setIfInBounds_toArray, List.set_cons_zero, List.set_cons_succ]
          refine hr_none 25 (some 51) rfl rfl (by kernel_rfl) (by kernel_rfl) (by kernel_rfl) rfl aH1 ?_
          simp only [Act.put, List.setIfInBounds_toArray, List.set_cons_zero, List.set_cons_succ]
          refine hr_none 26 (some 52) rfl rfl (by kernel_rfl) (by kernel_rfl) (by kernel_rfl) rfl aH1 ?_
          simp only [Act.put, List.setIfInBounds_toArray, List.set_cons_zero, List.set_cons_succ]
          refine hr_none 27 (some 53) rfl rfl (by kernel_rfl) (by kernel_rfl) (by kernel_rfl) rfl aH1 ?_
          simp only [Act.put, List.setIfInBounds_toArray, List.set_cons_zero, List.set_cons_succ]
          refine hr_none 28 (some 54) rfl rfl (by kernel_rfl) (by kernel_rfl) (by kernel_rfl) rfl aH1 ?_
          simp only [Act.put, List.setIfInBounds_toArray, List.set_cons_zero, List.set_cons_succ]
          refine hr_take_w 29 (some 55) (.bool true) rfl rfl (by kernel_rfl) (by kernel_rfl) (by kernel_rfl) rfl (fun W hW => by obtain ⟨h0, h1, h2, h3, h4, h5⟩ := hW; go_simp) aH1 ?_
          simp only [Act.put, List.setIfInBounds_toArray, List.set_cons_zero, List.set_cons_succ]
          refine wpAnyH_done (by kernel_rfl) ?_ _
          refine NoPanic.normal ?_
          have hS1 : St v1 := by
            rcases hP with ⟨h, -⟩ | ⟨-, h⟩
            · simp at h
            · exact h
          clear hP CH
          go_wp2
          go_ret
          exact .inr ⟨rfl, hS1⟩
        | true =>
          refine hr_take_w 10 (some 36) (.bool false) rfl rfl (by kernel_rfl) (by kernel_rfl) (by kernel_rfl) rfl (fun W hW => by obtain ⟨h0, h1, h2, h3, h4, h5⟩ := hW; go_simp) aH1 ?_
          simp only [Act.put, List.setIfInBounds_toArray, List.set_cons_zero, List.set_cons_succ]
          refine hr_take_w 11 (some 37) (.bool false) rfl rfl (by kernel_rfl) (by kernel_rfl) (by kernel_rfl) rfl (fun W hW => by obtain ⟨h0, h1, h2, h3, h4, h5⟩ := hW; go_simp) aH1 ?_
          simp only [Act.put, List.setIfInBounds_toArray, List.set_cons_zero, List.set_cons_succ]
          refine hr_take_w 12 (some 38) (.func (.func g) #[] lb) rfl rfl (by kernel_rfl) (by kernel_rfl) (by kernel_rfl) rfl (fun W hW => by obtain ⟨h0, h1, h2, h3, h4, h5⟩ := hW; go_simp) aH1 ?_
          simp only [Act.put, List.setIfInBounds_toArray, List.set_cons_zero, List.set_cons_succ]
          refine hr_take_w 13 (some 39) (.pointer (some ⟨d.b, 0, none⟩)) rfl rfl (by kernel_rfl) (by kernel_rfl) (by kernel_rfl) rfl (fun W hW => by obtain ⟨h0, h1, h2, h3, h4, h5⟩ := hW; go_simp) aH1 ?_
          simp only [Act.put, List.setIfInBounds_toArray, List.set_cons_zero, List.set_cons_succ]
          refine hr_take_w 14 (some 40) (.pointer (some ⟨d.b, 0, none⟩)) rfl rfl (by kernel_rfl) (by kernel_rfl) (by kernel_rfl) rfl (fun W hW => by obtain ⟨h0, h1, h2, h3, h4, h5⟩ := hW; go_simp) aH1 ?_
          simp only [Act.put, List.setIfInBounds_toArray, List.set_cons_zero, List.set_cons_succ]
          refine hr_take_w 15 (some 41) (.pointer (some ⟨d.b, 1, none⟩)) rfl rfl (by kernel_rfl) (by kernel_rfl) (by kernel_rfl) rfl (fun W hW => by obtain ⟨h0, h1, h2, h3, h4, h5⟩ := hW; go_simp) aH1 ?_
          simp only [Act.put, List.setIfInBounds_toArray, List.set_cons_zero, List.set_cons_succ]
          refine hr_take_w 16 (some 42) (.slice (some ⟨ab, af, none⟩) d.ks.length d.kc) rfl rfl (by kernel_rfl) (by kernel_rfl) (by kernel_rfl) rfl (fun W hW => by obtain ⟨h0, h1, h2, h3, h4, h5⟩ := hW; go_simp) aH1 ?_
          simp only [Act.put, List.setIfInBounds_toArray, List.set_cons_zero, List.set_cons_succ]
          refine hr_take_w 17 (some 43) (.int .i64 j) rfl rfl (by kernel_rfl) (by kernel_rfl) (by kernel_rfl) rfl (fun W hW => by obtain ⟨h0, h1, h2, h3, h4, h5⟩ := hW; go_simp) aH1 ?_
          simp only [Act.put, List.setIfInBounds_toArray, List.set_cons_zero, List.set_cons_succ]
          refine hr_take_w 18 (some 44) (.pointer (some ⟨ab, af + j, none⟩)) rfl rfl (by kernel_rfl) (by kernel_rfl) (by kernel_rfl) rfl (fun W hW => by obtain ⟨h0, h1, h2, h3, h4, h5⟩ := hW; go_simp) aH1 ?_
          simp only [Act.put, List.setIfInBounds_toArray, List.set_cons_zero, List.set_cons_succ]
          refine hr_take_w 19 (some 45) (.slice k.ao k.n k.cap) rfl rfl (by kernel_rfl) (by kernel_rfl) (by kernel_rfl) rfl (fun W hW => by obtain ⟨h0, h1, h2, h3, h4, h5⟩ := hW; go_simp) aH1 ?_
          simp only [Act.put, List.setIfInBounds_toArray, List.set_cons_zero, List.set_cons_succ]
          refine hr_take_w 20 (some 46) (.pointer (some ⟨d.b, 0, none⟩)) rfl rfl (by kernel_rfl) (by kernel_rfl) (by kernel_rfl) rfl (fun W hW => by obtain ⟨h0, h1, h2, h3, h4, h5⟩ := hW; go_simp) aH1 ?_
          simp only [Act.put, List.setIfInBounds_toArray, List.set_cons_zero, List.set_cons_succ]
          refine hr_take_w 21 (some 47) (.pointer (some ⟨d.b, 0, none⟩)) rfl rfl (by kernel_rfl) (by kernel_rfl) (by kernel_rfl) rfl (fun W hW => by obtain ⟨h0, h1, h2, h3, h4, h5⟩ := hW; go_simp) aH1 ?_
          simp only [Act.put, List.setIfInBounds_toArray, List.set_cons_zero, List.set_cons_succ]
          refine hr_take_w 22 (some 48) (.pointer (some ⟨d.b, 2, none⟩)) rfl rfl (by kernel_rfl) (by kernel_rfl) (by kernel_rfl) rfl (fun W hW => by obtain ⟨h0, h1, h2, h3, h4, h5⟩ := hW; go_simp) aH1 ?_
          simp only [Act.put, List.setIfInBounds_toArray, List.set_cons_zero, List.set_cons_succ]
          refine hr_take_w 23 (some 49) (.slice (some ⟨vb, vf, none⟩) d.vs.length d.vc) rfl rfl (by kernel_rfl) (by kernel_rfl) (by kernel_rfl) rfl (fun W hW => by obtain ⟨h0, h1, h2, h3, h4, h5⟩ := hW; go_simp) aH1 ?_
          simp only [Act.put, List.setIfInBounds_toArray, List.set_cons_zero, List.set_cons_succ]
          refine hr_take_w 24 (some 50) (.int .i64 j) rfl rfl (by kernel_rfl) (by kernel_rfl) (by kernel_rfl) rfl (fun W hW => by obtain ⟨h0, h1, h2, h3, h4, h5⟩ := hW; go_simp) aH1 ?_
          simp only [Act.put, List.setIfInBounds_toArray, List.set_cons_zero, List.set_cons_succ]
          refine hr_take_w 25 (some 51) (.pointer (some ⟨vb, vf + j, none⟩)) rfl rfl (by kernel_rfl) (by kernel_rfl) (by kernel_rfl) rfl (fun W hW => by obtain ⟨h0, h1, h2, h3, h4, h5⟩ := hW; go_simp) aH1 ?_
          simp only [Act.put, List.setIfInBounds_toArray, List.set_cons_zero, List.set_cons_succ]
          refine hr_take_w 26 (some 52) (.slice y.ao y.n y.cap) rfl rfl (by kernel_rfl) (by kernel_rfl) (by kernel_rfl) rfl (fun W hW => by obtain ⟨h0, h1, h2, h3, h4, h5⟩ := hW; go_simp) aH1 ?_
          simp only [Act.put, List.setIfInBounds_toArray, List.set_cons_zero, List.set_cons_succ]
          have hI1 : Iv (pre ++ ge lo (wvA (segs.take j) (xs.take j)) ++ ge lo ss) v1 := by
            rcases hP with ⟨-, h⟩ | ⟨h, -⟩
            · exact h
            · simp at h
          refine hr_call_w 27 (some 53) g ((#[Value.slice k.ao k.n k.cap, Value.slice y.ao y.n y.cap] : Array Value) ++ lb) rfl rfl (by kernel_rfl) rfl (by go_simp) (fun v w' => ∃ b, v = .bool b ∧ BPost b (Iv (pre ++ ge lo (wvA (segs.take (j + 1)) (xs.take (j + 1))))) St w') ((CH.out v1 hI1).mono (by
            rintro e w' (⟨rfl, h⟩ | ⟨rfl, h⟩)
            · exact ⟨_, rfl, true, rfl, .inl ⟨rfl, h⟩⟩
            · exact ⟨_, rfl, false, rfl, .inr ⟨rfl, h⟩⟩)) ?_
          rintro v v2 ⟨b, rfl, hP2⟩
          have hb2 : Below w0.heap.size w0 v2 := by
            rcases hP2 with ⟨-, h⟩ | ⟨-, h⟩
            · exact hIb _ _ h
            · exact hSb _ h
          have aH2 := CS.out v2 hb2
          refine ⟨aH2, ?_⟩
          simp only [Act.put, List.setIfInBounds_toArray, List.set_cons_zero, List.set_cons_succ]
          clear hI1 CH hP
          cases b with
          | false =>
            refine hr_take_w 28 (some 54) (.bool true) rfl rfl (by kernel_rfl) (by kernel_rfl) (by kernel_rfl) rfl (fun W hW => by obtain ⟨h0, h1, h2, h3, h4, h5⟩ := hW; go_simp) aH2 ?_
            simp only [Act.put, List.setIfInBounds_toArray, List.set_cons_zero, List.set_cons_succ]
            refine hr_take_w 29 (some 55) (.bool true) rfl rfl (by kernel_rfl) (by kernel_rfl) (by kernel_rfl) rfl (fun W hW => by obtain ⟨h0, h1, h2, h3, h4, h5⟩ := hW; go_simp) aH2 ?_
            simp only [Act.put, List.setIfInBounds_toArray, List.set_cons_zero, List.set_cons_succ]
            refine wpAnyH_done (by kernel_rfl) ?_ _
            refine NoPanic.normal ?_
            have hS1 : St v2 := by
              rcases hP2 with ⟨h, -⟩ | ⟨-, h⟩
              · simp at h
              · exact h
            clear hP2
            go_wp2
            go_ret
            exact .inr ⟨rfl, hS1⟩
          | true =>
            refine hr_take_w 28 (some 54) (.bool false) rfl rfl (by kernel_rfl) (by kernel_rfl) (by kernel_rfl) rfl (fun W hW => by obtain ⟨h0, h1, h2, h3, h4, h5⟩ := hW; go_simp) aH2 ?_
            simp only [Act.put, List.setIfInBounds_toArray, List.set_cons_zero, List.set_cons_succ]
            refine hr_take_w 29 (some 55) (.bool false) rfl rfl (by kernel_rfl) (by kernel_rfl) (by kernel_rfl) rfl (fun W hW => by obtain ⟨h0, h1, h2, h3, h4, h5⟩ := hW; go_simp) aH2 ?_
            simp only [Act.put, List.setIfInBounds_toArray, List.set_cons_zero, List.set_cons_succ]
            refine wpAnyH_done (by kernel_rfl) ?_ _
            refine NoPanic.normal ?_
            have hI2 : Iv (pre ++ ge lo (wvA (segs.take (j + 1)) (xs.take (j + 1)))) v2 := by
              rcases hP2 with ⟨-, h⟩ | ⟨h, -⟩
              · exact h
              · simp at h
            clear hP2
            go_wp2
            go_roundw
            case rel => exact ⟨j + 1, by go_num, by omega, by omega, hI2⟩
            case measure => simp [intOf]; omega
      · have hlt' : ¬ (j : Int) < (d.ks.length : Int) := by omega
        have c1 := Nr.ok.c1
        have c3 := Nr.ok.c3
        rw [eco] at c3
        have cc : wr.cell? ⟨cb, cf + j, none⟩ = some (.pointer q) := (hb.cell (World.block_lt_of_cell? _ _ hcell)).trans hcell
        have HX : Hid (pre ++ ge lo (wvA (segs.take j) (xs.take j)) ++ ge lo ss = pre ++ ge lo l) := by
          show _ = _
          have hd : xs.drop j = [] := List.drop_eq_nil_of_le (by omega)
          have e1 : Bj = [] := by rw [cj.eB, hd]; rfl
          rw [List.append_assoc, ← ge_append, ← cj.eA, cj.el, e1, List.append_nil]
        have CF := CI.out wr hI
        rw [HX.out] at CF
        clear hcell hTk cj ih hand CI HX eco hs1 hs2
        go_wp2_with fail
        refine CF.mono ?_
        rintro e W' (⟨rfl, h⟩ | ⟨rfl, h⟩)
        · go_wp2
          go_ret
          exact .inl ⟨rfl, h⟩
        · go_wp2
          go_ret
          exact .inr ⟨rfl, h⟩
end Go.Proofs.YtnicnfjickknjaaDoor

namespace Go.Proofs.YtnicnfjickknjaaDoor
open Go.RowKit

theorem arr_not_row {w : World} {p : Nat} {t e : TypeId} {cs : List Value} (h : Arr w p t cs) (hte : t ≠ e) {base size k : Nat} {v : Value} {xs : List Value} (hr : w.ownsRow base e size v k xs) : v.ownBlock ≠ some p := by
  rcases hr.2 with ⟨rfl, _⟩ | ⟨g, cap, cur, rfl, _, hgb, _⟩
  · simp [Value.ownBlock]
  · intro e'
    obtain rfl : g = p := by simpa [Value.ownBlock] using e'
    have := (show w.heap[g]? = _ from h).symm.trans hgb
    simp at this
    exact hte this.2
theorem own_below {w w' : World} {base : Nat} {e : TypeId} {size : Nat} {v : Value} {n : Nat} {xs : List Value} (h : w.ownsRow base e size v n xs) (hb : Below w.heap.size w w') : w'.ownsRow base e size v n xs :=
  h.kept (row := none) ⟨hb.os, hb.tape, hb.output, hb.size, fun k hk _ => hb.block k hk⟩ (by cases v.ownBlock <;> simp)
theorem arr_below {w w' : World} {p : Nat} {t : TypeId} {cs : List Value} (h : Arr w p t cs) (hb : Below w.heap.size w w') : Arr w' p t cs := (hb.block p h.lt).trans h
/-- Behind an append to a row of a field's own, and the store of what it yields. -/
theorem arr_put {w w1 : World} {p base : Nat} {t e : TypeId} {cs : List Value} {size k m : Nat} {v v' : Value} {xs ys : List Value} (h : Arr w p t cs) (hte : t ≠ e) (hr : w.ownsRow base e size v k xs) (hb : base ≤ w.heap.size) (hp : base ≤ p)
    (hr' : w1.ownsRow base e size v' m ys) (hg : w.grownBy w1 v.ownBlock) (j : Nat) :
    Arr w1 p t cs ∧ Arr (w1.setCell ⟨p, j, none⟩ v') p t (cs.set j v') ∧ (w1.setCell ⟨p, j, none⟩ v').ownsRow base e size v' m ys ∧ Below base w (w1.setCell ⟨p, j, none⟩ v') := by
  have hne := arr_not_row h hte hr
  have h1 : Arr w1 p t cs := h.grown hg (fun e => hne e.symm)
  refine ⟨h1, h1.set j v', ?_, ?_⟩
  · refine hr'.kept (row := some p) (grown_set (a := w1) (b := w1) ⟨rfl, rfl, rfl, Nat.le_refl _, fun _ _ _ => rfl⟩ j v') (.inr (arr_not_row h1 hte hr'))
  · refine ((Below.refl base w).grown hg hb (fun k hk => (hr.lt k hk).1)).setCell hp v'
end Go.Proofs.YtnicnfjickknjaaDoor

namespace Go.Proofs.YtnicnfjickknjaaDoor
open Go.RowKit

theorem ge_nil (l : List It) : ge [] l = l := List.filter_eq_self.2 fun x _ => decide_eq_true (by have := cmpL_nil x.k; omega)
set_option maxHeartbeats 400000 in
set_option maxRecDepth 100000 in
theorem shared_at (w W : World) (v : Value) (l : List It) (h : TT w v l) (hb : Below w.heap.size w W) : Calls Tryd.prog 27 #[v] W fun e w' => ∃ po, e = .returned (.pointer po) ∧ T w (.pointer po) l ∧ w' = W := by
  rcases h with ⟨rfl, rfl⟩ | ⟨b, u, rfl, hc, ht, hl⟩
  · go_enter Tryd.func27, Tryd.ntmps27
    go_wp2
    go_ret
    exact ⟨_, rfl, T.nil _, rfl⟩
  · obtain ⟨po, rfl⟩ := ht.ptr
    have hc2 := (hb.cell (World.block_lt_of_cell? _ _ hc)).trans hc
    go_enter Tryd.func27, Tryd.ntmps27
    go_wp2
    go_ret
    exact ⟨_, rfl, ht, rfl⟩
/-- The count. -/
def CntI (w : World) (p : Nat) (pre : List It) (W : World) : Prop := Below w.heap.size w W ∧ Arr W p 3 [.int .i64 pre.length] ∧ pre.length ≤ 100000 ∧ w.heap.size ≤ p

set_option maxHeartbeats 1000000 in
set_option maxRecDepth 100000 in
theorem cnt_any (w : World) (p : Nat) (pre : List It) (W : World) (k y : Value) (x : It) (h : CntI w p pre W) (hl : pre.length + 1 ≤ 100000) :
    Calls Tryd.prog 35 (#[k, y] ++ #[.pointer (some ⟨p, 0, none⟩)]) W (WPost (CntI w p (pre ++ [x])) fun _ => False) := by
  obtain ⟨hb, ha, -, hp⟩ := h
  have c0 := ha.cell 0
  have f0 := ha.free 0
  have hli : (pre.length : Int) + 1 ≤ 100000 := by omega
  have hs := ha.set 0 (.int .i64 ((pre.length : Int) + 1))
  have hB := hb.setCell (p := ⟨p, 0, none⟩) hp (.int .i64 ((pre.length : Int) + 1))
  go_enter Tryd.func35, Tryd.ntmps35
  go_wp2
  go_ret
  refine .inl ⟨rfl, hB, ?_, by simpa using hl, hp⟩
  rw [List.length_append, List.length_singleton, Int.natCast_add]
  exact hs

set_option maxHeartbeats 1000000 in
set_option maxRecDepth 100000 in
theorem len_any (w : World) (v : Value) (l : List It) (h : TT w v l) (hs : Srt l) (hn : l.length ≤ 50000) :
    Calls Tryd.prog 13 #[v] w fun e w' => e = .returned (.int .i64 l.length) ∧ Below w.heap.size w w' := by
  obtain ⟨W0, hW0⟩ : ∃ W, W = w.alloc (.cells #[.int .i64 0] 3) := ⟨_, rfl⟩
  have B0 : Below w.heap.size w W0 := by rw [hW0]; exact (Below.refl _ w).alloc (Nat.le_refl _) _
  have A0 : Arr W0 w.heap.size 3 [.int .i64 0] := by rw [hW0]; exact heap_alloc_new w _
  have CS := shared_at w W0 v l h B0
  obtain ⟨po, rfl⟩ := h.ptr
  go_enter Tryd.func13, Tryd.ntmps13
  go_wp2_with fail
  rw [← hW0]
  clear hW0
  refine CS.mono ?_
  rintro e w1 ⟨q, rfl, hT, hw1⟩
  obtain rfl := hw1.symm
  have CW := walk_fuel w 35 #[.pointer (some ⟨w.heap.size, 0, none⟩)] (enters_of Tryd.func35 (by kernel_rfl) rfl) (CntI w w.heap.size) (fun _ => False) (fun _ => True) l
    (fun _ _ h => h.1) (fun _ h => h.elim) (fun pre W W' h hb => ⟨h.1.trans (hb.mono h.1.size), arr_below h.2.1 hb, h.2.2⟩) [] none 0 0 (Sl.nothing w)
    (fun pre W k y x hI _ hF _ _ _ _ _ => cnt_any w w.heap.size pre W k.val y.val x hI (by
      obtain ⟨post, e⟩ := hF
      have := congrArg List.length e
      simp only [List.length_append, List.length_cons] at this
      omega))
    l.length l (.pointer q) [] [] W0 (Nat.le_refl _) (by rw [ge_nil]; simp) hT hs (fun _ _ => trivial) (by omega) ⟨B0, A0, by simp, Nat.le_refl _⟩
  rw [List.nil_append, ge_nil] at CW
  clear CS hT
  go_wp2_with fail
  refine CW.mono ?_
  rintro e w2 (⟨rfl, hb, ha, -, -⟩ | ⟨-, hf⟩)
  · have c0 := ha.cell 0
    go_wp2
    go_ret
    exact ⟨rfl, hb⟩
  · exact hf.elim
end Go.Proofs.YtnicnfjickknjaaDoor

namespace Go.Proofs.YtnicnfjickknjaaDoor
open Go.RowKit

theorem sb_drop (t : ByteArray) : sb (t.extract 1 t.size) = (sb t).drop 1 := by
  unfold sb
  rw [ByteArray.data_extract, Array.toList_extract]
  simp
  refine List.take_of_length_le ?_
  rw [List.length_tail, List.length_map, Array.length_toList]
  exact Nat.le_refl _

set_option maxHeartbeats 1000000 in
set_option maxRecDepth 100000 in
theorem trimB_any (w : World) (s : ByteArray) (hs : s.size ≤ 1000000) :
    Calls Tryd.prog 70 #[.string s, .int .u8 48] w fun e w' => ∃ t, e = .returned (.string t) ∧ sb t = (sb s).dropWhile (fun c => c == 48) ∧ w' = w := by
  go_enter Tryd.func70, Tryd.ntmps70
  go_wp2
  go_loopw [0] (fun a wr => ∃ t : ByteArray, a = .string t ∧ t.size ≤ s.size ∧ wr = w ∧ (sb t).dropWhile (fun c => c == 48) = (sb s).dropWhile (fun c => c == 48)) (fun a _ => match a with | .string t => t.size | _ => 0)
  case atStart => exact ⟨s, rfl, Nat.le_refl _, rfl, rfl⟩
  case round =>
    obtain ⟨t, rfl, hle, rfl, hd⟩ := hrel
    have HD : Hid ((sb t).dropWhile (fun c => c == 48) = (sb s).dropWhile (fun c => c == 48)) := hd
    clear hd
    by_cases h0 : 0 < t.size
    · have h0' : (0 : Int) < (t.size : Int) := by omega
      have hat := sb_at t 0 h0
      rw [List.drop_zero, Nat.zero_add] at hat
      by_cases h1 : (t[0].toNat : Int) = 48
      · have hb : ((t[0].toNat : Int) == 48) = true := by simpa using h1
        have HE : Hid (sb t = (t[0].toNat : Int) :: (sb t).drop 1) := hat
        have H1 : Hid ((t[0].toNat : Int) = 48) := h1
        clear hat h1
        go_wp2
        refine ⟨⟨_, rfl, ?_, trivial, ?_⟩, ?_⟩
        · simp only [ByteArray.size_extract]
          omega
        · rw [sb_drop, ← HD.out]
          conv => rhs; rw [HE.out, H1.out]
          simp
        · simp only [ByteArray.size_extract]
          omega
      · have hb : ((t[0].toNat : Int) == 48) = false := by simpa using h1
        have HE : Hid ((sb t).dropWhile (fun c => c == 48) = sb t) := by
          show _ = _
          rw [hat, List.dropWhile_cons, hb]
          rfl
        clear hat h1
        go_wp2
        go_ret
        exact ⟨t, rfl, by rw [← HD.out, HE.out], rfl⟩
    · have h0' : ¬ (0 : Int) < (t.size : Int) := by omega
      have HE : Hid ((sb t).dropWhile (fun c => c == 48) = sb t) := by
        show _ = _
        have : sb t = [] := List.eq_nil_of_length_eq_zero (by rw [sb_len]; omega)
        rw [this]
        rfl
      go_wp2
      go_ret
      exact ⟨t, rfl, by rw [← HD.out, HE.out], rfl⟩

set_option maxHeartbeats 1000000 in
set_option maxRecDepth 100000 in
theorem trim_any (w : World) (s : ByteArray) (h0 : 0 < s.size) (hs : s.size ≤ 1000000) :
    Calls Tryd.prog 52 #[.string s, .string ⟨#[48]⟩] w fun e w' => ∃ t, e = .returned (.string t) ∧ sb t = (sb s).dropWhile (fun c => c == 48) ∧ w' = w := by
  have CT := trimB_any w s hs
  have he : s.toList.isEmpty = false := by
    rw [List.isEmpty_eq_false_iff]
    intro e
    have := congrArg List.length e
    rw [Lib.toList_data, Array.length_toList] at this
    have h2 : s.size = s.data.size := rfl
    simp at this
    rw [h2, this] at h0
    simp at h0
  have hz : (((⟨#[48]⟩ : ByteArray)[0]'(by decide)).toNat : Int) = 48 := rfl
  go_enter Tryd.func52, Tryd.ntmps52
  go_wp2_with fail
  refine CT.mono ?_
  rintro e w' ⟨t, rfl, ht, rfl⟩
  have HT : Hid (sb t = (sb s).dropWhile (fun c => c == 48)) := ht
  clear ht
  go_wp2
  go_ret
  exact ⟨t, rfl, HT.out, rfl⟩
end Go.Proofs.YtnicnfjickknjaaDoor

namespace Go.Proofs.YtnicnfjickknjaaDoor
open Go.RowKit Go.Shelf

attribute [local go_sem] Oper.semAt_some

/-- A slice of the call's own, as a string. -/
theorem conv_own {w : World} {base : Nat} {v : Value} {k : Nat} {xs : List Int} (h : w.ownsRow base 5 1 v k (bv xs)) : (convert 23 9 v).run Tryd.prog w = .ok (.string (strOfNums xs)) w := by
  have hl : xs.length = k := by have := h.1; rw [bv_length] at this; omega
  rcases h.2 with ⟨rfl, rfl⟩ | ⟨g, cap, cur, rfl, hg, hh, hle, hmx, hcs, htk⟩
  · obtain rfl : xs = [] := List.eq_nil_of_length_eq_zero hl
    exact run_convert_bytes_nil w 23 5 Tryd.underlying23 Tryd.underlying5 0 0 9 Tryd.underlying9
  · refine run_convert_bytes_arg w 23 5 Tryd.underlying23 Tryd.underlying5 g 0 k cap xs hl (fun i hi => ?_) 9 Tryd.underlying9
    have := h.cells (g := g) rfl i _ (bv_get xs i (by omega))
    simpa [add_at] using this

set_option maxRecDepth 100000 in
set_option maxHeartbeats 2000000 in
theorem hex_in (F : Fence) (n : Nat) (h3 : F.fn 50) (h4 : F.fn 64) (h5 : F.fn 78) (hro : F.round = none) (hn : 3 ≤ n) (ao : Option Addr) (m cap : Nat) (xs : List Int) (w : World) (hL : Sl w ao m cap xs) (hm : m ≤ 70368744177664) :
    CallsIn F n Tryd.prog 50 #[.slice ao m cap] w fun e w' => e = .returned (.string (strOfNums (hexL xs))) ∧ Below w.heap.size w w' := by
  have h1 : 1 ≤ n := by omega
  obtain ⟨i0, hi, hz0, hz1, hz2⟩ := info_parts u8info
  have hln := hL.len
  have hlow := hL.lt
  have hxl := hexL_len xs
  refine callsIn_of_wp_marks Tryd.func50 rfl h3 ?_ hro
  simp only [Tryd.ntmps50, List.size_toArray, List.length_cons, List.length_nil, Nat.reduceAdd, Nat.reduceSub, Array.replicate_succ, Array.replicate_zero, List.push_toArray, List.append_toArray, List.nil_append, List.cons_append]
  gi_wp2_with (first
    | (gi_at_make; refine wpListIn_make_own _ rfl _ _ 23 rfl w.heap.size 5 i0 (.int .u8 0) 1 Tryd.underlying23 hi hz0 hz1 _ _ _ (2 * m) rfl rfl (by omega) (by rw [hz2]; omega) (by unfold maxLen; omega) (Nat.le_refl _) ?_; intro w1 own1 g1; have B1 : Below w.heap.size w w1 := (Below.refl _ w).grown g1 (Nat.le_refl _) (by simp); have s1 := g1.size; clear g1)
    | (gi_at_call 64; refine (digits_in F (n - 1) h4 hro _ ao m cap rfl _).mono ?_; rintro e w' ⟨rfl, rfl⟩))
  have bO := Boxed.new w1 23 (.slice (some ⟨w.heap.size, 0, none⟩) 0 (2 * m))
  have bN := Boxed.new (w1.alloc (.cells #[.slice (some ⟨w.heap.size, 0, none⟩) 0 (2 * m)] 23)) 23 (.slice ao m cap)
  rw [World.size_alloc] at bN
  have hB0 : Below w.heap.size w ((w1.alloc (.cells #[.slice (some ⟨w.heap.size, 0, none⟩) 0 (2 * m)] 23)).alloc (.cells #[.slice ao m cap] 23)) := (B1.alloc s1 _).alloc (by simp; omega) _
  refine wpIn_rangeFunc_ownG hro h1 (gf := 78) (lb := #[.pointer (some ⟨w1.heap.size + 1, 0, none⟩)]) rfl h5 (enters_of Tryd.func78 (by kernel_rfl) rfl)
    (digits_stops F (n - 1) h5 hro (by omega) (w1.heap.size + 1) w.heap.size ao m cap xs _ (by simp) bN.cell (hL.below hB0) hlow) belowK_t (belowK_b (by simp; omega)) (Below.refl _ _) (fun _ => rfl)
    (fun pre W => (∃ v, Boxed W w1.heap.size 23 v ∧ W.ownsRow w.heap.size 5 1 v pre.length (bv pre) ∧ True) ∧ Below w.heap.size w W)
    (fun _ _ _ => False)
    (OwnFrom.and (Own.from (holdsRow_own w.heap.size w1.heap.size 23 5 1 (fun pre => List.length pre) (fun pre => bv pre) (fun _ _ => True)) _) (ownFrom_below (Nat.le_refl _) (by simp; omega)))
    (fun _ _ _ _ _ hs _ _ => hs)
    ⟨⟨_, bO.alloc _, (own1.alloc _).alloc _, trivial⟩, hB0⟩
    (fun x => { tmps := #[.slice ao m cap, undef, .string ⟨#[]⟩, .pointer (some ⟨w1.heap.size, 0, none⟩), .int .u8 x, .slice ao m cap, .int .i64 m, .int .i64 (2 * m), .slice (some ⟨w.heap.size, 0, none⟩) 0 (2 * m), .slice ao m cap, .func (.func 78) #[] #[.pointer (some ⟨w1.heap.size + 1, 0, none⟩)], .int .u8 x, undef, undef, undef, undef, undef, undef], defers := [] }) ?assign ?body ?done ?stop
  case assign =>
    intro l x W K hK
    gi_wp2
    exact hK
  case body =>
    rintro l pre x W ⟨⟨v, hv, hrow, _⟩, hB⟩ hlt
    have hc := hv.cell
    gi_wp2_with (gi_at_builtin; refine wpListIn_append_own _ rfl _ _ 23 rfl w.heap.size 5 i0 (.int .u8 0) 1 1 Tryd.underlying23 hi hz0 hz1 hz2 rfl (by decide) _ _ _ rfl (hrow.alloc _) ⟨W.heap.size, 0, none⟩ 1 1 [.int .u8 x] rfl rfl (cell_one_new _ _ _) (by simp [Value.oneCell']) (by unfold maxLen; omega) (by omega) (by have := hB.size; simp; omega) ?_; intro v' w2 hown' hgrow _; obtain ⟨g', cap', rfl⟩ := ownsRow_succ hown'; obtain ⟨hv1, hv2, hr2, hk2, hb2⟩ := hv.appended (by decide) hrow hB.size s1 hown' hgrow; have hc1 := hv1.cell; have hf1 := hv1.frozen)
    exact ⟨hk2.from _, hb2, ⟨_, hv2, by rw [bv_append, List.length_append]; exact hr2, trivial⟩, hB.trans hb2⟩
  case done =>
    rintro D ys W hD rfl ⟨⟨v, hv, hrow, _⟩, hB⟩ hK
    have hc := hv.cell
    have hcv := conv_own hrow
    gi_wp2
    refine ⟨by simp, .inl ⟨_, _, rfl, run_takeDeferred hK, ?_⟩⟩
    exact ⟨_, results_tmp rfl _ _ _, rfl, hB.trans (belowK_b (w := w) (Nat.le_refl _) W D _ _ (by simp at hD; omega) hK rfl rfl)⟩
  case stop =>
    rintro D c pre W _ _ h _
    exact h.elim

/-- Hex of whatever bytes. -/
theorem hex_any (w : World) (ao : Option Addr) (m cap : Nat) (xs : List Int) (hL : Sl w ao m cap xs) (hm : m ≤ 70368744177664) :
    Calls Tryd.prog 50 #[.slice ao m cap] w fun e w' => e = .returned (.string (strOfNums (hexL xs))) ∧ Below w.heap.size w w' :=
  (callsIn_wide (n := 3)).1 (hex_in Fence.wide 3 trivial trivial trivial rfl (Nat.le_refl _) ao m cap xs w hL hm)

end Go.Proofs.YtnicnfjickknjaaDoor

namespace Go.Proofs.YtnicnfjickknjaaDoor
open Go.RowKit

theorem sb_str {xs : List Int} (h : Byt xs) : sb (strOfNums xs) = xs := by
  unfold sb
  rw [strOfNums_data, List.map_map]
  refine (List.map_congr_left fun x hx => ?_).trans (List.map_id xs)
  have := h x hx
  simp only [Function.comp_apply, id_eq, UInt8.toNat_ofNat']
  omega
theorem conv_str {w : World} {ao : Option Addr} {n cap : Nat} {xs : List Int} (h : Sl w ao n cap xs) : (convert 23 9 (.slice ao n cap)).run Tryd.prog w = .ok (.string (strOfNums xs)) w := by
  cases ao with
  | none =>
    obtain ⟨rfl, rfl⟩ := h.nil rfl
    obtain rfl : xs = [] := List.eq_nil_of_length_eq_zero h.len
    exact run_convert_bytes_nil w _ _ Tryd.underlying23 Tryd.underlying5 _ _ _ Tryd.underlying9
  | some a =>
    have hl := h.len
    have hc := run_convert_bytes_back (P := Tryd.prog) w 23 9 5 a cap (xs.map fun n => UInt8.ofNat n.toNat) Tryd.underlying23 Tryd.underlying5 Tryd.underlying9 (fun j hj => by
      have hj' : j < xs.length := by simpa using hj
      have hb := h.byte xs[j] (List.getElem_mem hj')
      rw [h.cells a rfl j _ (bv_get xs j hj')]
      simp only [List.getElem_map, UInt8.toNat_ofNat', List.getD, List.getElem?_eq_getElem hj', Option.getD_some, Option.some.injEq, Value.int.injEq, true_and]
      omega)
    rw [List.length_map, hl] at hc
    exact hc
end Go.Proofs.YtnicnfjickknjaaDoor

namespace Go.Proofs.YtnicnfjickknjaaDoor
open Go.RowKit

theorem dg_byte {x : Int} (h : 0 ≤ x ∧ x < 16) : 0 ≤ dg x ∧ dg x ≤ 255 := by
  unfold dg
  split <;> omega
theorem hexL_byte {xs : List Int} (h : Byt xs) : Byt (hexL xs) := by
  intro y hy
  simp only [hexL, List.mem_flatMap, List.mem_cons, List.not_mem_nil, or_false] at hy
  obtain ⟨x, hx, hy⟩ := hy
  have := h x hx
  rcases hy with rfl | rfl
  · exact dg_byte (by omega)
  · exact dg_byte (by omega)
theorem take_drop_while {α : Type} (p : α → Bool) : ∀ l : List α, (l.takeWhile p).length + (l.dropWhile p).length = l.length
  | [] => rfl
  | a :: l => by
    have := take_drop_while p l
    rw [List.takeWhile_cons, List.dropWhile_cons]
    split <;> simp only [List.length_cons, List.length_nil] <;> omega
theorem pl_one (w : World) (ao : Option Addr) (n cap : Nat) (xs : List Int) (h : Sl w ao n cap xs) (t : TypeId) : PL (w.alloc (.cells #[.slice ao n cap] t)) (some ⟨w.heap.size, 0, none⟩) 1 1 [⟨ao, n, cap, xs⟩] := by
  have B : Below w.heap.size w (w.alloc (.cells #[.slice ao n cap] t)) := (Below.refl _ w).alloc (Nat.le_refl _) _
  refine (KL.mk ?_ ?_).pl
  · exact VL.new w [.slice ao n cap] t (by simp [maxLen])
  · intro q hq
    rw [List.mem_singleton.1 hq]
    exact h.below B

theorem wrap_lev (k : List Int) : IntKind.i64.wrap (lev k : Int) = lev k := by
  have := lev_le k
  simp [IntKind.wrap, IntKind.bits, IntKind.signed]
  omega

set_option maxHeartbeats 1000000 in
set_option maxRecDepth 100000 in
theorem level_any (w : World) (ao : Option Addr) (n cap : Nat) (xs : List Int) (hT : Tabs w) (h : Sl w ao n cap xs) (hn : n ≤ 1000000) :
    Calls Tryd.prog 28 #[.slice ao n cap] w fun e w' => e = .returned (.int .i64 (lev xs)) ∧ Below w.heap.size w w' := by
  have h2 := hT.two
  have B0 : Below w.heap.size w (w.alloc (.cells #[.slice ao n cap] 23)) := (Below.refl _ w).alloc (Nat.le_refl _) _
  have P0 := pl_one w ao n cap xs h 23
  obtain ⟨D, hD⟩ : ∃ D, D = sumL (formL (sb lvS) [xs]) := ⟨_, rfl⟩
  have hDl : D.length = 32 := by rw [hD]; exact sumL_len _
  have hDb : Byt D := by rw [hD]; exact sumL_byte _
  have CO := of_any _ lvS (some ⟨w.heap.size, 0, none⟩) 1 1 [⟨ao, n, cap, xs⟩] P0 (hT.below B0 h2) (by decide) (by decide) (by intro q hq; rw [List.mem_singleton.1 hq]; exact hn)
  rw [show formL (sb lvS) (pxs [⟨ao, n, cap, xs⟩]) = formL (sb lvS) [xs] from rfl, ← hD] at CO
  have HL : Hid (lev xs = ((hexL D).takeWhile fun c => c == 48).length) := by show _ = _; rw [hD]; rfl
  clear hD
  go_enter Tryd.func28, Tryd.ntmps28
  go_wp2_with fail
  refine CO.mono ?_
  rintro e w1 ⟨v1, rfl, own1, C1⟩
  obtain ⟨fo, fc, rfl, S1, -⟩ := Sl.own own1 hDb
  have B1 : Below w.heap.size w w1 := B0.trans (C1.mono B0.size)
  clear own1 C1 CO P0 B0
  go_wp2_with fail
  refine (hex_any w1 fo 32 fc D S1 (by decide)).mono ?_
  rintro e w2 ⟨rfl, C2⟩
  have B2 : Below w.heap.size w w2 := B1.trans (C2.mono B1.size)
  obtain ⟨H, hH⟩ : ∃ H, H = strOfNums (hexL D) := ⟨_, rfl⟩
  have hs : H.size = 64 := by rw [hH, strOfNums_size, hexL_len, hDl]
  have hsb : Hid (sb H = hexL D) := by show _ = _; rw [hH]; exact sb_str (hexL_byte hDb)
  rw [← hH]
  clear hH C2 S1 B1
  have CT := trim_any w2 H (by omega) (by omega)
  have HS : Hid (H.size = 64) := hs
  clear hs
  go_wp2_with fail
  refine CT.mono ?_
  rintro e w3 ⟨t, rfl, ht, rfl⟩
  have htl := take_drop_while (fun c : Int => c == 48) (hexL D)
  rw [hsb.out] at ht
  rw [← ht, sb_len, ← hsb.out, sb_len, hsb.out, HS.out, ← HL.out] at htl
  have HZ : Hid ((H.size : Int) - t.size = lev xs) := by
    show _ = _
    rw [HS.out]
    omega
  have hw : IntKind.i64.wrap ((H.size : Int) - t.size) = (H.size : Int) - t.size := by
    rw [HZ.out]
    exact wrap_lev xs
  clear htl ht CT
  go_wp2
  go_ret
  refine ⟨?_, B2⟩
  show Ending.returned (.int .i64 ((H.size : Int) - t.size)) = _
  rw [HZ.out]

end Go.Proofs.YtnicnfjickknjaaDoor

namespace Go.Proofs.YtnicnfjickknjaaDoor
open Go.RowKit

/-- What Put answers. -/
def PutPost (w : World) (l : List It) (x : It) (kd : Int) (e : Ending) (w' : World) : Prop := ∃ u, e = .returned (.tuple #[.pointer u, .int .i64 kd]) ∧ (kd = 0 → TT w' (.pointer u) (ins l x)) ∧ (kd ≠ 0 → u = none) ∧ Below w.heap.size w w'

set_option maxHeartbeats 4000000 in
set_option maxRecDepth 100000 in
theorem tput_any (w : World) (v : Value) (l : List It) (x : It) (ko vo : Option Addr) (kn kc vn vc : Nat) (hT : Tabs w) (h : TT w v l) (hs : Srt l) (hk : Sl w ko kn kc x.k) (hv : Sl w vo vn vc x.v) (hkn : kn ≤ 1000000) (hvn : vn ≤ 1000000) (hn : l.length ≤ 50000) (kd : Int)
    (hkd : Hid (jL [⟨⟨ko, kn, kc, x.k⟩, ⟨vo, vn, vc, x.v⟩⟩] 0 = kd)) :
    Calls Tryd.prog 5 #[v, .slice ko kn kc, .slice vo vn vc] w (PutPost w l x kd) := by
  have h2 := hT.two
  obtain ⟨W0, hW0⟩ : ∃ W, W = w.alloc (.cells #[.slice ko kn kc, .slice vo vn vc] 43) := ⟨_, rfl⟩
  have B0 : Below w.heap.size w W0 := by rw [hW0]; exact (Below.refl _ w).alloc (Nat.le_refl _) _
  have I0 : IL W0 (some ⟨w.heap.size, 0, none⟩) 1 1 [⟨⟨ko, kn, kc, x.k⟩, ⟨vo, vn, vc, x.v⟩⟩] := by rw [hW0]; exact IL.one w ⟨⟨ko, kn, kc, x.k⟩, ⟨vo, vn, vc, x.v⟩⟩ ⟨hk, hv⟩ _
  have CJ := judge_any W0 _ 1 1 _ I0 (by omega) (by intro q hq; rw [List.mem_singleton.1 hq]; exact ⟨hkn, hvn⟩)
  rw [hkd.out] at CJ
  obtain ⟨po, rfl⟩ := h.ptr
  go_enter Tryd.func5, Tryd.ntmps5
  go_wp2_with fail
  rw [← hW0]
  clear hW0
  refine CJ.mono ?_
  rintro e w1 ⟨rfl, C1⟩
  have B1 : Below w.heap.size w w1 := B0.trans (C1.mono B0.size)
  clear CJ I0 C1 B0
  by_cases hz : kd = 0
  · have hzb : (kd != 0) = false := by simp [hz]
    have HZ : Hid (kd = 0) := hz
    clear hz
    have CS := shared_at w w1 (.pointer po) l h B1
    go_wp2_with fail
    refine CS.mono ?_
    rintro e w2 ⟨q, rfl, hq, hw2⟩
    obtain rfl := hw2.symm
    clear CS
    have CL := level_any w1 ko kn kc x.k (hT.below B1 h2) (hk.below B1) hkn
    go_wp2_with fail
    refine CL.mono ?_
    rintro e w3 ⟨rfl, C3⟩
    have B3 : Below w.heap.size w w3 := B1.trans (C3.mono B1.size)
    clear CL C3 B1
    have CO := own_any w3 ko kn kc x.k (hk.below B3) hkn
    go_wp2_with fail
    refine CO.mono ?_
    rintro e w4 ⟨xo, xc, rfl, S4, C4⟩
    have B4 : Below w.heap.size w w4 := B3.trans (C4.mono B3.size)
    clear CO C4 B3
    have CO := own_any w4 vo vn vc x.v (hv.below B4) hvn
    go_wp2_with fail
    refine CO.mono ?_
    rintro e w5 ⟨yo, yc, rfl, S5, C5⟩
    have B5 : Below w.heap.size w w5 := B4.trans (C5.mono B4.size)
    have S4 := S4.below C5
    clear CO C5 B4
    have CW := with_any w5 (.pointer q) l x xo yo kn xc vn yc S4 S5 (hq.below B5) hs (by omega)
    go_wp2_with fail
    refine CW.mono ?_
    rintro e w6 ⟨u, rfl, T6, C6⟩
    have B6 : Below w.heap.size w w6 := B5.trans (C6.mono B5.size)
    clear CW C6 B5 S4 S5
    obtain ⟨u6, rfl⟩ := T6.ptr
    have CT := treeOf_any w6 _ _ T6
    go_wp2_with fail
    refine CT.mono ?_
    rintro e w7 ⟨u, rfl, T7, C7⟩
    have B7 : Below w.heap.size w w7 := B6.trans (C7.mono B6.size)
    obtain ⟨u7, rfl⟩ := T7.ptr
    clear CT C7 B6 T6
    go_wp2
    go_ret2
    refine ⟨u7, ?_, fun _ => T7, fun hne => absurd HZ.out hne, B7⟩
    rw [HZ.out]
    rfl
  · have hzb : (kd != 0) = true := by simp [hz]
    have HZ : Hid (¬ kd = 0) := hz
    clear hz
    go_wp2
    go_ret2
    exact ⟨none, rfl, fun hz => absurd hz HZ.out, fun _ => rfl, B1⟩

end Go.Proofs.YtnicnfjickknjaaDoor

namespace Go.Proofs.YtnicnfjickknjaaDoor
open Go.RowKit

/-- What Get answers. -/
def GetPost (w : World) (l : List It) (key : List Int) (e : Ending) (w' : World) : Prop := ∃ (qo : Option Addr) (qn qc : Nat) (b : Bool), e = .returned (.tuple #[.slice qo qn qc, .bool b]) ∧
  (b = true → ∃ x ∈ l, x.k = key ∧ Sl w' qo qn qc x.v) ∧ (b = false → ¬ has key l ∧ qn = 0 ∧ Sl w' qo qn qc []) ∧ Below w.heap.size w w'

set_option maxHeartbeats 4000000 in
set_option maxRecDepth 100000 in
theorem tget_any (w : World) (v : Value) (l : List It) (key : List Int) (ko : Option Addr) (kn kc : Nat) (h : TT w v l) (hs : Srt l) (hk : Sl w ko kn kc key) (hn : l.length ≤ 50000) (hv : ∀ x ∈ l, x.v.length ≤ 1000000) :
    Calls Tryd.prog 11 #[v, .slice ko kn kc] w (GetPost w l key) := by
  have CS := shared_at w w v l h (Below.refl _ _)
  obtain ⟨po, rfl⟩ := h.ptr
  go_enter Tryd.func11, Tryd.ntmps11
  go_wp2_with fail
  refine CS.mono ?_
  rintro e w2 ⟨q, rfl, hq, hw2⟩
  obtain rfl := hw2.symm
  have CF := find_any w (.pointer q) l key ko kn kc hq hs hk (by omega)
  clear CS
  go_wp2_with fail
  refine CF.mono ?_
  rintro e w3 ⟨qo, qn, qc, b, rfl, h1, h2, B3⟩
  clear CF
  cases b with
  | true =>
    obtain ⟨x, hx, hxk, S⟩ := h1 rfl
    have hl := hv x hx
    rw [S.len] at hl
    have CC := bclone_any w3 qo qn qc x.v S hl
    clear h1 h2
    go_wp2_with fail
    refine CC.mono ?_
    rintro e w4 ⟨ro, rc, rfl, S4, C4⟩
    go_wp2
    go_ret2
    exact ⟨ro, qn, rc, true, rfl, fun _ => ⟨x, hx, hxk, S4⟩, by simp, B3.trans (C4.mono B3.size)⟩
  | false =>
    obtain ⟨hno, rfl, rfl, rfl⟩ := h2 rfl
    have CC := bclone_any w3 none 0 0 [] (Sl.nothing w3) (by omega)
    clear h1 h2
    go_wp2_with fail
    refine CC.mono ?_
    rintro e w4 ⟨ro, rc, rfl, S4, C4⟩
    go_wp2
    go_ret2
    exact ⟨ro, 0, rc, false, rfl, by simp, fun _ => ⟨hno, rfl, S4⟩, B3.trans (C4.mono B3.size)⟩
end Go.Proofs.YtnicnfjickknjaaDoor

namespace Go.Proofs.YtnicnfjickknjaaDoor
open Go.RowKit

/-- What Del answers. -/
def DelPost (w : World) (v : Value) (l : List It) (key : List Int) (e : Ending) (w' : World) : Prop := ∃ u b, e = .returned (.tuple #[.pointer u, .bool b]) ∧
  (b = true → has key l ∧ TT w' (.pointer u) (del l key)) ∧ (b = false → ¬ has key l ∧ v = .pointer u) ∧ Below w.heap.size w w'

set_option maxHeartbeats 4000000 in
set_option maxRecDepth 100000 in
theorem tdel_any (w : World) (v : Value) (l : List It) (key : List Int) (ko : Option Addr) (kn kc : Nat) (h : TT w v l) (hs : Srt l) (hk : Sl w ko kn kc key) (hn : l.length ≤ 50000) :
    Calls Tryd.prog 8 #[v, .slice ko kn kc] w (DelPost w v l key) := by
  have CS := shared_at w w v l h (Below.refl _ _)
  obtain ⟨po, rfl⟩ := h.ptr
  go_enter Tryd.func8, Tryd.ntmps8
  go_wp2_with fail
  refine CS.mono ?_
  rintro e w2 ⟨q, rfl, hq, hw2⟩
  obtain rfl := hw2.symm
  have CF := find_any w (.pointer q) l key ko kn kc hq hs hk (by omega)
  clear CS
  go_wp2_with fail
  refine CF.mono ?_
  rintro e w3 ⟨qo, qn, qc, b, rfl, h1, h2, B3⟩
  clear CF
  cases b with
  | true =>
    obtain ⟨x, hx, hxk, S⟩ := h1 rfl
    have hh : has key l := ⟨x, hx, hxk⟩
    clear h1 h2 S hx hxk
    have CS := shared_at w w3 (.pointer po) l h B3
    go_wp2_with fail
    refine CS.mono ?_
    rintro e w4 ⟨q4, rfl, hq4, hw4⟩
    obtain rfl := hw4.symm
    clear CS
    have CW := without_fuel l.length l w3 (.pointer q4) key ko kn kc (Nat.le_refl _) (hk.below B3) (hq4.below B3) hs hh (by omega)
    go_wp2_with fail
    refine CW.mono ?_
    rintro e w6 ⟨u, rfl, T6, C6⟩
    have B6 : Below w.heap.size w w6 := B3.trans (C6.mono B3.size)
    clear CW C6 B3
    obtain ⟨u6, rfl⟩ := T6.ptr
    have CT := treeOf_any w6 _ _ T6
    go_wp2_with fail
    refine CT.mono ?_
    rintro e w7 ⟨u, rfl, T7, C7⟩
    have B7 : Below w.heap.size w w7 := B6.trans (C7.mono B6.size)
    obtain ⟨u7, rfl⟩ := T7.ptr
    clear CT C7 B6 T6
    go_wp2
    go_ret2
    exact ⟨u7, true, rfl, fun _ => ⟨hh, T7⟩, by simp, B7⟩
  | false =>
    obtain ⟨hno, rfl, rfl, rfl⟩ := h2 rfl
    clear h1 h2
    go_wp2
    go_ret2
    exact ⟨po, false, rfl, by simp, fun _ => ⟨hno, rfl⟩, B3⟩
end Go.Proofs.YtnicnfjickknjaaDoor
