/-
  tree.join: two trees, one behind the other.
-/
import Derived.Test.YthlpccajnmkbjaaGreatDoorY25
import Derived.Test.YthlpccajnmkbjaaGreatDoorY27
namespace Go.Proofs.YthlpccajnmkbjaaGreatDoor
open Go.RowKit

set_option maxHeartbeats 4000000 in
set_option maxRecDepth 100000 in
theorem join_fuel : ∀ (N : Nat) (w : World) (v1 v2 : Value) (l1 l2 : List It), l1.length + l2.length ≤ N → T w v1 l1 → T w v2 l2 → l1.length + l2.length ≤ 100000 →
    Calls Tryz.prog 184 #[v1, v2] w (RetT w (l1 ++ l2)) := by
  intro N
  induction N with
  | zero =>
    intro w v1 v2 l1 l2 hN h1 h2 hn
    obtain rfl : l1 = [] := List.eq_nil_of_length_eq_zero (by omega)
    obtain rfl : l2 = [] := List.eq_nil_of_length_eq_zero (by omega)
    rcases h1.is with ⟨-, rfl⟩ | ⟨d, segs, xs, rfl, hNd⟩
    · obtain ⟨p, rfl⟩ := h2.ptr
      go_enter Tryz.func184, Tryz.ntmps184
      go_wp2
      go_ret
      exact ⟨_, rfl, h2, Below.refl _ _⟩
    · have h0 := hNd.shp.pos
      have := hNd.shp.key xs[0] (List.getElem_mem h0)
      simp at this
  | succ N ih =>
    intro w v1 v2 l1 l2 hN h1 h2 hn
    rcases h1.is with ⟨rfl, rfl⟩ | ⟨d, segs, xs, rfl, h⟩
    · obtain ⟨p, rfl⟩ := h2.ptr
      go_enter Tryz.func184, Tryz.ntmps184
      go_wp2
      go_ret
      exact ⟨_, rfl, h2, Below.refl _ _⟩
    rcases h2.is with ⟨rfl, rfl⟩ | ⟨f, fegs, ys, rfl, k⟩
    · unfold Nd.ptr at h1 ⊢
      go_enter Tryz.func184, Tryz.ntmps184
      go_wp2
      go_ret
      rw [List.append_nil]
      exact ⟨_, rfl, h1, Below.refl _ _⟩
    have hm := h.many
    have hnk1 := Nat.le_of_eq h.nk
    have hnk2 := Nat.le_of_eq h.nk.symm
    have hnv1 := Nat.le_of_eq h.nv
    have hnv2 := Nat.le_of_eq h.nv.symm
    have hnc1 := Nat.le_of_eq h.nc
    have hnc2 := Nat.le_of_eq h.nc.symm
    have km := k.many
    have knk1 := Nat.le_of_eq k.nk
    have knk2 := Nat.le_of_eq k.nk.symm
    have knv1 := Nat.le_of_eq k.nv
    have knv2 := Nat.le_of_eq k.nv.symm
    have knc1 := Nat.le_of_eq k.nc
    have knc2 := Nat.le_of_eq k.nc.symm
    have hpos := h.shp.pos
    have kpos := k.shp.pos
    have hT1 := h1
    unfold Nd.ptr at h1 h2 ⊢
    by_cases hlt : d.L < f.L
    · have hlt' : (d.L : Int) < (f.L : Int) := by omega
      obtain ⟨s, A, B, c⟩ := k.shp.cut 0 (Nat.zero_le _)
      have hA : Hid (A = []) := by show _ = _; rw [c.eA]; rfl
      go_enter Tryz.func184, Tryz.ntmps184
      go_wp2_with fail
      have aHS : Hid (∀ V, Below w.heap.size w V → V.cell? ⟨d.b, 0, none⟩ = some (.int .i64 d.L) ∧ V.cell? ⟨f.b, 0, none⟩ = some (.int .i64 f.L)) := fun V hV => ⟨(h.ok.below hV).c0, (k.ok.below hV).c0⟩
      have aE0 : Below w.heap.size w w.drew := (Below.refl _ _).drew
      refine wp_region_noPanic ?_
      refine wp_region_held_drew (S := fun V => V.cell? ⟨d.b, 0, none⟩ = some (.int .i64 d.L) ∧ V.cell? ⟨f.b, 0, none⟩ = some (.int .i64 f.L)) (by kernel_rfl) (aHS.out _ aE0) (fun aH0 => ?_)
      obtain ⟨av0, hv0⟩ : ∃ v, v = w.drew := ⟨_, rfl⟩
      rw [← hv0] at aH0 aE0 ⊢
      clear hv0
      refine hr_take_w 0 (some 16) (.pointer (some ⟨d.b, 0, none⟩)) rfl rfl (by kernel_rfl) (by kernel_rfl) (by kernel_rfl) rfl (fun W hW => by obtain ⟨h0, h1⟩ := hW; go_simp) aH0 ?_
      simp only [Act.put, List.setIfInBounds_toArray, List.set_cons_zero, List.set_cons_succ]
      refine hr_take_w 1 (some 17) (.pointer (some ⟨d.b, 0, none⟩)) rfl rfl (by kernel_rfl) (by kernel_rfl) (by kernel_rfl) rfl (fun W hW => by obtain ⟨h0, h1⟩ := hW; go_simp) aH0 ?_
      simp only [Act.put, List.setIfInBounds_toArray, List.set_cons_zero, List.set_cons_succ]
      refine hr_take_w 2 (some 18) (.pointer (some ⟨d.b, 0, none⟩)) rfl rfl (by kernel_rfl) (by kernel_rfl) (by kernel_rfl) rfl (fun W hW => by obtain ⟨h0, h1⟩ := hW; go_simp) aH0 ?_
      simp only [Act.put, List.setIfInBounds_toArray, List.set_cons_zero, List.set_cons_succ]
      refine hr_take_w 3 (some 19) (.int .i64 d.L) rfl rfl (by kernel_rfl) (by kernel_rfl) (by kernel_rfl) rfl (fun W hW => by obtain ⟨h0, h1⟩ := hW; go_simp) aH0 ?_
      simp only [Act.put, List.setIfInBounds_toArray, List.set_cons_zero, List.set_cons_succ]
      refine hr_take_w 4 (some 20) (.pointer (some ⟨f.b, 0, none⟩)) rfl rfl (by kernel_rfl) (by kernel_rfl) (by kernel_rfl) rfl (fun W hW => by obtain ⟨h0, h1⟩ := hW; go_simp) aH0 ?_
      simp only [Act.put, List.setIfInBounds_toArray, List.set_cons_zero, List.set_cons_succ]
      refine hr_take_w 5 (some 21) (.pointer (some ⟨f.b, 0, none⟩)) rfl rfl (by kernel_rfl) (by kernel_rfl) (by kernel_rfl) rfl (fun W hW => by obtain ⟨h0, h1⟩ := hW; go_simp) aH0 ?_
      simp only [Act.put, List.setIfInBounds_toArray, List.set_cons_zero, List.set_cons_succ]
      refine hr_take_w 6 (some 22) (.pointer (some ⟨f.b, 0, none⟩)) rfl rfl (by kernel_rfl) (by kernel_rfl) (by kernel_rfl) rfl (fun W hW => by obtain ⟨h0, h1⟩ := hW; go_simp) aH0 ?_
      simp only [Act.put, List.setIfInBounds_toArray, List.set_cons_zero, List.set_cons_succ]
      refine hr_take_w 7 (some 23) (.int .i64 f.L) rfl rfl (by kernel_rfl) (by kernel_rfl) (by kernel_rfl) rfl (fun W hW => by obtain ⟨h0, h1⟩ := hW; go_simp) aH0 ?_
      simp only [Act.put, List.setIfInBounds_toArray, List.set_cons_zero, List.set_cons_succ]
      refine hr_take_w 8 (some 24) (.bool true) rfl rfl (by kernel_rfl) (by kernel_rfl) (by kernel_rfl) rfl (fun W hW => by obtain ⟨h0, h1⟩ := hW; go_simp) aH0 ?_
      simp only [Act.put, List.setIfInBounds_toArray, List.set_cons_zero, List.set_cons_succ]
      refine hr_take_w 9 (some 15) (.bool true) rfl rfl (by kernel_rfl) (by kernel_rfl) (by kernel_rfl) rfl (fun W hW => by obtain ⟨h0, h1⟩ := hW; go_simp) aH0 ?_
      simp only [Act.put, List.setIfInBounds_toArray, List.set_cons_zero, List.set_cons_succ]
      refine wpAnyH_done (by kernel_rfl) ?_ _
      refine NoPanic.normal ?_
      have Na := h.below aE0
      have Ka := k.below aE0
      obtain ⟨kb, ko, s', u, eco, hs1, hs2, hcell, hTk, hlen⟩ := Ka.kidAt 0 (Nat.zero_le _)
      obtain rfl : s = s' := Option.some.inj (c.seg.symm.trans hs1)
      have c3 := Ka.ok.c3
      rw [eco] at c3
      have c0 : (0 : Int) < (f.cs.length : Int) := by omega
      have CI := ih av0 (.pointer (some ⟨d.b, 0, none⟩)) u l1 s (by omega) (h1.below aE0) hTk (by omega)
      rw [Nat.add_zero] at hcell
      clear eco hs1 hs2
      go_wp2_with fail
      refine CI.mono ?_
      rintro e w2 ⟨x, rfl, Tx, B2'⟩
      have B2 : Below w.heap.size w w2 := aE0.trans (B2'.mono aE0.size)
      have CW := withKid_any w2 l2 f fegs ys (k.below B2) 0 s A B (l1 ++ s) c x Tx (by
        intro y hy
        rcases List.mem_append.1 hy with hy | hy
        · have := h.shp.le y hy
          omega
        · exact c.ls y hy) (by omega)
      unfold Nd.ptr at CW
      clear CI c3 hcell hTk B2'
      go_wp2_with fail
      refine CW.mono ?_
      rintro e w3 ⟨z, rfl, Tz, B3'⟩
      have B3 : Below w.heap.size w w3 := B2.trans (B3'.mono B2.size)
      go_wp2
      go_ret
      refine ⟨_, rfl, ?_, B3⟩
      have e : l1 ++ l2 = A ++ ((l1 ++ s) ++ B) := by rw [c.el, hA.out]; simp
      rw [e]
      exact Tz
    have hlt' : ¬ (d.L : Int) < (f.L : Int) := by omega
    have c1 := h.ok.c1
    by_cases hgt : f.L < d.L
    · have hgt' : (f.L : Int) < (d.L : Int) := by omega
      obtain ⟨s, A, B, c⟩ := h.shp.cut d.ks.length (by omega)
      have hB : Hid (B = []) := by
        show _ = _
        have hd : xs.drop d.ks.length = [] := List.drop_eq_nil_of_le (by omega)
        rw [c.eB, hd]
        rfl
      go_enter Tryz.func184, Tryz.ntmps184
      go_wp2_with fail
      have aHS : Hid (∀ V, Below w.heap.size w V → V.cell? ⟨d.b, 0, none⟩ = some (.int .i64 d.L) ∧ V.cell? ⟨f.b, 0, none⟩ = some (.int .i64 f.L)) := fun V hV => ⟨(h.ok.below hV).c0, (k.ok.below hV).c0⟩
      have aE0 : Below w.heap.size w w.drew := (Below.refl _ _).drew
      refine wp_region_noPanic ?_
      refine wp_region_held_drew (S := fun V => V.cell? ⟨d.b, 0, none⟩ = some (.int .i64 d.L) ∧ V.cell? ⟨f.b, 0, none⟩ = some (.int .i64 f.L)) (by kernel_rfl) (aHS.out _ aE0) (fun aH0 => ?_)
      obtain ⟨av0, hv0⟩ : ∃ v, v = w.drew := ⟨_, rfl⟩
      rw [← hv0] at aH0 aE0 ⊢
      clear hv0
      refine hr_take_w 0 (some 16) (.pointer (some ⟨d.b, 0, none⟩)) rfl rfl (by kernel_rfl) (by kernel_rfl) (by kernel_rfl) rfl (fun W hW => by obtain ⟨h0, h1⟩ := hW; go_simp) aH0 ?_
      simp only [Act.put, List.setIfInBounds_toArray, List.set_cons_zero, List.set_cons_succ]
      refine hr_take_w 1 (some 17) (.pointer (some ⟨d.b, 0, none⟩)) rfl rfl (by kernel_rfl) (by kernel_rfl) (by kernel_rfl) rfl (fun W hW => by obtain ⟨h0, h1⟩ := hW; go_simp) aH0 ?_
      simp only [Act.put, List.setIfInBounds_toArray, List.set_cons_zero, List.set_cons_succ]
      refine hr_take_w 2 (some 18) (.pointer (some ⟨d.b, 0, none⟩)) rfl rfl (by kernel_rfl) (by kernel_rfl) (by kernel_rfl) rfl (fun W hW => by obtain ⟨h0, h1⟩ := hW; go_simp) aH0 ?_
      simp only [Act.put, List.setIfInBounds_toArray, List.set_cons_zero, List.set_cons_succ]
      refine hr_take_w 3 (some 19) (.int .i64 d.L) rfl rfl (by kernel_rfl) (by kernel_rfl) (by kernel_rfl) rfl (fun W hW => by obtain ⟨h0, h1⟩ := hW; go_simp) aH0 ?_
      simp only [Act.put, List.setIfInBounds_toArray, List.set_cons_zero, List.set_cons_succ]
      refine hr_take_w 4 (some 20) (.pointer (some ⟨f.b, 0, none⟩)) rfl rfl (by kernel_rfl) (by kernel_rfl) (by kernel_rfl) rfl (fun W hW => by obtain ⟨h0, h1⟩ := hW; go_simp) aH0 ?_
      simp only [Act.put, List.setIfInBounds_toArray, List.set_cons_zero, List.set_cons_succ]
      refine hr_take_w 5 (some 21) (.pointer (some ⟨f.b, 0, none⟩)) rfl rfl (by kernel_rfl) (by kernel_rfl) (by kernel_rfl) rfl (fun W hW => by obtain ⟨h0, h1⟩ := hW; go_simp) aH0 ?_
      simp only [Act.put, List.setIfInBounds_toArray, List.set_cons_zero, List.set_cons_succ]
      refine hr_take_w 6 (some 22) (.pointer (some ⟨f.b, 0, none⟩)) rfl rfl (by kernel_rfl) (by kernel_rfl) (by kernel_rfl) rfl (fun W hW => by obtain ⟨h0, h1⟩ := hW; go_simp) aH0 ?_
      simp only [Act.put, List.setIfInBounds_toArray, List.set_cons_zero, List.set_cons_succ]
      refine hr_take_w 7 (some 23) (.int .i64 f.L) rfl rfl (by kernel_rfl) (by kernel_rfl) (by kernel_rfl) rfl (fun W hW => by obtain ⟨h0, h1⟩ := hW; go_simp) aH0 ?_
      simp only [Act.put, List.setIfInBounds_toArray, List.set_cons_zero, List.set_cons_succ]
      refine hr_take_w 8 (some 24) (.bool false) rfl rfl (by kernel_rfl) (by kernel_rfl) (by kernel_rfl) rfl (fun W hW => by obtain ⟨h0, h1⟩ := hW; go_simp) aH0 ?_
      simp only [Act.put, List.setIfInBounds_toArray, List.set_cons_zero, List.set_cons_succ]
      refine hr_take_w 9 (some 15) (.bool false) rfl rfl (by kernel_rfl) (by kernel_rfl) (by kernel_rfl) rfl (fun W hW => by obtain ⟨h0, h1⟩ := hW; go_simp) aH0 ?_
      simp only [Act.put, List.setIfInBounds_toArray, List.set_cons_zero, List.set_cons_succ]
      refine wpAnyH_done (by kernel_rfl) ?_ _
      refine NoPanic.normal ?_
      have Na := h.below aE0
      have Ka := k.below aE0
      have c1 := Na.ok.c1
      go_wp2_with fail
      have bHS : Hid (∀ V, Below av0.heap.size av0 V → V.cell? ⟨d.b, 0, none⟩ = some (.int .i64 d.L) ∧ V.cell? ⟨f.b, 0, none⟩ = some (.int .i64 f.L)) := fun V hV => ⟨(Na.ok.below hV).c0, (Ka.ok.below hV).c0⟩
      have bE0 : Below av0.heap.size av0 av0.drew := (Below.refl _ _).drew
      refine wp_region_noPanic ?_
      refine wp_region_held_drew (S := fun V => V.cell? ⟨d.b, 0, none⟩ = some (.int .i64 d.L) ∧ V.cell? ⟨f.b, 0, none⟩ = some (.int .i64 f.L)) (by kernel_rfl) (bHS.out _ bE0) (fun bH0 => ?_)
      obtain ⟨bv0, hv0⟩ : ∃ v, v = av0.drew := ⟨_, rfl⟩
      rw [← hv0] at bH0 bE0 ⊢
      clear hv0
      refine hr_take_w 0 (some 40) (.pointer (some ⟨d.b, 0, none⟩)) rfl rfl (by kernel_rfl) (by kernel_rfl) (by kernel_rfl) rfl (fun W hW => by obtain ⟨h0, h1⟩ := hW; go_simp) bH0 ?_
      simp only [Act.put, List.setIfInBounds_toArray, List.set_cons_zero, List.set_cons_succ]
      refine hr_take_w 1 (some 41) (.pointer (some ⟨d.b, 0, none⟩)) rfl rfl (by kernel_rfl) (by kernel_rfl) (by kernel_rfl) rfl (fun W hW => by obtain ⟨h0, h1⟩ := hW; go_simp) bH0 ?_
      simp only [Act.put, List.setIfInBounds_toArray, List.set_cons_zero, List.set_cons_succ]
      refine hr_take_w 2 (some 42) (.pointer (some ⟨d.b, 0, none⟩)) rfl rfl (by kernel_rfl) (by kernel_rfl) (by kernel_rfl) rfl (fun W hW => by obtain ⟨h0, h1⟩ := hW; go_simp) bH0 ?_
      simp only [Act.put, List.setIfInBounds_toArray, List.set_cons_zero, List.set_cons_succ]
      refine hr_take_w 3 (some 43) (.int .i64 d.L) rfl rfl (by kernel_rfl) (by kernel_rfl) (by kernel_rfl) rfl (fun W hW => by obtain ⟨h0, h1⟩ := hW; go_simp) bH0 ?_
      simp only [Act.put, List.setIfInBounds_toArray, List.set_cons_zero, List.set_cons_succ]
      refine hr_take_w 4 (some 44) (.pointer (some ⟨f.b, 0, none⟩)) rfl rfl (by kernel_rfl) (by kernel_rfl) (by kernel_rfl) rfl (fun W hW => by obtain ⟨h0, h1⟩ := hW; go_simp) bH0 ?_
      simp only [Act.put, List.setIfInBounds_toArray, List.set_cons_zero, List.set_cons_succ]
      refine hr_take_w 5 (some 45) (.pointer (some ⟨f.b, 0, none⟩)) rfl rfl (by kernel_rfl) (by kernel_rfl) (by kernel_rfl) rfl (fun W hW => by obtain ⟨h0, h1⟩ := hW; go_simp) bH0 ?_
      simp only [Act.put, List.setIfInBounds_toArray, List.set_cons_zero, List.set_cons_succ]
      refine hr_take_w 6 (some 46) (.pointer (some ⟨f.b, 0, none⟩)) rfl rfl (by kernel_rfl) (by kernel_rfl) (by kernel_rfl) rfl (fun W hW => by obtain ⟨h0, h1⟩ := hW; go_simp) bH0 ?_
      simp only [Act.put, List.setIfInBounds_toArray, List.set_cons_zero, List.set_cons_succ]
      refine hr_take_w 7 (some 47) (.int .i64 f.L) rfl rfl (by kernel_rfl) (by kernel_rfl) (by kernel_rfl) rfl (fun W hW => by obtain ⟨h0, h1⟩ := hW; go_simp) bH0 ?_
      simp only [Act.put, List.setIfInBounds_toArray, List.set_cons_zero, List.set_cons_succ]
      refine hr_take_w 8 (some 48) (.bool true) rfl rfl (by kernel_rfl) (by kernel_rfl) (by kernel_rfl) rfl (fun W hW => by obtain ⟨h0, h1⟩ := hW; go_simp) bH0 ?_
      simp only [Act.put, List.setIfInBounds_toArray, List.set_cons_zero, List.set_cons_succ]
      refine wpAnyH_done (by kernel_rfl) ?_ _
      refine NoPanic.normal ?_
      have Bb : Below w.heap.size w bv0 := aE0.trans (bE0.mono aE0.size)
      have Nb := h.below Bb
      obtain ⟨kb, ko, s', u, eco, hs1, hs2, hcell, hTk, hlen⟩ := Nb.kidAt d.ks.length (by omega)
      obtain rfl : s = s' := Option.some.inj (c.seg.symm.trans hs1)
      have c3 := Nb.ok.c3
      rw [eco] at c3
      have c0 : (d.ks.length : Int) < (d.cs.length : Int) := by omega
      have CI := ih bv0 u (.pointer (some ⟨f.b, 0, none⟩)) s l2 (by omega) hTk (h2.below Bb) (by omega)
      clear eco hs1 hs2
      go_wp2_with fail
      refine CI.mono ?_
      rintro e w2 ⟨x, rfl, Tx, B2'⟩
      have B2 : Below w.heap.size w w2 := Bb.trans (B2'.mono Bb.size)
      have CW := withKid_any w2 l1 d segs xs (h.below B2) d.ks.length s A B (s ++ l2) c x Tx (by
        intro y hy
        rcases List.mem_append.1 hy with hy | hy
        · exact c.ls y hy
        · have := k.shp.le y hy
          omega) (by omega)
      unfold Nd.ptr at CW
      clear CI c3 hcell hTk B2'
      go_wp2_with fail
      refine CW.mono ?_
      rintro e w3 ⟨z, rfl, Tz, B3'⟩
      have B3 : Below w.heap.size w w3 := B2.trans (B3'.mono B2.size)
      go_wp2
      go_ret
      refine ⟨_, rfl, ?_, B3⟩
      have e : l1 ++ l2 = A ++ ((s ++ l2) ++ B) := by rw [c.el, hB.out]; simp
      rw [e]
      exact Tz
    have hgt' : ¬ (f.L : Int) < (d.L : Int) := by omega
    have hLe : Hid (f.L = d.L) := by show _ = _; omega
    go_enter Tryz.func184, Tryz.ntmps184
    go_wp2_with fail
    have aHS : Hid (∀ V, Below w.heap.size w V → V.cell? ⟨d.b, 0, none⟩ = some (.int .i64 d.L) ∧ V.cell? ⟨f.b, 0, none⟩ = some (.int .i64 f.L)) := fun V hV => ⟨(h.ok.below hV).c0, (k.ok.below hV).c0⟩
    have aE0 : Below w.heap.size w w.drew := (Below.refl _ _).drew
    refine wp_region_noPanic ?_
    refine wp_region_held_drew (S := fun V => V.cell? ⟨d.b, 0, none⟩ = some (.int .i64 d.L) ∧ V.cell? ⟨f.b, 0, none⟩ = some (.int .i64 f.L)) (by kernel_rfl) (aHS.out _ aE0) (fun aH0 => ?_)
    obtain ⟨av0, hv0⟩ : ∃ v, v = w.drew := ⟨_, rfl⟩
    rw [← hv0] at aH0 aE0 ⊢
    clear hv0
    refine hr_take_w 0 (some 16) (.pointer (some ⟨d.b, 0, none⟩)) rfl rfl (by kernel_rfl) (by kernel_rfl) (by kernel_rfl) rfl (fun W hW => by obtain ⟨h0, h1⟩ := hW; go_simp) aH0 ?_
    simp only [Act.put, List.setIfInBounds_toArray, List.set_cons_zero, List.set_cons_succ]
    refine hr_take_w 1 (some 17) (.pointer (some ⟨d.b, 0, none⟩)) rfl rfl (by kernel_rfl) (by kernel_rfl) (by kernel_rfl) rfl (fun W hW => by obtain ⟨h0, h1⟩ := hW; go_simp) aH0 ?_
    simp only [Act.put, List.setIfInBounds_toArray, List.set_cons_zero, List.set_cons_succ]
    refine hr_take_w 2 (some 18) (.pointer (some ⟨d.b, 0, none⟩)) rfl rfl (by kernel_rfl) (by kernel_rfl) (by kernel_rfl) rfl (fun W hW => by obtain ⟨h0, h1⟩ := hW; go_simp) aH0 ?_
    simp only [Act.put, List.setIfInBounds_toArray, List.set_cons_zero, List.set_cons_succ]
    refine hr_take_w 3 (some 19) (.int .i64 d.L) rfl rfl (by kernel_rfl) (by kernel_rfl) (by kernel_rfl) rfl (fun W hW => by obtain ⟨h0, h1⟩ := hW; go_simp) aH0 ?_
    simp only [Act.put, List.setIfInBounds_toArray, List.set_cons_zero, List.set_cons_succ]
    refine hr_take_w 4 (some 20) (.pointer (some ⟨f.b, 0, none⟩)) rfl rfl (by kernel_rfl) (by kernel_rfl) (by kernel_rfl) rfl (fun W hW => by obtain ⟨h0, h1⟩ := hW; go_simp) aH0 ?_
    simp only [Act.put, List.setIfInBounds_toArray, List.set_cons_zero, List.set_cons_succ]
    refine hr_take_w 5 (some 21) (.pointer (some ⟨f.b, 0, none⟩)) rfl rfl (by kernel_rfl) (by kernel_rfl) (by kernel_rfl) rfl (fun W hW => by obtain ⟨h0, h1⟩ := hW; go_simp) aH0 ?_
    simp only [Act.put, List.setIfInBounds_toArray, List.set_cons_zero, List.set_cons_succ]
    refine hr_take_w 6 (some 22) (.pointer (some ⟨f.b, 0, none⟩)) rfl rfl (by kernel_rfl) (by kernel_rfl) (by kernel_rfl) rfl (fun W hW => by obtain ⟨h0, h1⟩ := hW; go_simp) aH0 ?_
    simp only [Act.put, List.setIfInBounds_toArray, List.set_cons_zero, List.set_cons_succ]
    refine hr_take_w 7 (some 23) (.int .i64 f.L) rfl rfl (by kernel_rfl) (by kernel_rfl) (by kernel_rfl) rfl (fun W hW => by obtain ⟨h0, h1⟩ := hW; go_simp) aH0 ?_
    simp only [Act.put, List.setIfInBounds_toArray, List.set_cons_zero, List.set_cons_succ]
    refine hr_take_w 8 (some 24) (.bool false) rfl rfl (by kernel_rfl) (by kernel_rfl) (by kernel_rfl) rfl (fun W hW => by obtain ⟨h0, h1⟩ := hW; go_simp) aH0 ?_
    simp only [Act.put, List.setIfInBounds_toArray, List.set_cons_zero, List.set_cons_succ]
    refine hr_take_w 9 (some 15) (.bool false) rfl rfl (by kernel_rfl) (by kernel_rfl) (by kernel_rfl) rfl (fun W hW => by obtain ⟨h0, h1⟩ := hW; go_simp) aH0 ?_
    simp only [Act.put, List.setIfInBounds_toArray, List.set_cons_zero, List.set_cons_succ]
    refine wpAnyH_done (by kernel_rfl) ?_ _
    refine NoPanic.normal ?_
    have Na := h.below aE0
    have Ka := k.below aE0
    have c1 := Na.ok.c1
    go_wp2_with fail
    have bHS : Hid (∀ V, Below av0.heap.size av0 V → V.cell? ⟨d.b, 0, none⟩ = some (.int .i64 d.L) ∧ V.cell? ⟨f.b, 0, none⟩ = some (.int .i64 f.L)) := fun V hV => ⟨(Na.ok.below hV).c0, (Ka.ok.below hV).c0⟩
    have bE0 : Below av0.heap.size av0 av0.drew := (Below.refl _ _).drew
    refine wp_region_noPanic ?_
    refine wp_region_held_drew (S := fun V => V.cell? ⟨d.b, 0, none⟩ = some (.int .i64 d.L) ∧ V.cell? ⟨f.b, 0, none⟩ = some (.int .i64 f.L)) (by kernel_rfl) (bHS.out _ bE0) (fun bH0 => ?_)
    obtain ⟨bv0, hv0⟩ : ∃ v, v = av0.drew := ⟨_, rfl⟩
    rw [← hv0] at bH0 bE0 ⊢
    clear hv0
    refine hr_take_w 0 (some 40) (.pointer (some ⟨d.b, 0, none⟩)) rfl rfl (by kernel_rfl) (by kernel_rfl) (by kernel_rfl) rfl (fun W hW => by obtain ⟨h0, h1⟩ := hW; go_simp) bH0 ?_
    simp only [Act.put, List.setIfInBounds_toArray, List.set_cons_zero, List.set_cons_succ]
    refine hr_take_w 1 (some 41) (.pointer (some ⟨d.b, 0, none⟩)) rfl rfl (by kernel_rfl) (by kernel_rfl) (by kernel_rfl) rfl (fun W hW => by obtain ⟨h0, h1⟩ := hW; go_simp) bH0 ?_
    simp only [Act.put, List.setIfInBounds_toArray, List.set_cons_zero, List.set_cons_succ]
    refine hr_take_w 2 (some 42) (.pointer (some ⟨d.b, 0, none⟩)) rfl rfl (by kernel_rfl) (by kernel_rfl) (by kernel_rfl) rfl (fun W hW => by obtain ⟨h0, h1⟩ := hW; go_simp) bH0 ?_
    simp only [Act.put, List.setIfInBounds_toArray, List.set_cons_zero, List.set_cons_succ]
    refine hr_take_w 3 (some 43) (.int .i64 d.L) rfl rfl (by kernel_rfl) (by kernel_rfl) (by kernel_rfl) rfl (fun W hW => by obtain ⟨h0, h1⟩ := hW; go_simp) bH0 ?_
    simp only [Act.put, List.setIfInBounds_toArray, List.set_cons_zero, List.set_cons_succ]
    refine hr_take_w 4 (some 44) (.pointer (some ⟨f.b, 0, none⟩)) rfl rfl (by kernel_rfl) (by kernel_rfl) (by kernel_rfl) rfl (fun W hW => by obtain ⟨h0, h1⟩ := hW; go_simp) bH0 ?_
    simp only [Act.put, List.setIfInBounds_toArray, List.set_cons_zero, List.set_cons_succ]
    refine hr_take_w 5 (some 45) (.pointer (some ⟨f.b, 0, none⟩)) rfl rfl (by kernel_rfl) (by kernel_rfl) (by kernel_rfl) rfl (fun W hW => by obtain ⟨h0, h1⟩ := hW; go_simp) bH0 ?_
    simp only [Act.put, List.setIfInBounds_toArray, List.set_cons_zero, List.set_cons_succ]
    refine hr_take_w 6 (some 46) (.pointer (some ⟨f.b, 0, none⟩)) rfl rfl (by kernel_rfl) (by kernel_rfl) (by kernel_rfl) rfl (fun W hW => by obtain ⟨h0, h1⟩ := hW; go_simp) bH0 ?_
    simp only [Act.put, List.setIfInBounds_toArray, List.set_cons_zero, List.set_cons_succ]
    refine hr_take_w 7 (some 47) (.int .i64 f.L) rfl rfl (by kernel_rfl) (by kernel_rfl) (by kernel_rfl) rfl (fun W hW => by obtain ⟨h0, h1⟩ := hW; go_simp) bH0 ?_
    simp only [Act.put, List.setIfInBounds_toArray, List.set_cons_zero, List.set_cons_succ]
    refine hr_take_w 8 (some 48) (.bool false) rfl rfl (by kernel_rfl) (by kernel_rfl) (by kernel_rfl) rfl (fun W hW => by obtain ⟨h0, h1⟩ := hW; go_simp) bH0 ?_
    simp only [Act.put, List.setIfInBounds_toArray, List.set_cons_zero, List.set_cons_succ]
    refine wpAnyH_done (by kernel_rfl) ?_ _
    refine NoPanic.normal ?_
    have Bb : Below w.heap.size w bv0 := aE0.trans (bE0.mono aE0.size)
    have Nb := h.below Bb
    have Kb := k.below Bb
    have hjoin : Hid (∃ s t, segs[xs.length]? = some s ∧ fegs[0]? = some t ∧ ∀ u, u = s ++ t → Shp lev (l1 ++ l2) d.L (segs.take xs.length ++ u :: fegs.drop 1) (xs ++ ys)) := by
      have hk2 := k.shp
      rw [hLe.out] at hk2
      exact h.shp.join hk2
    obtain ⟨s, t, hsg, htg, hsh⟩ := hjoin.out
    have HSH := hsh _ rfl
    clear hjoin hsh
    obtain ⟨kb, ko, s', u, eco, hs1, hs2, hcell, hTk, hlen⟩ := Nb.kidAt d.ks.length (by omega)
    obtain ⟨jb, jo, t', u2, ecf, ht1, ht2, hcell2, hTk2, hlen2⟩ := Kb.kidAt 0 (Nat.zero_le _)
    have hxl : xs.length = d.ks.length := h.nk.symm
    rw [hxl] at hsg
    obtain rfl : s = s' := Option.some.inj (hsg.symm.trans hs1)
    obtain rfl : t = t' := Option.some.inj (htg.symm.trans ht1)
    rw [Nat.add_zero] at hcell2
    clear hxl hs1 hs2 ht1 ht2
    have CI : ∀ V, Below bv0.heap.size bv0 V → Calls Tryz.prog 184 #[u, u2] V fun e w' => ∃ x, e = .returned (.pointer x) ∧ T w' (.pointer x) (s ++ t) ∧ Below V.heap.size V w' := by
      intro V hV
      refine (ih V u u2 s t (by omega) (hTk.below hV) (hTk2.below hV) (by omega)).mono ?_
      rintro e w' ⟨z, rfl, Tz, hb⟩
      obtain ⟨x, rfl⟩ := Tz.ptr
      exact ⟨x, rfl, Tz, hb⟩
    obtain ⟨q1, rfl⟩ := hTk.ptr
    obtain ⟨q2, rfl⟩ := hTk2.ptr
    have c0 : (d.ks.length : Int) < (d.cs.length : Int) := by omega
    have hfne : ¬ f.cs = [] := by
      intro e
      rw [e] at knc2
      simp at knc2
    have hw : IntKind.i64.wrap ((d.ks.length : Int) + 1) = (d.ks.length : Int) + 1 := by have := wrap_nat (k := d.ks.length + 1) (by omega); simpa using this
    go_wp2_with fail
    have cHS : Hid (∀ V, Below bv0.heap.size bv0 V → V.cell? ⟨d.b, 3, none⟩ = some (.slice (some ⟨kb, ko, none⟩) d.cs.length d.cc) ∧ V.cell? ⟨f.b, 3, none⟩ = some (.slice (some ⟨jb, jo, none⟩) f.cs.length f.cc) ∧ V.cell? ⟨kb, ko + d.ks.length, none⟩ = some (.pointer q1) ∧ V.cell? ⟨jb, jo, none⟩ = some (.pointer q2)) := fun V hV => ⟨by rw [← eco]; exact (Nb.ok.below hV).c3, by rw [← ecf]; exact (Kb.ok.below hV).c3, (hV.cell (World.block_lt_of_cell? _ _ hcell)).trans hcell, (hV.cell (World.block_lt_of_cell? _ _ hcell2)).trans hcell2⟩
    have cE0 : Below bv0.heap.size bv0 bv0.drew := (Below.refl _ _).drew
    refine wp_region_noPanic ?_
    refine wp_region_held_drew (S := fun V => V.cell? ⟨d.b, 3, none⟩ = some (.slice (some ⟨kb, ko, none⟩) d.cs.length d.cc) ∧ V.cell? ⟨f.b, 3, none⟩ = some (.slice (some ⟨jb, jo, none⟩) f.cs.length f.cc) ∧ V.cell? ⟨kb, ko + d.ks.length, none⟩ = some (.pointer q1) ∧ V.cell? ⟨jb, jo, none⟩ = some (.pointer q2)) (by kernel_rfl) (cHS.out _ cE0) (fun cH0 => ?_)
    obtain ⟨cv0, hv0⟩ : ∃ v, v = bv0.drew := ⟨_, rfl⟩
    rw [← hv0] at cH0 cE0 ⊢
    clear hv0
    refine hr_take_w 0 (some 61) (.pointer (some ⟨f.b, 0, none⟩)) rfl rfl (by kernel_rfl) (by kernel_rfl) (by kernel_rfl) rfl (fun W hW => by obtain ⟨h0, h1, h2, h3⟩ := hW; go_simp) cH0 ?_
    simp only [Act.put, List.setIfInBounds_toArray, List.set_cons_zero, List.set_cons_succ]
    refine hr_take_w 1 (some 62) (.pointer (some ⟨f.b, 0, none⟩)) rfl rfl (by kernel_rfl) (by kernel_rfl) (by kernel_rfl) rfl (fun W hW => by obtain ⟨h0, h1, h2, h3⟩ := hW; go_simp) cH0 ?_
    simp only [Act.put, List.setIfInBounds_toArray, List.set_cons_zero, List.set_cons_succ]
    refine hr_take_w 2 (some 63) (.pointer (some ⟨f.b, 3, none⟩)) rfl rfl (by kernel_rfl) (by kernel_rfl) (by kernel_rfl) rfl (fun W hW => by obtain ⟨h0, h1, h2, h3⟩ := hW; go_simp) cH0 ?_
    simp only [Act.put, List.setIfInBounds_toArray, List.set_cons_zero, List.set_cons_succ]
    refine hr_take_w 3 (some 64) (.slice (some ⟨jb, jo, none⟩) f.cs.length f.cc) rfl rfl (by kernel_rfl) (by kernel_rfl) (by kernel_rfl) rfl (fun W hW => by obtain ⟨h0, h1, h2, h3⟩ := hW; go_simp) cH0 ?_
    simp only [Act.put, List.setIfInBounds_toArray, List.set_cons_zero, List.set_cons_succ]
    refine hr_take_w 4 (some 65) (.pointer (some ⟨d.b, 0, none⟩)) rfl rfl (by kernel_rfl) (by kernel_rfl) (by kernel_rfl) rfl (fun W hW => by obtain ⟨h0, h1, h2, h3⟩ := hW; go_simp) cH0 ?_
    simp only [Act.put, List.setIfInBounds_toArray, List.set_cons_zero, List.set_cons_succ]
    refine hr_take_w 5 (some 66) (.pointer (some ⟨d.b, 0, none⟩)) rfl rfl (by kernel_rfl) (by kernel_rfl) (by kernel_rfl) rfl (fun W hW => by obtain ⟨h0, h1, h2, h3⟩ := hW; go_simp) cH0 ?_
    simp only [Act.put, List.setIfInBounds_toArray, List.set_cons_zero, List.set_cons_succ]
    refine hr_take_w 6 (some 67) (.pointer (some ⟨d.b, 3, none⟩)) rfl rfl (by kernel_rfl) (by kernel_rfl) (by kernel_rfl) rfl (fun W hW => by obtain ⟨h0, h1, h2, h3⟩ := hW; go_simp) cH0 ?_
    simp only [Act.put, List.setIfInBounds_toArray, List.set_cons_zero, List.set_cons_succ]
    refine hr_take_w 7 (some 68) (.slice (some ⟨kb, ko, none⟩) d.cs.length d.cc) rfl rfl (by kernel_rfl) (by kernel_rfl) (by kernel_rfl) rfl (fun W hW => by obtain ⟨h0, h1, h2, h3⟩ := hW; go_simp) cH0 ?_
    simp only [Act.put, List.setIfInBounds_toArray, List.set_cons_zero, List.set_cons_succ]
    refine hr_take_w 8 (some 69) (.int .i64 d.ks.length) rfl rfl (by kernel_rfl) (by kernel_rfl) (by kernel_rfl) rfl (fun W hW => by obtain ⟨h0, h1, h2, h3⟩ := hW; go_simp) cH0 ?_
    simp only [Act.put, List.setIfInBounds_toArray, List.set_cons_zero, List.set_cons_succ]
    refine hr_take_w 9 (some 70) (.pointer (some ⟨kb, ko + d.ks.length, none⟩)) rfl rfl (by kernel_rfl) (by kernel_rfl) (by kernel_rfl) rfl (fun W hW => by obtain ⟨h0, h1, h2, h3⟩ := hW; go_simp) cH0 ?_
    simp only [Act.put, List.setIfInBounds_toArray, List.set_cons_zero, List.set_cons_succ]
    refine hr_take_w 10 (some 71) (.pointer q1) rfl rfl (by kernel_rfl) (by kernel_rfl) (by kernel_rfl) rfl (fun W hW => by obtain ⟨h0, h1, h2, h3⟩ := hW; go_simp) cH0 ?_
    simp only [Act.put, List.setIfInBounds_toArray, List.set_cons_zero, List.set_cons_succ]
    refine hr_take_w 11 (some 72) (.pointer (some ⟨f.b, 0, none⟩)) rfl rfl (by kernel_rfl) (by kernel_rfl) (by kernel_rfl) rfl (fun W hW => by obtain ⟨h0, h1, h2, h3⟩ := hW; go_simp) cH0 ?_
    simp only [Act.put, List.setIfInBounds_toArray, List.set_cons_zero, List.set_cons_succ]
    refine hr_take_w 12 (some 73) (.pointer (some ⟨f.b, 0, none⟩)) rfl rfl (by kernel_rfl) (by kernel_rfl) (by kernel_rfl) rfl (fun W hW => by obtain ⟨h0, h1, h2, h3⟩ := hW; go_simp) cH0 ?_
    simp only [Act.put, List.setIfInBounds_toArray, List.set_cons_zero, List.set_cons_succ]
    refine hr_take_w 13 (some 74) (.pointer (some ⟨f.b, 3, none⟩)) rfl rfl (by kernel_rfl) (by kernel_rfl) (by kernel_rfl) rfl (fun W hW => by obtain ⟨h0, h1, h2, h3⟩ := hW; go_simp) cH0 ?_
    simp only [Act.put, List.setIfInBounds_toArray, List.set_cons_zero, List.set_cons_succ]
    refine hr_take_w 14 (some 75) (.slice (some ⟨jb, jo, none⟩) f.cs.length f.cc) rfl rfl (by kernel_rfl) (by kernel_rfl) (by kernel_rfl) rfl (fun W hW => by obtain ⟨h0, h1, h2, h3⟩ := hW; go_simp) cH0 ?_
    simp only [Act.put, List.setIfInBounds_toArray, List.set_cons_zero, List.set_cons_succ]
    refine hr_take_w 15 (some 76) (.pointer (some ⟨jb, jo, none⟩)) rfl rfl (by kernel_rfl) (by kernel_rfl) (by kernel_rfl) rfl (fun W hW => by obtain ⟨h0, h1, h2, h3⟩ := hW; go_simp) cH0 ?_
    simp only [Act.put, List.setIfInBounds_toArray, List.set_cons_zero, List.set_cons_succ]
    refine hr_take_w 16 (some 77) (.pointer q2) rfl rfl (by kernel_rfl) (by kernel_rfl) (by kernel_rfl) rfl (fun W hW => by obtain ⟨h0, h1, h2, h3⟩ := hW; go_simp) cH0 ?_
    simp only [Act.put, List.setIfInBounds_toArray, List.set_cons_zero, List.set_cons_succ]
    refine hr_call_w 17 (some 78) 184 #[.pointer q1, .pointer q2] rfl rfl (by kernel_rfl) rfl (by go_simp) (fun v w' => ∃ x, v = .pointer x ∧ T w' (.pointer x) (s ++ t) ∧ Below cv0.heap.size cv0 w') ((CI _ cE0).mono (by
      rintro e w' ⟨x, rfl, F, C⟩
      exact ⟨_, rfl, x, rfl, F, C⟩)) ?_
    rintro v cv1 ⟨x, rfl, cF0, cC0⟩
    have cE1 := cE0.trans (cC0.mono cE0.size)
    have cH1 := cHS.out cv1 cE1
    refine ⟨cH1, ?_⟩
    simp only [Act.put, List.setIfInBounds_toArray, List.set_cons_zero, List.set_cons_succ]
    refine hr_ex 18 (some 79) rfl rfl (by kernel_rfl) rfl (R := fun v w' => ∃ g, v = .slice (some ⟨g, 0, none⟩) 1 1 ∧ VL w' (some ⟨g, 0, none⟩) 1 1 [.pointer x] ∧ Below cv1.heap.size cv1 w') (⟨_, _, by go_simp, _, rfl, VL.new cv1 [.pointer x] 92 (by simp [maxLen]), (Below.refl _ _).alloc (Nat.le_refl _) _⟩) ?_
    rintro v cv2 ⟨cg1, rfl, cG1, cC1⟩
    have cE2 := cE1.trans (cC1.mono cE1.size)
    have cH2 := cHS.out cv2 cE2
    refine ⟨cH2, ?_⟩
    simp only [Act.put, List.setIfInBounds_toArray, List.set_cons_zero, List.set_cons_succ]
    refine hr_call_w 19 (some 80) 168 #[.slice (some ⟨jb, jo, none⟩) f.cs.length f.cc, .int .i64 0, .int .i64 1, .slice (some ⟨cg1, 0, none⟩) 1 1] rfl rfl (by kernel_rfl) rfl (by go_simp) (fun v w' => ∃ ro rc, v = .slice ro (0 + 1 + (f.cs.length - 1)) rc ∧ VL w' ro (0 + 1 + (f.cs.length - 1)) rc (f.cs.take 0 ++ [.pointer x] ++ f.cs.drop 1) ∧ Below cv2.heap.size cv2 w') ((chgN_any cv2 (some ⟨jb, jo, none⟩) (some ⟨cg1, 0, none⟩) f.cs.length f.cc 1 1 0 1 f.cs [.pointer x] (by rw [← ecf]; exact Kb.ok.cl.below cE2) cG1 Kb.one (by intro y hy; rw [List.mem_singleton.1 hy]; rfl) (by omega) (by omega) (by omega)).mono (by
      rintro e w' ⟨ro, rc, rfl, F, C⟩
      exact ⟨_, rfl, ro, rc, rfl, F, C⟩)) ?_
    rintro v cv3 ⟨ro, rc, rfl, cF2, cC2⟩
    have cE3 := cE2.trans (cC2.mono cE2.size)
    have cH3 := cHS.out cv3 cE3
    clear cG1
    refine ⟨cH3, ?_⟩
    simp only [Act.put, List.setIfInBounds_toArray, List.set_cons_zero, List.set_cons_succ]
    refine hr_take_w 20 (some 6) (.slice ro (0 + 1 + (f.cs.length - 1)) rc) rfl rfl (by kernel_rfl) (by kernel_rfl) (by kernel_rfl) rfl (fun W hW => by obtain ⟨h0, h1, h2, h3⟩ := hW; go_simp) cH3 ?_
    simp only [Act.put, List.setIfInBounds_toArray, List.set_cons_zero, List.set_cons_succ]
    refine wpAnyH_done (by kernel_rfl) ?_ _
    refine NoPanic.normal ?_
    have tk := cF0.below (cC1.trans (cC2.mono cC1.size))
    rw [show f.cs.take 0 ++ [.pointer x] ++ f.cs.drop 1 = .pointer x :: f.cs.drop 1 from by simp] at cF2
    have Nc := Nb.below cE3
    have Kc := Kb.below cE3
    have Bc : Below w.heap.size w cv3 := Bb.trans (cE3.mono Bb.size)
    clear cF0
    go_wp2_with fail
    have eHS : Hid (∀ V, Below cv3.heap.size cv3 V → V.cell? ⟨d.b, 0, none⟩ = some (.int .i64 d.L) ∧ V.cell? ⟨d.b, 1, none⟩ = some (.slice d.ko d.ks.length d.kc) ∧ V.cell? ⟨d.b, 2, none⟩ = some (.slice d.vo d.vs.length d.vc) ∧ V.cell? ⟨d.b, 3, none⟩ = some (.slice d.co d.cs.length d.cc) ∧ V.cell? ⟨f.b, 0, none⟩ = some (.int .i64 f.L) ∧ V.cell? ⟨f.b, 1, none⟩ = some (.slice f.ko f.ks.length f.kc) ∧ V.cell? ⟨f.b, 2, none⟩ = some (.slice f.vo f.vs.length f.vc) ∧ V.cell? ⟨f.b, 3, none⟩ = some (.slice f.co f.cs.length f.cc)) := fun V hV => ⟨(Nc.ok.below hV).c0, (Nc.ok.below hV).c1, (Nc.ok.below hV).c2, (Nc.ok.below hV).c3, (Kc.ok.below hV).c0, (Kc.ok.below hV).c1, (Kc.ok.below hV).c2, (Kc.ok.below hV).c3⟩
    have eE0 : Below cv3.heap.size cv3 cv3.drew := (Below.refl _ _).drew
    refine wp_region_noPanic ?_
    refine wp_region_held_drew (S := fun V => V.cell? ⟨d.b, 0, none⟩ = some (.int .i64 d.L) ∧ V.cell? ⟨d.b, 1, none⟩ = some (.slice d.ko d.ks.length d.kc) ∧ V.cell? ⟨d.b, 2, none⟩ = some (.slice d.vo d.vs.length d.vc) ∧ V.cell? ⟨d.b, 3, none⟩ = some (.slice d.co d.cs.length d.cc) ∧ V.cell? ⟨f.b, 0, none⟩ = some (.int .i64 f.L) ∧ V.cell? ⟨f.b, 1, none⟩ = some (.slice f.ko f.ks.length f.kc) ∧ V.cell? ⟨f.b, 2, none⟩ = some (.slice f.vo f.vs.length f.vc) ∧ V.cell? ⟨f.b, 3, none⟩ = some (.slice f.co f.cs.length f.cc)) (by kernel_rfl) (eHS.out _ eE0) (fun eH0 => ?_)
    obtain ⟨ev0, hv0⟩ : ∃ v, v = cv3.drew := ⟨_, rfl⟩
    rw [← hv0] at eH0 eE0 ⊢
    clear hv0
    refine hr_take_w 0 (some 81) (.pointer (some ⟨d.b, 0, none⟩)) rfl rfl (by kernel_rfl) (by kernel_rfl) (by kernel_rfl) rfl (fun W hW => by obtain ⟨h0, h1, h2, h3, h4, h5, h6, h7⟩ := hW; go_simp) eH0 ?_
    simp only [Act.put, List.setIfInBounds_toArray, List.set_cons_zero, List.set_cons_succ]
    refine hr_take_w 1 (some 82) (.pointer (some ⟨d.b, 0, none⟩)) rfl rfl (by kernel_rfl) (by kernel_rfl) (by kernel_rfl) rfl (fun W hW => by obtain ⟨h0, h1, h2, h3, h4, h5, h6, h7⟩ := hW; go_simp) eH0 ?_
    simp only [Act.put, List.setIfInBounds_toArray, List.set_cons_zero, List.set_cons_succ]
    refine hr_take_w 2 (some 83) (.pointer (some ⟨d.b, 0, none⟩)) rfl rfl (by kernel_rfl) (by kernel_rfl) (by kernel_rfl) rfl (fun W hW => by obtain ⟨h0, h1, h2, h3, h4, h5, h6, h7⟩ := hW; go_simp) eH0 ?_
    simp only [Act.put, List.setIfInBounds_toArray, List.set_cons_zero, List.set_cons_succ]
    refine hr_take_w 3 (some 84) (.int .i64 d.L) rfl rfl (by kernel_rfl) (by kernel_rfl) (by kernel_rfl) rfl (fun W hW => by obtain ⟨h0, h1, h2, h3, h4, h5, h6, h7⟩ := hW; go_simp) eH0 ?_
    simp only [Act.put, List.setIfInBounds_toArray, List.set_cons_zero, List.set_cons_succ]
    refine hr_take_w 4 (some 85) (.pointer (some ⟨d.b, 0, none⟩)) rfl rfl (by kernel_rfl) (by kernel_rfl) (by kernel_rfl) rfl (fun W hW => by obtain ⟨h0, h1, h2, h3, h4, h5, h6, h7⟩ := hW; go_simp) eH0 ?_
    simp only [Act.put, List.setIfInBounds_toArray, List.set_cons_zero, List.set_cons_succ]
    refine hr_take_w 5 (some 86) (.pointer (some ⟨d.b, 0, none⟩)) rfl rfl (by kernel_rfl) (by kernel_rfl) (by kernel_rfl) rfl (fun W hW => by obtain ⟨h0, h1, h2, h3, h4, h5, h6, h7⟩ := hW; go_simp) eH0 ?_
    simp only [Act.put, List.setIfInBounds_toArray, List.set_cons_zero, List.set_cons_succ]
    refine hr_take_w 6 (some 87) (.pointer (some ⟨d.b, 1, none⟩)) rfl rfl (by kernel_rfl) (by kernel_rfl) (by kernel_rfl) rfl (fun W hW => by obtain ⟨h0, h1, h2, h3, h4, h5, h6, h7⟩ := hW; go_simp) eH0 ?_
    simp only [Act.put, List.setIfInBounds_toArray, List.set_cons_zero, List.set_cons_succ]
    refine hr_take_w 7 (some 88) (.slice d.ko d.ks.length d.kc) rfl rfl (by kernel_rfl) (by kernel_rfl) (by kernel_rfl) rfl (fun W hW => by obtain ⟨h0, h1, h2, h3, h4, h5, h6, h7⟩ := hW; go_simp) eH0 ?_
    simp only [Act.put, List.setIfInBounds_toArray, List.set_cons_zero, List.set_cons_succ]
    refine hr_take_w 8 (some 89) (.int .i64 d.ks.length) rfl rfl (by kernel_rfl) (by kernel_rfl) (by kernel_rfl) rfl (fun W hW => by obtain ⟨h0, h1, h2, h3, h4, h5, h6, h7⟩ := hW; go_simp) eH0 ?_
    simp only [Act.put, List.setIfInBounds_toArray, List.set_cons_zero, List.set_cons_succ]
    refine hr_take_w 9 (some 90) (.int .i64 d.ks.length) rfl rfl (by kernel_rfl) (by kernel_rfl) (by kernel_rfl) rfl (fun W hW => by obtain ⟨h0, h1, h2, h3, h4, h5, h6, h7⟩ := hW; go_simp) eH0 ?_
    simp only [Act.put, List.setIfInBounds_toArray, List.set_cons_zero, List.set_cons_succ]
    refine hr_take_w 10 (some 91) (.pointer (some ⟨f.b, 0, none⟩)) rfl rfl (by kernel_rfl) (by kernel_rfl) (by kernel_rfl) rfl (fun W hW => by obtain ⟨h0, h1, h2, h3, h4, h5, h6, h7⟩ := hW; go_simp) eH0 ?_
    simp only [Act.put, List.setIfInBounds_toArray, List.set_cons_zero, List.set_cons_succ]
    refine hr_take_w 11 (some 92) (.pointer (some ⟨f.b, 0, none⟩)) rfl rfl (by kernel_rfl) (by kernel_rfl) (by kernel_rfl) rfl (fun W hW => by obtain ⟨h0, h1, h2, h3, h4, h5, h6, h7⟩ := hW; go_simp) eH0 ?_
    simp only [Act.put, List.setIfInBounds_toArray, List.set_cons_zero, List.set_cons_succ]
    refine hr_take_w 12 (some 93) (.pointer (some ⟨f.b, 1, none⟩)) rfl rfl (by kernel_rfl) (by kernel_rfl) (by kernel_rfl) rfl (fun W hW => by obtain ⟨h0, h1, h2, h3, h4, h5, h6, h7⟩ := hW; go_simp) eH0 ?_
    simp only [Act.put, List.setIfInBounds_toArray, List.set_cons_zero, List.set_cons_succ]
    refine hr_take_w 13 (some 94) (.slice f.ko f.ks.length f.kc) rfl rfl (by kernel_rfl) (by kernel_rfl) (by kernel_rfl) rfl (fun W hW => by obtain ⟨h0, h1, h2, h3, h4, h5, h6, h7⟩ := hW; go_simp) eH0 ?_
    simp only [Act.put, List.setIfInBounds_toArray, List.set_cons_zero, List.set_cons_succ]
    refine hr_take_w 15 (some 96) (.pointer (some ⟨d.b, 0, none⟩)) rfl rfl (by kernel_rfl) (by kernel_rfl) (by kernel_rfl) rfl (fun W hW => by obtain ⟨h0, h1, h2, h3, h4, h5, h6, h7⟩ := hW; go_simp) eH0 ?_
    simp only [Act.put, List.setIfInBounds_toArray, List.set_cons_zero, List.set_cons_succ]
    refine hr_take_w 16 (some 97) (.pointer (some ⟨d.b, 0, none⟩)) rfl rfl (by kernel_rfl) (by kernel_rfl) (by kernel_rfl) rfl (fun W hW => by obtain ⟨h0, h1, h2, h3, h4, h5, h6, h7⟩ := hW; go_simp) eH0 ?_
    simp only [Act.put, List.setIfInBounds_toArray, List.set_cons_zero, List.set_cons_succ]
    refine hr_take_w 17 (some 98) (.pointer (some ⟨d.b, 2, none⟩)) rfl rfl (by kernel_rfl) (by kernel_rfl) (by kernel_rfl) rfl (fun W hW => by obtain ⟨h0, h1, h2, h3, h4, h5, h6, h7⟩ := hW; go_simp) eH0 ?_
    simp only [Act.put, List.setIfInBounds_toArray, List.set_cons_zero, List.set_cons_succ]
    refine hr_take_w 18 (some 99) (.slice d.vo d.vs.length d.vc) rfl rfl (by kernel_rfl) (by kernel_rfl) (by kernel_rfl) rfl (fun W hW => by obtain ⟨h0, h1, h2, h3, h4, h5, h6, h7⟩ := hW; go_simp) eH0 ?_
    simp only [Act.put, List.setIfInBounds_toArray, List.set_cons_zero, List.set_cons_succ]
    refine hr_take_w 19 (some 100) (.int .i64 d.ks.length) rfl rfl (by kernel_rfl) (by kernel_rfl) (by kernel_rfl) rfl (fun W hW => by obtain ⟨h0, h1, h2, h3, h4, h5, h6, h7⟩ := hW; go_simp) eH0 ?_
    simp only [Act.put, List.setIfInBounds_toArray, List.set_cons_zero, List.set_cons_succ]
    refine hr_take_w 20 (some 101) (.int .i64 d.ks.length) rfl rfl (by kernel_rfl) (by kernel_rfl) (by kernel_rfl) rfl (fun W hW => by obtain ⟨h0, h1, h2, h3, h4, h5, h6, h7⟩ := hW; go_simp) eH0 ?_
    simp only [Act.put, List.setIfInBounds_toArray, List.set_cons_zero, List.set_cons_succ]
    refine hr_take_w 21 (some 102) (.pointer (some ⟨f.b, 0, none⟩)) rfl rfl (by kernel_rfl) (by kernel_rfl) (by kernel_rfl) rfl (fun W hW => by obtain ⟨h0, h1, h2, h3, h4, h5, h6, h7⟩ := hW; go_simp) eH0 ?_
    simp only [Act.put, List.setIfInBounds_toArray, List.set_cons_zero, List.set_cons_succ]
    refine hr_take_w 22 (some 103) (.pointer (some ⟨f.b, 0, none⟩)) rfl rfl (by kernel_rfl) (by kernel_rfl) (by kernel_rfl) rfl (fun W hW => by obtain ⟨h0, h1, h2, h3, h4, h5, h6, h7⟩ := hW; go_simp) eH0 ?_
    simp only [Act.put, List.setIfInBounds_toArray, List.set_cons_zero, List.set_cons_succ]
    refine hr_take_w 23 (some 104) (.pointer (some ⟨f.b, 2, none⟩)) rfl rfl (by kernel_rfl) (by kernel_rfl) (by kernel_rfl) rfl (fun W hW => by obtain ⟨h0, h1, h2, h3, h4, h5, h6, h7⟩ := hW; go_simp) eH0 ?_
    simp only [Act.put, List.setIfInBounds_toArray, List.set_cons_zero, List.set_cons_succ]
    refine hr_take_w 24 (some 105) (.slice f.vo f.vs.length f.vc) rfl rfl (by kernel_rfl) (by kernel_rfl) (by kernel_rfl) rfl (fun W hW => by obtain ⟨h0, h1, h2, h3, h4, h5, h6, h7⟩ := hW; go_simp) eH0 ?_
    simp only [Act.put, List.setIfInBounds_toArray, List.set_cons_zero, List.set_cons_succ]
    refine hr_take_w 26 (some 107) (.pointer (some ⟨d.b, 0, none⟩)) rfl rfl (by kernel_rfl) (by kernel_rfl) (by kernel_rfl) rfl (fun W hW => by obtain ⟨h0, h1, h2, h3, h4, h5, h6, h7⟩ := hW; go_simp) eH0 ?_
    simp only [Act.put, List.setIfInBounds_toArray, List.set_cons_zero, List.set_cons_succ]
    refine hr_take_w 27 (some 108) (.pointer (some ⟨d.b, 0, none⟩)) rfl rfl (by kernel_rfl) (by kernel_rfl) (by kernel_rfl) rfl (fun W hW => by obtain ⟨h0, h1, h2, h3, h4, h5, h6, h7⟩ := hW; go_simp) eH0 ?_
    simp only [Act.put, List.setIfInBounds_toArray, List.set_cons_zero, List.set_cons_succ]
    refine hr_take_w 28 (some 109) (.pointer (some ⟨d.b, 3, none⟩)) rfl rfl (by kernel_rfl) (by kernel_rfl) (by kernel_rfl) rfl (fun W hW => by obtain ⟨h0, h1, h2, h3, h4, h5, h6, h7⟩ := hW; go_simp) eH0 ?_
    simp only [Act.put, List.setIfInBounds_toArray, List.set_cons_zero, List.set_cons_succ]
    refine hr_take_w 29 (some 110) (.slice d.co d.cs.length d.cc) rfl rfl (by kernel_rfl) (by kernel_rfl) (by kernel_rfl) rfl (fun W hW => by obtain ⟨h0, h1, h2, h3, h4, h5, h6, h7⟩ := hW; go_simp) eH0 ?_
    simp only [Act.put, List.setIfInBounds_toArray, List.set_cons_zero, List.set_cons_succ]
    refine hr_take_w 30 (some 111) (.int .i64 d.ks.length) rfl rfl (by kernel_rfl) (by kernel_rfl) (by kernel_rfl) rfl (fun W hW => by obtain ⟨h0, h1, h2, h3, h4, h5, h6, h7⟩ := hW; go_simp) eH0 ?_
    simp only [Act.put, List.setIfInBounds_toArray, List.set_cons_zero, List.set_cons_succ]
    refine hr_take_w 31 (some 112) (.int .i64 d.ks.length) rfl rfl (by kernel_rfl) (by kernel_rfl) (by kernel_rfl) rfl (fun W hW => by obtain ⟨h0, h1, h2, h3, h4, h5, h6, h7⟩ := hW; go_simp) eH0 ?_
    simp only [Act.put, List.setIfInBounds_toArray, List.set_cons_zero, List.set_cons_succ]
    refine hr_take_w 32 (some 113) (.int .i64 ((d.ks.length + 1 : Nat) : Int)) rfl rfl (by kernel_rfl) (by kernel_rfl) (by kernel_rfl) rfl (fun W hW => by obtain ⟨h0, h1, h2, h3, h4, h5, h6, h7⟩ := hW; go_simp) eH0 ?_
    simp only [Act.put, List.setIfInBounds_toArray, List.set_cons_zero, List.set_cons_succ]
    refine hr_take_w 33 (some 114) (.slice ro (0 + 1 + (f.cs.length - 1)) rc) rfl rfl (by kernel_rfl) (by kernel_rfl) (by kernel_rfl) rfl (fun W hW => by obtain ⟨h0, h1, h2, h3, h4, h5, h6, h7⟩ := hW; go_simp) eH0 ?_
    simp only [Act.put, List.setIfInBounds_toArray, List.set_cons_zero, List.set_cons_succ]
    refine hr_call_w 14 (some 95) 167 #[.slice d.ko d.ks.length d.kc, .int .i64 d.ks.length, .int .i64 d.ks.length, .slice f.ko f.ks.length f.kc] rfl rfl (by kernel_rfl) rfl (by go_simp) (fun v w' => ∃ nko nkc, v = .slice nko (d.ks.length + f.ks.length + (d.ks.length - d.ks.length)) nkc ∧ VL w' nko (d.ks.length + f.ks.length + (d.ks.length - d.ks.length)) nkc ((d.ks.map Part.val).take d.ks.length ++ (f.ks.map Part.val) ++ (d.ks.map Part.val).drop d.ks.length) ∧ Below ev0.heap.size ev0 w') ((chgK_any ev0 d.ko f.ko d.ks.length d.kc f.ks.length f.kc d.ks.length d.ks.length (d.ks.map Part.val) (f.ks.map Part.val) (Nc.ok.kl.vl.below eE0) (Kc.ok.kl.vl.below eE0) (part_one _) (part_one _) (Nat.le_refl _) (by omega) (by omega)).mono (by
      rintro e w' ⟨nko, nkc, rfl, F, C⟩
      exact ⟨_, rfl, nko, nkc, rfl, F, C⟩)) ?_
    rintro v ev1 ⟨nko, nkc, rfl, eF0, eC0⟩
    have eE1 := eE0.trans (eC0.mono eE0.size)
    have eH1 := eHS.out ev1 eE1
    refine ⟨eH1, ?_⟩
    simp only [Act.put, List.setIfInBounds_toArray, List.set_cons_zero, List.set_cons_succ]
    refine hr_call_w 25 (some 106) 167 #[.slice d.vo d.vs.length d.vc, .int .i64 d.ks.length, .int .i64 d.ks.length, .slice f.vo f.vs.length f.vc] rfl rfl (by kernel_rfl) rfl (by go_simp) (fun v w' => ∃ nvo nvc, v = .slice nvo (d.ks.length + f.vs.length + (d.vs.length - d.ks.length)) nvc ∧ VL w' nvo (d.ks.length + f.vs.length + (d.vs.length - d.ks.length)) nvc ((d.vs.map Part.val).take d.ks.length ++ (f.vs.map Part.val) ++ (d.vs.map Part.val).drop d.ks.length) ∧ Below ev1.heap.size ev1 w') ((chgK_any ev1 d.vo f.vo d.vs.length d.vc f.vs.length f.vc d.ks.length d.ks.length (d.vs.map Part.val) (f.vs.map Part.val) (Nc.ok.vl.vl.below eE1) (Kc.ok.vl.vl.below eE1) (part_one _) (part_one _) (Nat.le_refl _) (by omega) (by omega)).mono (by
      rintro e w' ⟨nvo, nvc, rfl, F, C⟩
      exact ⟨_, rfl, nvo, nvc, rfl, F, C⟩)) ?_
    rintro v ev2 ⟨nvo, nvc, rfl, eF1, eC1⟩
    have eE2 := eE1.trans (eC1.mono eE1.size)
    have eH2 := eHS.out ev2 eE2
    refine ⟨eH2, ?_⟩
    simp only [Act.put, List.setIfInBounds_toArray, List.set_cons_zero, List.set_cons_succ]
    refine hr_call_w 34 (some 115) 168 #[.slice d.co d.cs.length d.cc, .int .i64 d.ks.length, .int .i64 ((d.ks.length + 1 : Nat) : Int), .slice ro (0 + 1 + (f.cs.length - 1)) rc] rfl rfl (by kernel_rfl) rfl (by go_simp) (fun v w' => ∃ nco ncc, v = .slice nco (d.ks.length + (0 + 1 + (f.cs.length - 1)) + (d.cs.length - (d.ks.length + 1))) ncc ∧ VL w' nco (d.ks.length + (0 + 1 + (f.cs.length - 1)) + (d.cs.length - (d.ks.length + 1))) ncc (d.cs.take d.ks.length ++ (.pointer x :: f.cs.drop 1) ++ d.cs.drop (d.ks.length + 1)) ∧ Below ev2.heap.size ev2 w') ((chgN_any ev2 d.co ro d.cs.length d.cc (0 + 1 + (f.cs.length - 1)) rc d.ks.length (d.ks.length + 1) d.cs (.pointer x :: f.cs.drop 1) (Nc.ok.cl.below eE2) (cF2.below eE2) Nc.one (by intro y hy; rcases List.mem_cons.1 hy with rfl | hy; rfl; exact Kc.one y (List.mem_of_mem_drop hy)) (by omega) (by omega) (by omega)).mono (by
      rintro e w' ⟨nco, ncc, rfl, F, C⟩
      exact ⟨_, rfl, nco, ncc, rfl, F, C⟩)) ?_
    rintro v ev3 ⟨nco, ncc, rfl, eF2, eC2⟩
    have eE3 := eE2.trans (eC2.mono eE2.size)
    have eH3 := eHS.out ev3 eE3
    refine ⟨eH3, ?_⟩
    simp only [Act.put, List.setIfInBounds_toArray, List.set_cons_zero, List.set_cons_succ]
    refine hr_take_w 35 (some 116) (.agg #[.int .i64 d.L, .slice nko (d.ks.length + f.ks.length + (d.ks.length - d.ks.length)) nkc, .slice nvo (d.ks.length + f.vs.length + (d.vs.length - d.ks.length)) nvc, .slice nco (d.ks.length + (0 + 1 + (f.cs.length - 1)) + (d.cs.length - (d.ks.length + 1))) ncc]) rfl rfl (by kernel_rfl) (by kernel_rfl) (by kernel_rfl) rfl (fun W hW => by obtain ⟨h0, h1, h2, h3, h4, h5, h6, h7⟩ := hW; go_simp) eH3 ?_
    simp only [Act.put, List.setIfInBounds_toArray, List.set_cons_zero, List.set_cons_succ]
    refine hr_ex 36 (some 117) rfl rfl (by kernel_rfl) rfl (R := fun v w' => ∃ g, v = .pointer (some ⟨g, 0, none⟩) ∧ w'.heap[g]? = some (.cells #[.int .i64 d.L, .slice nko (d.ks.length + f.ks.length + (d.ks.length - d.ks.length)) nkc, .slice nvo (d.ks.length + f.vs.length + (d.vs.length - d.ks.length)) nvc, .slice nco (d.ks.length + (0 + 1 + (f.cs.length - 1)) + (d.cs.length - (d.ks.length + 1))) ncc] 151) ∧ Below ev3.heap.size ev3 w') (⟨_, _, by go_simp, _, rfl, heap_alloc_new ev3 _, (Below.refl _ _).alloc (Nat.le_refl _) _⟩) ?_
    rintro v ev4 ⟨eg3, rfl, eG3, eC3⟩
    have eE4 := eE3.trans (eC3.mono eE3.size)
    have eH4 := eHS.out ev4 eE4
    refine ⟨eH4, ?_⟩
    simp only [Act.put, List.setIfInBounds_toArray, List.set_cons_zero, List.set_cons_succ]
    refine hr_take_w 37 (some 4) (.pointer (some ⟨eg3, 0, none⟩)) rfl rfl (by kernel_rfl) (by kernel_rfl) (by kernel_rfl) rfl (fun W hW => by obtain ⟨h0, h1, h2, h3, h4, h5, h6, h7⟩ := hW; go_simp) eH4 ?_
    simp only [Act.put, List.setIfInBounds_toArray, List.set_cons_zero, List.set_cons_succ]
    refine wpAnyH_done (by kernel_rfl) ?_ _
    refine NoPanic.normal ?_
    have Be : Below w.heap.size w ev4 := Bc.trans (eE4.mono Bc.size)
    have Ne := Nc.below eE4
    have Ke := Kc.below eE4
    have D12 := eC1.trans (eC2.mono eC1.size)
    have D1 := D12.trans (eC3.mono D12.size)
    have D2 := eC2.trans (eC3.mono eC2.size)
    have K1 := KL.of (ps := d.ks ++ f.ks) (eF0.below D1) (by rw [List.take_of_length_le (by simp), List.drop_eq_nil_of_le (by simp), List.append_nil, List.map_append]) (by
      intro q hq
      rcases List.mem_append.1 hq with hq | hq
      · exact Ne.ok.kl.sl q hq
      · exact Ke.ok.kl.sl q hq)
    have V1 := KL.of (ps := d.vs ++ f.vs) (eF1.below D2) (by rw [List.take_of_length_le (by simp; omega), List.drop_eq_nil_of_le (by simp; omega), List.append_nil, List.map_append]) (by
      intro q hq
      rcases List.mem_append.1 hq with hq | hq
      · exact Ne.ok.vl.sl q hq
      · exact Ke.ok.vl.sl q hq)
    have C1 := eF2.below eC3
    have hdn : d.cs.drop (d.ks.length + 1) = [] := List.drop_eq_nil_of_le (by omega)
    have kd := ((Ne.kids.take xs.length).app (Kids.cons (tk.below eE4) (Ke.kids.drop 1)))
    have hxl : xs.length = d.ks.length := h.nk.symm
    have TT : T ev4 (.pointer (some ⟨eg3, 0, none⟩)) (l1 ++ l2) := T.make eG3 K1 V1 C1 HSH (by rw [List.map_append, List.map_append, Ne.ek, Ke.ek]) (by rw [List.map_append, List.map_append, Ne.ev, Ke.ev]) (by rw [hdn, List.append_nil, ← hxl]; exact kd)
    clear kd hxl hdn
    go_wp2
    go_ret
    exact ⟨_, rfl, TT, Be⟩
end Go.Proofs.YthlpccajnmkbjaaGreatDoor
