/-
  CellBytes.
-/
import Derived.Test.YtepkjnklapamjaaCAlive
import Derived.Test.YtepkjnklapamjaaCKeys
import Derived.Test.YtepkjnklapamjaaCBytes
import Derived.Test.YtepkjnklapamjaaHRegA
namespace Go.Proofs.Ytepkjnklapamjaa
open Go.RowKit

set_option maxHeartbeats 8000000 in
set_option maxRecDepth 100000 in
theorem cellBytes_any (w : World) (k : KA) (okk : k.ok) :
    Calls Try.prog 3 #[k.val] w fun e w' => e = .returned (.bool true) ∧ Below w.heap.size w w' := by
  have qk : KC (w.alloc (Obj.cells #[.string k.row, .string k.fam, .string k.qual, .int .u64 k.time] 24)) (w.heap.size) k := by
    have := KC.new w k
    simpa using this
  have B1' : Below w.heap.size w (w.alloc (Obj.cells #[.string k.row, .string k.fam, .string k.qual, .int .u64 k.time] 24)) := ((Below.refl _ w).alloc (by simp) (Obj.cells #[.string k.row, .string k.fam, .string k.qual, .int .u64 k.time] 24))
  have z1 : (w.alloc (Obj.cells #[.string k.row, .string k.fam, .string k.qual, .int .u64 k.time] 24)).heap.size = w.heap.size + 1 := by simp
  unfold KA.val
  go_enter Try.func3, Try.ntmps3
  go_wp2_with fail
  obtain ⟨w1, hw1⟩ : ∃ W, W = (w.alloc (Obj.cells #[.string k.row, .string k.fam, .string k.qual, .int .u64 k.time] 24)) := ⟨_, rfl⟩
  rw [← hw1] at B1' z1 qk ⊢
  obtain ⟨N, hN⟩ : ∃ N, N = w.heap.size := ⟨_, rfl⟩
  rw [← hN] at z1 qk ⊢
  have B1 : Below N w w1 := by rw [hN]; exact B1'
  have HN : Hid (N = w.heap.size) := hN
  clear B1' hw1 hN
  refine (light4_any w1 k).mono ?_
  rintro e w2 ⟨rfl, C⟩
  have B2 := B1.trans (C.mono (by omega))
  have k2 := qk.keep C
  clear C qk B1
  by_cases hl : k.light = true
  · rw [hl]
    have z2 := B2.size
    have lt2 := k2.lt
    have ek0 := k2.c0
    have ek1 := k2.c1
    have ek2 := k2.c2
    have ek3 := k2.c3
    go_wp2_with fail
    by_cases hr : k.isRight = true
    · refine (pbytes_any w2 k okk hr).mono ?_
      rintro e w3 ⟨ao, n, c, rfl, S3, C⟩
      have B3 := B2.trans (C.mono (by omega))
      have k3 := k2.keep C
      clear ek0 ek1 ek2 ek3
      clear C B2 k2
      have ek0 := k3.c0
      have ek1 := k3.c1
      have ek2 := k3.c2
      have ek3 := k3.c3
      go_wp2_with fail
      refine (rbytes_any w3 k okk hr).mono ?_
      rintro e w4 ⟨bo, m, d, rfl, T4, C⟩
      have S4 := S3.below C
      have kind : Hid (k.kind = 0) := by show _ = _; unfold KA.kind; rw [hr]; rfl
      have B4 := B3.trans (C.mono (by have := B3.size; have := k3.lt; omega))
      have k4 := k3.keep C
      clear ek0 ek1 ek2 ek3
      clear C B3 k3
      go_wp2_with fail
      have HS : Hid (∀ V, Below w4.heap.size w4 V → V.cell? ⟨N, 0, none⟩ = some (.string k.row) ∧ V.cell? ⟨N, 1, none⟩ = some (.string k.fam) ∧ V.cell? ⟨N, 2, none⟩ = some (.string k.qual) ∧ V.cell? ⟨N, 3, none⟩ = some (.int .u64 k.time)) := fun V hV => ⟨(k4.keep hV).c0, (k4.keep hV).c1, (k4.keep hV).c2, (k4.keep hV).c3⟩
      have E0 : Below w4.heap.size w4 w4.drew := (Below.refl _ _).drew
      refine wp_region_noPanic ?_
      refine wp_region_held_drew (S := fun V => V.cell? ⟨N, 0, none⟩ = some (.string k.row) ∧ V.cell? ⟨N, 1, none⟩ = some (.string k.fam) ∧ V.cell? ⟨N, 2, none⟩ = some (.string k.qual) ∧ V.cell? ⟨N, 3, none⟩ = some (.int .u64 k.time)) (by kernel_rfl) (HS.out _ E0) (fun H0 => ?_)
      obtain ⟨v0, hv0⟩ : ∃ v, v = w4.drew := ⟨_, rfl⟩
      rw [← hv0] at H0 E0 ⊢
      clear hv0
      refine hr_take_w 0 (some 21) (.slice ao n c) rfl rfl (by kernel_rfl) (by kernel_rfl) (by kernel_rfl) rfl (fun W hW => by obtain ⟨h0, h1, h2, h3⟩ := hW; go_simp) H0 ?_
      simp only [Act.put, List.setIfInBounds_toArray, List.set_cons_zero, List.set_cons_succ]
      refine hr_take_w 1 (some 22) (.slice bo m d) rfl rfl (by kernel_rfl) (by kernel_rfl) (by kernel_rfl) rfl (fun W hW => by obtain ⟨h0, h1, h2, h3⟩ := hW; go_simp) H0 ?_
      simp only [Act.put, List.setIfInBounds_toArray, List.set_cons_zero, List.set_cons_succ]
      refine hr_call_w 2 (some 23) 13 #[.slice ao n c, .slice bo m d] rfl rfl (by kernel_rfl) rfl (by go_simp) (fun v w' => v = .bool true ∧ Below v0.heap.size v0 w') ((rsame_below v0 _ _ _ _ _ _ _ _ (S4.below E0) (T4.below E0)).mono (by
        rintro e w' ⟨rfl, C⟩
        exact ⟨_, rfl, by rw [decide_eq_true rfl], C⟩)) ?_
      rintro v v1 ⟨rfl, C⟩
      have E1 := E0.trans (C.mono E0.size)
      have H1 := HS.out v1 E1
      clear C
      refine ⟨H1, ?_⟩
      simp only [Act.put, List.setIfInBounds_toArray, List.set_cons_zero, List.set_cons_succ]
      refine hr_take_w 3 (some 24) (.bool true) rfl rfl (by kernel_rfl) (by kernel_rfl) (by kernel_rfl) rfl (fun W hW => by obtain ⟨h0, h1, h2, h3⟩ := hW; go_simp) H1 ?_
      simp only [Act.put, List.setIfInBounds_toArray, List.set_cons_zero, List.set_cons_succ]
      refine hr_take_w 4 (some 25) (.int .i64 0) rfl rfl (by kernel_rfl) (by kernel_rfl) (by kernel_rfl) rfl (fun W hW => by obtain ⟨h0, h1, h2, h3⟩ := hW; go_simp) H1 ?_
      simp only [Act.put, List.setIfInBounds_toArray, List.set_cons_zero, List.set_cons_succ]
      refine hr_take_w 5 (some 26) (.int .i64 0) rfl rfl (by kernel_rfl) (by kernel_rfl) (by kernel_rfl) rfl (fun W hW => by obtain ⟨h0, h1, h2, h3⟩ := hW; go_simp) H1 ?_
      simp only [Act.put, List.setIfInBounds_toArray, List.set_cons_zero, List.set_cons_succ]
      refine hr_take_w 6 (some 27) (.bool true) rfl rfl (by kernel_rfl) (by kernel_rfl) (by kernel_rfl) rfl (fun W hW => by obtain ⟨h0, h1, h2, h3⟩ := hW; go_simp) H1 ?_
      simp only [Act.put, List.setIfInBounds_toArray, List.set_cons_zero, List.set_cons_succ]
      refine hr_take_w 7 (some 28) (.bool true) rfl rfl (by kernel_rfl) (by kernel_rfl) (by kernel_rfl) rfl (fun W hW => by obtain ⟨h0, h1, h2, h3⟩ := hW; go_simp) H1 ?_
      simp only [Act.put, List.setIfInBounds_toArray, List.set_cons_zero, List.set_cons_succ]
      refine hr_take_w 8 (some 29) (.bool true) rfl rfl (by kernel_rfl) (by kernel_rfl) (by kernel_rfl) rfl (fun W hW => by obtain ⟨h0, h1, h2, h3⟩ := hW; go_simp) H1 ?_
      simp only [Act.put, List.setIfInBounds_toArray, List.set_cons_zero, List.set_cons_succ]
      refine hr_take_w 9 (some 30) (.agg #[.string k.row, .string k.fam, .string k.qual, .int .u64 k.time]) rfl rfl (by kernel_rfl) (by kernel_rfl) (by kernel_rfl) rfl (fun W hW => by obtain ⟨h0, h1, h2, h3⟩ := hW; go_simp) H1 ?_
      simp only [Act.put, List.setIfInBounds_toArray, List.set_cons_zero, List.set_cons_succ]
      refine hr_take_w 11 (some 32) (.agg #[.string k.row, .string k.fam, .string k.qual, .int .u64 k.time]) rfl rfl (by kernel_rfl) (by kernel_rfl) (by kernel_rfl) rfl (fun W hW => by obtain ⟨h0, h1, h2, h3⟩ := hW; go_simp) H1 ?_
      simp only [Act.put, List.setIfInBounds_toArray, List.set_cons_zero, List.set_cons_succ]
      refine hr_call_w 10 (some 31) 14 #[.agg #[.string k.row, .string k.fam, .string k.qual, .int .u64 k.time]] rfl rfl (by kernel_rfl) rfl (by go_simp) (fun v w' => v = .int .i64 0 ∧ Below v1.heap.size v1 w') ((pright_any v1 k).mono (by
        rintro e w' ⟨rfl, C⟩
        exact ⟨_, rfl, by rw [kind.out], C⟩)) ?_
      rintro v v2 ⟨rfl, C⟩
      have E2 := E1.trans (C.mono E1.size)
      have H2 := HS.out v2 E2
      clear C
      refine ⟨H2, ?_⟩
      simp only [Act.put, List.setIfInBounds_toArray, List.set_cons_zero, List.set_cons_succ]
      refine hr_call_w 12 (some 33) 15 #[.agg #[.string k.row, .string k.fam, .string k.qual, .int .u64 k.time]] rfl rfl (by kernel_rfl) rfl (by go_simp) (fun v w' => v = .int .i64 0 ∧ Below v2.heap.size v2 w') ((rright_any v2 k).mono (by
        rintro e w' ⟨rfl, C⟩
        exact ⟨_, rfl, by rw [kind.out], C⟩)) ?_
      rintro v v3 ⟨rfl, C⟩
      have E3 := E2.trans (C.mono E2.size)
      have H3 := HS.out v3 E3
      clear C
      refine ⟨H3, ?_⟩
      simp only [Act.put, List.setIfInBounds_toArray, List.set_cons_zero, List.set_cons_succ]
      refine hr_take_w 13 (some 34) (.bool true) rfl rfl (by kernel_rfl) (by kernel_rfl) (by kernel_rfl) rfl (fun W hW => by obtain ⟨h0, h1, h2, h3⟩ := hW; go_simp) H3 ?_
      simp only [Act.put, List.setIfInBounds_toArray, List.set_cons_zero, List.set_cons_succ]
      refine hr_take_w 14 (some 35) (.bool true) rfl rfl (by kernel_rfl) (by kernel_rfl) (by kernel_rfl) rfl (fun W hW => by obtain ⟨h0, h1, h2, h3⟩ := hW; go_simp) H3 ?_
      simp only [Act.put, List.setIfInBounds_toArray, List.set_cons_zero, List.set_cons_succ]
      refine hr_take_w 15 (some 36) (.bool true) rfl rfl (by kernel_rfl) (by kernel_rfl) (by kernel_rfl) rfl (fun W hW => by obtain ⟨h0, h1, h2, h3⟩ := hW; go_simp) H3 ?_
      simp only [Act.put, List.setIfInBounds_toArray, List.set_cons_zero, List.set_cons_succ]
      refine hr_call_w 16 (some 37) 10 #[] rfl rfl (by kernel_rfl) rfl (by go_simp) (fun v w' => v = .bool true ∧ Below v3.heap.size v3 w') ((alive_any v3).mono (by
        rintro e w' ⟨rfl, C⟩
        exact ⟨_, rfl, by rfl, C⟩)) ?_
      rintro v v4 ⟨rfl, C⟩
      have E4 := E3.trans (C.mono E3.size)
      have H4 := HS.out v4 E4
      clear C
      refine ⟨H4, ?_⟩
      simp only [Act.put, List.setIfInBounds_toArray, List.set_cons_zero, List.set_cons_succ]
      refine hr_take_w 17 (some 38) (.bool true) rfl rfl (by kernel_rfl) (by kernel_rfl) (by kernel_rfl) rfl (fun W hW => by obtain ⟨h0, h1, h2, h3⟩ := hW; go_simp) H4 ?_
      simp only [Act.put, List.setIfInBounds_toArray, List.set_cons_zero, List.set_cons_succ]
      refine hr_take_w 18 (some 2) (.bool true) rfl rfl (by kernel_rfl) (by kernel_rfl) (by kernel_rfl) rfl (fun W hW => by obtain ⟨h0, h1, h2, h3⟩ := hW; go_simp) H4 ?_
      simp only [Act.put, List.setIfInBounds_toArray, List.set_cons_zero, List.set_cons_succ]
      refine wpAnyH_done (by kernel_rfl) ?_ _
      refine NoPanic.normal ?_
      have BF := B4.trans (E4.mono (by have := B4.size; have := HN.out; omega))
      go_wp2
      go_ret
      exact ⟨rfl, by rw [← HN.out]; exact BF⟩
    · have hr' : k.isRight = false := by simpa using hr
      refine (pbytes_bad w2 k hr').mono ?_
      rintro e w3 ⟨rfl, C⟩
      have B3 := B2.trans (C.mono (by omega))
      have k3 := k2.keep C
      clear ek0 ek1 ek2 ek3
      clear C B2 k2
      have ek0 := k3.c0
      have ek1 := k3.c1
      have ek2 := k3.c2
      have ek3 := k3.c3
      go_wp2_with fail
      refine (rbytes_bad w3 k hr').mono ?_
      rintro e w4 ⟨rfl, C⟩
      have kind : Hid (k.kind = 5) := by show _ = _; unfold KA.kind; rw [hr']; rfl
      have B4 := B3.trans (C.mono (by have := B3.size; have := k3.lt; omega))
      have k4 := k3.keep C
      clear ek0 ek1 ek2 ek3
      clear C B3 k3
      go_wp2_with fail
      have HS : Hid (∀ V, Below w4.heap.size w4 V → V.cell? ⟨N, 0, none⟩ = some (.string k.row) ∧ V.cell? ⟨N, 1, none⟩ = some (.string k.fam) ∧ V.cell? ⟨N, 2, none⟩ = some (.string k.qual) ∧ V.cell? ⟨N, 3, none⟩ = some (.int .u64 k.time)) := fun V hV => ⟨(k4.keep hV).c0, (k4.keep hV).c1, (k4.keep hV).c2, (k4.keep hV).c3⟩
      have E0 : Below w4.heap.size w4 w4.drew := (Below.refl _ _).drew
      refine wp_region_noPanic ?_
      refine wp_region_held_drew (S := fun V => V.cell? ⟨N, 0, none⟩ = some (.string k.row) ∧ V.cell? ⟨N, 1, none⟩ = some (.string k.fam) ∧ V.cell? ⟨N, 2, none⟩ = some (.string k.qual) ∧ V.cell? ⟨N, 3, none⟩ = some (.int .u64 k.time)) (by kernel_rfl) (HS.out _ E0) (fun H0 => ?_)
      obtain ⟨v0, hv0⟩ : ∃ v, v = w4.drew := ⟨_, rfl⟩
      rw [← hv0] at H0 E0 ⊢
      clear hv0
      refine hr_take_w 0 (some 21) (.slice none 0 0) rfl rfl (by kernel_rfl) (by kernel_rfl) (by kernel_rfl) rfl (fun W hW => by obtain ⟨h0, h1, h2, h3⟩ := hW; go_simp) H0 ?_
      simp only [Act.put, List.setIfInBounds_toArray, List.set_cons_zero, List.set_cons_succ]
      refine hr_take_w 1 (some 22) (.slice none 0 0) rfl rfl (by kernel_rfl) (by kernel_rfl) (by kernel_rfl) rfl (fun W hW => by obtain ⟨h0, h1, h2, h3⟩ := hW; go_simp) H0 ?_
      simp only [Act.put, List.setIfInBounds_toArray, List.set_cons_zero, List.set_cons_succ]
      refine hr_call_w 2 (some 23) 13 #[.slice none 0 0, .slice none 0 0] rfl rfl (by kernel_rfl) rfl (by go_simp) (fun v w' => v = .bool true ∧ Below v0.heap.size v0 w') ((rsame_below v0 _ _ _ _ _ _ [] [] (Sl.nothing _) (Sl.nothing _)).mono (by
        rintro e w' ⟨rfl, C⟩
        exact ⟨_, rfl, by rw [decide_eq_true rfl], C⟩)) ?_
      rintro v v1 ⟨rfl, C⟩
      have E1 := E0.trans (C.mono E0.size)
      have H1 := HS.out v1 E1
      clear C
      refine ⟨H1, ?_⟩
      simp only [Act.put, List.setIfInBounds_toArray, List.set_cons_zero, List.set_cons_succ]
      refine hr_take_w 3 (some 24) (.bool true) rfl rfl (by kernel_rfl) (by kernel_rfl) (by kernel_rfl) rfl (fun W hW => by obtain ⟨h0, h1, h2, h3⟩ := hW; go_simp) H1 ?_
      simp only [Act.put, List.setIfInBounds_toArray, List.set_cons_zero, List.set_cons_succ]
      refine hr_take_w 4 (some 25) (.int .i64 5) rfl rfl (by kernel_rfl) (by kernel_rfl) (by kernel_rfl) rfl (fun W hW => by obtain ⟨h0, h1, h2, h3⟩ := hW; go_simp) H1 ?_
      simp only [Act.put, List.setIfInBounds_toArray, List.set_cons_zero, List.set_cons_succ]
      refine hr_take_w 5 (some 26) (.int .i64 5) rfl rfl (by kernel_rfl) (by kernel_rfl) (by kernel_rfl) rfl (fun W hW => by obtain ⟨h0, h1, h2, h3⟩ := hW; go_simp) H1 ?_
      simp only [Act.put, List.setIfInBounds_toArray, List.set_cons_zero, List.set_cons_succ]
      refine hr_take_w 6 (some 27) (.bool true) rfl rfl (by kernel_rfl) (by kernel_rfl) (by kernel_rfl) rfl (fun W hW => by obtain ⟨h0, h1, h2, h3⟩ := hW; go_simp) H1 ?_
      simp only [Act.put, List.setIfInBounds_toArray, List.set_cons_zero, List.set_cons_succ]
      refine hr_take_w 7 (some 28) (.bool true) rfl rfl (by kernel_rfl) (by kernel_rfl) (by kernel_rfl) rfl (fun W hW => by obtain ⟨h0, h1, h2, h3⟩ := hW; go_simp) H1 ?_
      simp only [Act.put, List.setIfInBounds_toArray, List.set_cons_zero, List.set_cons_succ]
      refine hr_take_w 8 (some 29) (.bool true) rfl rfl (by kernel_rfl) (by kernel_rfl) (by kernel_rfl) rfl (fun W hW => by obtain ⟨h0, h1, h2, h3⟩ := hW; go_simp) H1 ?_
      simp only [Act.put, List.setIfInBounds_toArray, List.set_cons_zero, List.set_cons_succ]
      refine hr_take_w 9 (some 30) (.agg #[.string k.row, .string k.fam, .string k.qual, .int .u64 k.time]) rfl rfl (by kernel_rfl) (by kernel_rfl) (by kernel_rfl) rfl (fun W hW => by obtain ⟨h0, h1, h2, h3⟩ := hW; go_simp) H1 ?_
      simp only [Act.put, List.setIfInBounds_toArray, List.set_cons_zero, List.set_cons_succ]
      refine hr_take_w 11 (some 32) (.agg #[.string k.row, .string k.fam, .string k.qual, .int .u64 k.time]) rfl rfl (by kernel_rfl) (by kernel_rfl) (by kernel_rfl) rfl (fun W hW => by obtain ⟨h0, h1, h2, h3⟩ := hW; go_simp) H1 ?_
      simp only [Act.put, List.setIfInBounds_toArray, List.set_cons_zero, List.set_cons_succ]
      refine hr_call_w 10 (some 31) 14 #[.agg #[.string k.row, .string k.fam, .string k.qual, .int .u64 k.time]] rfl rfl (by kernel_rfl) rfl (by go_simp) (fun v w' => v = .int .i64 5 ∧ Below v1.heap.size v1 w') ((pright_any v1 k).mono (by
        rintro e w' ⟨rfl, C⟩
        exact ⟨_, rfl, by rw [kind.out], C⟩)) ?_
      rintro v v2 ⟨rfl, C⟩
      have E2 := E1.trans (C.mono E1.size)
      have H2 := HS.out v2 E2
      clear C
      refine ⟨H2, ?_⟩
      simp only [Act.put, List.setIfInBounds_toArray, List.set_cons_zero, List.set_cons_succ]
      refine hr_call_w 12 (some 33) 15 #[.agg #[.string k.row, .string k.fam, .string k.qual, .int .u64 k.time]] rfl rfl (by kernel_rfl) rfl (by go_simp) (fun v w' => v = .int .i64 5 ∧ Below v2.heap.size v2 w') ((rright_any v2 k).mono (by
        rintro e w' ⟨rfl, C⟩
        exact ⟨_, rfl, by rw [kind.out], C⟩)) ?_
      rintro v v3 ⟨rfl, C⟩
      have E3 := E2.trans (C.mono E2.size)
      have H3 := HS.out v3 E3
      clear C
      refine ⟨H3, ?_⟩
      simp only [Act.put, List.setIfInBounds_toArray, List.set_cons_zero, List.set_cons_succ]
      refine hr_take_w 13 (some 34) (.bool true) rfl rfl (by kernel_rfl) (by kernel_rfl) (by kernel_rfl) rfl (fun W hW => by obtain ⟨h0, h1, h2, h3⟩ := hW; go_simp) H3 ?_
      simp only [Act.put, List.setIfInBounds_toArray, List.set_cons_zero, List.set_cons_succ]
      refine hr_take_w 14 (some 35) (.bool true) rfl rfl (by kernel_rfl) (by kernel_rfl) (by kernel_rfl) rfl (fun W hW => by obtain ⟨h0, h1, h2, h3⟩ := hW; go_simp) H3 ?_
      simp only [Act.put, List.setIfInBounds_toArray, List.set_cons_zero, List.set_cons_succ]
      refine hr_take_w 15 (some 36) (.bool true) rfl rfl (by kernel_rfl) (by kernel_rfl) (by kernel_rfl) rfl (fun W hW => by obtain ⟨h0, h1, h2, h3⟩ := hW; go_simp) H3 ?_
      simp only [Act.put, List.setIfInBounds_toArray, List.set_cons_zero, List.set_cons_succ]
      refine hr_call_w 16 (some 37) 10 #[] rfl rfl (by kernel_rfl) rfl (by go_simp) (fun v w' => v = .bool true ∧ Below v3.heap.size v3 w') ((alive_any v3).mono (by
        rintro e w' ⟨rfl, C⟩
        exact ⟨_, rfl, by rfl, C⟩)) ?_
      rintro v v4 ⟨rfl, C⟩
      have E4 := E3.trans (C.mono E3.size)
      have H4 := HS.out v4 E4
      clear C
      refine ⟨H4, ?_⟩
      simp only [Act.put, List.setIfInBounds_toArray, List.set_cons_zero, List.set_cons_succ]
      refine hr_take_w 17 (some 38) (.bool true) rfl rfl (by kernel_rfl) (by kernel_rfl) (by kernel_rfl) rfl (fun W hW => by obtain ⟨h0, h1, h2, h3⟩ := hW; go_simp) H4 ?_
      simp only [Act.put, List.setIfInBounds_toArray, List.set_cons_zero, List.set_cons_succ]
      refine hr_take_w 18 (some 2) (.bool true) rfl rfl (by kernel_rfl) (by kernel_rfl) (by kernel_rfl) rfl (fun W hW => by obtain ⟨h0, h1, h2, h3⟩ := hW; go_simp) H4 ?_
      simp only [Act.put, List.setIfInBounds_toArray, List.set_cons_zero, List.set_cons_succ]
      refine wpAnyH_done (by kernel_rfl) ?_ _
      refine NoPanic.normal ?_
      have BF := B4.trans (E4.mono (by have := B4.size; have := HN.out; omega))
      go_wp2
      go_ret
      exact ⟨rfl, by rw [← HN.out]; exact BF⟩
  · have hl' : k.light = false := by simpa using hl
    rw [hl']
    go_wp2_with fail
    refine (alive_any _).mono ?_
    rintro e wz ⟨rfl, Cz⟩
    have Bz := B2.trans (Cz.mono (by have := B2.size; have := HN.out; omega))
    go_wp2
    go_ret
    exact ⟨rfl, by rw [← HN.out]; exact Bz⟩
end Go.Proofs.Ytepkjnklapamjaa
