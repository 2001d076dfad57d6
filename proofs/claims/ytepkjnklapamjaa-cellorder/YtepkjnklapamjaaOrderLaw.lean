/-
  CellOrder.
-/
import Derived.Test.YtepkjnklapamjaaCAlive
import Derived.Test.YtepkjnklapamjaaCKeys
import Derived.Test.YtepkjnklapamjaaPCmp
import Derived.Test.YtepkjnklapamjaaPCol
import Derived.Test.YtepkjnklapamjaaHRegA
namespace Go.Proofs.Ytepkjnklapamjaa
open Go.RowKit

set_option maxHeartbeats 8000000 in
set_option maxRecDepth 100000 in
theorem cellOrder_any (w : World) (a b : KA) (oka : a.ok) (okb : b.ok) :
    Calls Try.prog 4 #[a.val, b.val] w fun e w' => e = .returned (.bool true) ∧ Below w.heap.size w w' := by
  have qa : KC (w.alloc (Obj.cells #[.string a.row, .string a.fam, .string a.qual, .int .u64 a.time] 24)) (w.heap.size) a := by
    have := KC.new w a
    simpa using this
  have qb : KC ((w.alloc (Obj.cells #[.string a.row, .string a.fam, .string a.qual, .int .u64 a.time] 24)).alloc (Obj.cells #[.string b.row, .string b.fam, .string b.qual, .int .u64 b.time] 24)) (w.heap.size + 1) b := by
    have := KC.new (w.alloc (Obj.cells #[.string a.row, .string a.fam, .string a.qual, .int .u64 a.time] 24)) b
    simpa using this
  have qa := qa.alloc (Obj.cells #[.string b.row, .string b.fam, .string b.qual, .int .u64 b.time] 24)
  have B1' : Below w.heap.size w ((w.alloc (Obj.cells #[.string a.row, .string a.fam, .string a.qual, .int .u64 a.time] 24)).alloc (Obj.cells #[.string b.row, .string b.fam, .string b.qual, .int .u64 b.time] 24)) := (((Below.refl _ w).alloc (by simp) (Obj.cells #[.string a.row, .string a.fam, .string a.qual, .int .u64 a.time] 24)).alloc (by simp) (Obj.cells #[.string b.row, .string b.fam, .string b.qual, .int .u64 b.time] 24))
  have z1 : ((w.alloc (Obj.cells #[.string a.row, .string a.fam, .string a.qual, .int .u64 a.time] 24)).alloc (Obj.cells #[.string b.row, .string b.fam, .string b.qual, .int .u64 b.time] 24)).heap.size = w.heap.size + 2 := by simp
  unfold KA.val
  go_enter Try.func4, Try.ntmps4
  go_wp2_with fail
  obtain ⟨w1, hw1⟩ : ∃ W, W = ((w.alloc (Obj.cells #[.string a.row, .string a.fam, .string a.qual, .int .u64 a.time] 24)).alloc (Obj.cells #[.string b.row, .string b.fam, .string b.qual, .int .u64 b.time] 24)) := ⟨_, rfl⟩
  rw [← hw1] at B1' z1 qa qb ⊢
  obtain ⟨N, hN⟩ : ∃ N, N = w.heap.size := ⟨_, rfl⟩
  rw [← hN] at z1 qa qb ⊢
  have B1 : Below N w w1 := by rw [hN]; exact B1'
  have HN : Hid (N = w.heap.size) := hN
  clear B1' hw1 hN
  refine (light4_any w1 a).mono ?_
  rintro e w2 ⟨rfl, C⟩
  have B2 := B1.trans (C.mono (by omega))
  have a2 := qa.keep C
  have b2 := qb.keep C
  clear C qa qb B1
  by_cases hla : a.light = true
  · rw [hla]
    have b20 := b2.c0
    have b21 := b2.c1
    have b22 := b2.c2
    have b23 := b2.c3
    go_wp2_with fail
    refine (light4_any w2 b).mono ?_
    rintro e w3 ⟨rfl, C⟩
    have B3 := B2.trans (C.mono (by have := B2.size; have := HN.out; omega))
    have a3 := a2.keep C
    have b3 := b2.keep C
    clear C b20 b21 b22 b23 a2 b2 B2
    by_cases hlb : b.light = true
    · rw [hlb]
      go_wp2_with fail
      have HS : Hid (∀ V, Below w3.heap.size w3 V → V.cell? ⟨N, 0, none⟩ = some (.string a.row) ∧ V.cell? ⟨N, 1, none⟩ = some (.string a.fam) ∧ V.cell? ⟨N, 2, none⟩ = some (.string a.qual) ∧ V.cell? ⟨N, 3, none⟩ = some (.int .u64 a.time) ∧ V.cell? ⟨N + 1, 0, none⟩ = some (.string b.row) ∧ V.cell? ⟨N + 1, 1, none⟩ = some (.string b.fam) ∧ V.cell? ⟨N + 1, 2, none⟩ = some (.string b.qual) ∧ V.cell? ⟨N + 1, 3, none⟩ = some (.int .u64 b.time)) := fun V hV => ⟨(a3.keep hV).c0, (a3.keep hV).c1, (a3.keep hV).c2, (a3.keep hV).c3, (b3.keep hV).c0, (b3.keep hV).c1, (b3.keep hV).c2, (b3.keep hV).c3⟩
      have E0 : Below w3.heap.size w3 w3.drew := (Below.refl _ _).drew
      refine wp_region_noPanic ?_
      refine wp_region_held_drew (S := fun V => V.cell? ⟨N, 0, none⟩ = some (.string a.row) ∧ V.cell? ⟨N, 1, none⟩ = some (.string a.fam) ∧ V.cell? ⟨N, 2, none⟩ = some (.string a.qual) ∧ V.cell? ⟨N, 3, none⟩ = some (.int .u64 a.time) ∧ V.cell? ⟨N + 1, 0, none⟩ = some (.string b.row) ∧ V.cell? ⟨N + 1, 1, none⟩ = some (.string b.fam) ∧ V.cell? ⟨N + 1, 2, none⟩ = some (.string b.qual) ∧ V.cell? ⟨N + 1, 3, none⟩ = some (.int .u64 b.time)) (by kernel_rfl) (HS.out _ E0) (fun H0 => ?_)
      obtain ⟨v0, hv0⟩ : ∃ v, v = w3.drew := ⟨_, rfl⟩
      rw [← hv0] at H0 E0 ⊢
      clear hv0
      refine hr_take_w 0 (some 14) (.agg #[.string a.row, .string a.fam, .string a.qual, .int .u64 a.time]) rfl rfl (by kernel_rfl) (by kernel_rfl) (by kernel_rfl) rfl (fun W hW => by obtain ⟨h0, h1, h2, h3, h4, h5, h6, h7⟩ := hW; go_simp) H0 ?_
      simp only [Act.put, List.setIfInBounds_toArray, List.set_cons_zero, List.set_cons_succ]
      refine hr_take_w 1 (some 15) (.agg #[.string b.row, .string b.fam, .string b.qual, .int .u64 b.time]) rfl rfl (by kernel_rfl) (by kernel_rfl) (by kernel_rfl) rfl (fun W hW => by obtain ⟨h0, h1, h2, h3, h4, h5, h6, h7⟩ := hW; go_simp) H0 ?_
      simp only [Act.put, List.setIfInBounds_toArray, List.set_cons_zero, List.set_cons_succ]
      refine hr_take_w 3 (some 17) (.agg #[.string a.row, .string a.fam, .string a.qual, .int .u64 a.time]) rfl rfl (by kernel_rfl) (by kernel_rfl) (by kernel_rfl) rfl (fun W hW => by obtain ⟨h0, h1, h2, h3, h4, h5, h6, h7⟩ := hW; go_simp) H0 ?_
      simp only [Act.put, List.setIfInBounds_toArray, List.set_cons_zero, List.set_cons_succ]
      refine hr_take_w 4 (some 18) (.agg #[.string b.row, .string b.fam, .string b.qual, .int .u64 b.time]) rfl rfl (by kernel_rfl) (by kernel_rfl) (by kernel_rfl) rfl (fun W hW => by obtain ⟨h0, h1, h2, h3, h4, h5, h6, h7⟩ := hW; go_simp) H0 ?_
      simp only [Act.put, List.setIfInBounds_toArray, List.set_cons_zero, List.set_cons_succ]
      refine hr_call_w 2 (some 16) 16 #[.agg #[.string a.row, .string a.fam, .string a.qual, .int .u64 a.time], .agg #[.string b.row, .string b.fam, .string b.qual, .int .u64 b.time]] rfl rfl (by kernel_rfl) rfl (by go_simp) (fun v w' => v = .int .i64 (cmpK a.kv b.kv) ∧ Below v0.heap.size v0 w') ((pcmp_any v0 a b).mono (by
        rintro e w' ⟨rfl, C⟩
        exact ⟨_, rfl, by rfl, C⟩)) ?_
      rintro v v1 ⟨rfl, C⟩
      have E1 := E0.trans (C.mono E0.size)
      have H1 := HS.out v1 E1
      clear C
      refine ⟨H1, ?_⟩
      simp only [Act.put, List.setIfInBounds_toArray, List.set_cons_zero, List.set_cons_succ]
      refine hr_call_w 5 (some 19) 17 #[.agg #[.string a.row, .string a.fam, .string a.qual, .int .u64 a.time], .agg #[.string b.row, .string b.fam, .string b.qual, .int .u64 b.time]] rfl rfl (by kernel_rfl) rfl (by go_simp) (fun v w' => v = .int .i64 (cmpK a.kv b.kv) ∧ Below v1.heap.size v1 w') ((rcmp_any v1 a b oka okb).mono (by
        rintro e w' ⟨rfl, C⟩
        exact ⟨_, rfl, by rfl, C⟩)) ?_
      rintro v v2 ⟨rfl, C⟩
      have E2 := E1.trans (C.mono E1.size)
      have H2 := HS.out v2 E2
      clear C
      refine ⟨H2, ?_⟩
      simp only [Act.put, List.setIfInBounds_toArray, List.set_cons_zero, List.set_cons_succ]
      refine hr_take_w 6 (some 20) (.bool true) rfl rfl (by kernel_rfl) (by kernel_rfl) (by kernel_rfl) rfl (fun W hW => by obtain ⟨h0, h1, h2, h3, h4, h5, h6, h7⟩ := hW; go_simp) H2 ?_
      simp only [Act.put, List.setIfInBounds_toArray, List.set_cons_zero, List.set_cons_succ]
      refine hr_take_w 7 (some 21) (.bool true) rfl rfl (by kernel_rfl) (by kernel_rfl) (by kernel_rfl) rfl (fun W hW => by obtain ⟨h0, h1, h2, h3, h4, h5, h6, h7⟩ := hW; go_simp) H2 ?_
      simp only [Act.put, List.setIfInBounds_toArray, List.set_cons_zero, List.set_cons_succ]
      refine hr_take_w 8 (some 22) (.agg #[.string a.row, .string a.fam, .string a.qual, .int .u64 a.time]) rfl rfl (by kernel_rfl) (by kernel_rfl) (by kernel_rfl) rfl (fun W hW => by obtain ⟨h0, h1, h2, h3, h4, h5, h6, h7⟩ := hW; go_simp) H2 ?_
      simp only [Act.put, List.setIfInBounds_toArray, List.set_cons_zero, List.set_cons_succ]
      refine hr_take_w 9 (some 23) (.agg #[.string b.row, .string b.fam, .string b.qual, .int .u64 b.time]) rfl rfl (by kernel_rfl) (by kernel_rfl) (by kernel_rfl) rfl (fun W hW => by obtain ⟨h0, h1, h2, h3, h4, h5, h6, h7⟩ := hW; go_simp) H2 ?_
      simp only [Act.put, List.setIfInBounds_toArray, List.set_cons_zero, List.set_cons_succ]
      refine hr_take_w 11 (some 25) (.agg #[.string a.row, .string a.fam, .string a.qual, .int .u64 a.time]) rfl rfl (by kernel_rfl) (by kernel_rfl) (by kernel_rfl) rfl (fun W hW => by obtain ⟨h0, h1, h2, h3, h4, h5, h6, h7⟩ := hW; go_simp) H2 ?_
      simp only [Act.put, List.setIfInBounds_toArray, List.set_cons_zero, List.set_cons_succ]
      refine hr_take_w 12 (some 26) (.agg #[.string b.row, .string b.fam, .string b.qual, .int .u64 b.time]) rfl rfl (by kernel_rfl) (by kernel_rfl) (by kernel_rfl) rfl (fun W hW => by obtain ⟨h0, h1, h2, h3, h4, h5, h6, h7⟩ := hW; go_simp) H2 ?_
      simp only [Act.put, List.setIfInBounds_toArray, List.set_cons_zero, List.set_cons_succ]
      refine hr_call_w 10 (some 24) 18 #[.agg #[.string a.row, .string a.fam, .string a.qual, .int .u64 a.time], .agg #[.string b.row, .string b.fam, .string b.qual, .int .u64 b.time]] rfl rfl (by kernel_rfl) rfl (by go_simp) (fun v w' => v = .bool (a.col b) ∧ Below v2.heap.size v2 w') ((pcolumn_any v2 a b).mono (by
        rintro e w' ⟨rfl, C⟩
        exact ⟨_, rfl, by rfl, C⟩)) ?_
      rintro v v3 ⟨rfl, C⟩
      have E3 := E2.trans (C.mono E2.size)
      have H3 := HS.out v3 E3
      clear C
      refine ⟨H3, ?_⟩
      simp only [Act.put, List.setIfInBounds_toArray, List.set_cons_zero, List.set_cons_succ]
      refine hr_call_w 13 (some 27) 19 #[.agg #[.string a.row, .string a.fam, .string a.qual, .int .u64 a.time], .agg #[.string b.row, .string b.fam, .string b.qual, .int .u64 b.time]] rfl rfl (by kernel_rfl) rfl (by go_simp) (fun v w' => v = .bool (a.col b) ∧ Below v3.heap.size v3 w') ((rcolumn_any v3 a b).mono (by
        rintro e w' ⟨rfl, C⟩
        exact ⟨_, rfl, by rfl, C⟩)) ?_
      rintro v v4 ⟨rfl, C⟩
      have E4 := E3.trans (C.mono E3.size)
      have H4 := HS.out v4 E4
      clear C
      refine ⟨H4, ?_⟩
      simp only [Act.put, List.setIfInBounds_toArray, List.set_cons_zero, List.set_cons_succ]
      refine hr_take_w 14 (some 28) (.bool true) rfl rfl (by kernel_rfl) (by kernel_rfl) (by kernel_rfl) rfl (fun W hW => by obtain ⟨h0, h1, h2, h3, h4, h5, h6, h7⟩ := hW; cases a.col b <;> go_simp) H4 ?_
      simp only [Act.put, List.setIfInBounds_toArray, List.set_cons_zero, List.set_cons_succ]
      refine hr_take_w 15 (some 29) (.bool true) rfl rfl (by kernel_rfl) (by kernel_rfl) (by kernel_rfl) rfl (fun W hW => by obtain ⟨h0, h1, h2, h3, h4, h5, h6, h7⟩ := hW; go_simp) H4 ?_
      simp only [Act.put, List.setIfInBounds_toArray, List.set_cons_zero, List.set_cons_succ]
      refine hr_take_w 16 (some 30) (.bool true) rfl rfl (by kernel_rfl) (by kernel_rfl) (by kernel_rfl) rfl (fun W hW => by obtain ⟨h0, h1, h2, h3, h4, h5, h6, h7⟩ := hW; go_simp) H4 ?_
      simp only [Act.put, List.setIfInBounds_toArray, List.set_cons_zero, List.set_cons_succ]
      refine hr_call_w 17 (some 31) 10 #[] rfl rfl (by kernel_rfl) rfl (by go_simp) (fun v w' => v = .bool true ∧ Below v4.heap.size v4 w') ((alive_any v4).mono (by
        rintro e w' ⟨rfl, C⟩
        exact ⟨_, rfl, by rfl, C⟩)) ?_
      rintro v v5 ⟨rfl, C⟩
      have E5 := E4.trans (C.mono E4.size)
      have H5 := HS.out v5 E5
      clear C
      refine ⟨H5, ?_⟩
      simp only [Act.put, List.setIfInBounds_toArray, List.set_cons_zero, List.set_cons_succ]
      refine hr_take_w 18 (some 32) (.bool true) rfl rfl (by kernel_rfl) (by kernel_rfl) (by kernel_rfl) rfl (fun W hW => by obtain ⟨h0, h1, h2, h3, h4, h5, h6, h7⟩ := hW; go_simp) H5 ?_
      simp only [Act.put, List.setIfInBounds_toArray, List.set_cons_zero, List.set_cons_succ]
      refine hr_take_w 19 (some 4) (.bool true) rfl rfl (by kernel_rfl) (by kernel_rfl) (by kernel_rfl) rfl (fun W hW => by obtain ⟨h0, h1, h2, h3, h4, h5, h6, h7⟩ := hW; go_simp) H5 ?_
      simp only [Act.put, List.setIfInBounds_toArray, List.set_cons_zero, List.set_cons_succ]
      refine wpAnyH_done (by kernel_rfl) ?_ _
      refine NoPanic.normal ?_
      have BF := B3.trans (E5.mono (by have := B3.size; have := HN.out; omega))
      go_wp2
      go_ret
      exact ⟨rfl, by rw [← HN.out]; exact BF⟩
    · have hl' : b.light = false := by simpa using hlb
      rw [hl']
      go_wp2_with fail
      refine (alive_any _).mono ?_
      rintro e wz ⟨rfl, Cz⟩
      have Bz := B3.trans (Cz.mono (by have := B3.size; have := HN.out; omega))
      go_wp2
      go_ret
      exact ⟨rfl, by rw [← HN.out]; exact Bz⟩
  · have hl' : a.light = false := by simpa using hla
    rw [hl']
    go_wp2_with fail
    refine (alive_any _).mono ?_
    rintro e wz ⟨rfl, Cz⟩
    have Bz := B2.trans (Cz.mono (by have := B2.size; have := HN.out; omega))
    go_wp2
    go_ret
    exact ⟨rfl, by rw [← HN.out]; exact Bz⟩
end Go.Proofs.Ytepkjnklapamjaa
