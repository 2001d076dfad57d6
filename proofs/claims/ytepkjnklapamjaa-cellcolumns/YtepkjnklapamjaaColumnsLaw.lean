/-
  CellColumns.
-/
import Derived.Test.YtepkjnklapamjaaCAlive
import Derived.Test.YtepkjnklapamjaaCKeys
import Derived.Test.YtepkjnklapamjaaPCmp
import Derived.Test.YtepkjnklapamjaaPCol
import Derived.Test.YtepkjnklapamjaaHRegA
namespace Go.Proofs.Ytepkjnklapamjaa
open Go.RowKit

set_option maxHeartbeats 8000000 in
set_option maxRecDepth 100000 in
theorem cellColumns_any (w : World) (a b c : KA) (_oka : a.ok) (_okb : b.ok) (_okc : c.ok) :
    Calls Try.prog 8 #[a.val, b.val, c.val] w fun e w' => e = .returned (.bool true) ∧ Below w.heap.size w w' := by
  have qa : KC (w.alloc (Obj.cells #[.string a.row, .string a.fam, .string a.qual, .int .u64 a.time] 24)) (w.heap.size) a := by
    have := KC.new w a
    simpa using this
  have qb : KC ((w.alloc (Obj.cells #[.string a.row, .string a.fam, .string a.qual, .int .u64 a.time] 24)).alloc (Obj.cells #[.string b.row, .string b.fam, .string b.qual, .int .u64 b.time] 24)) (w.heap.size + 1) b := by
    have := KC.new (w.alloc (Obj.cells #[.string a.row, .string a.fam, .string a.qual, .int .u64 a.time] 24)) b
    simpa using this
  have qa := qa.alloc (Obj.cells #[.string b.row, .string b.fam, .string b.qual, .int .u64 b.time] 24)
  have qc : KC (((w.alloc (Obj.cells #[.string a.row, .string a.fam, .string a.qual, .int .u64 a.time] 24)).alloc (Obj.cells #[.string b.row, .string b.fam, .string b.qual, .int .u64 b.time] 24)).alloc (Obj.cells #[.string c.row, .string c.fam, .string c.qual, .int .u64 c.time] 24)) (w.heap.size + 2) c := by
    have := KC.new ((w.alloc (Obj.cells #[.string a.row, .string a.fam, .string a.qual, .int .u64 a.time] 24)).alloc (Obj.cells #[.string b.row, .string b.fam, .string b.qual, .int .u64 b.time] 24)) c
    simpa using this
  have qa := qa.alloc (Obj.cells #[.string c.row, .string c.fam, .string c.qual, .int .u64 c.time] 24)
  have qb := qb.alloc (Obj.cells #[.string c.row, .string c.fam, .string c.qual, .int .u64 c.time] 24)
  have B1' : Below w.heap.size w (((w.alloc (Obj.cells #[.string a.row, .string a.fam, .string a.qual, .int .u64 a.time] 24)).alloc (Obj.cells #[.string b.row, .string b.fam, .string b.qual, .int .u64 b.time] 24)).alloc (Obj.cells #[.string c.row, .string c.fam, .string c.qual, .int .u64 c.time] 24)) := ((((Below.refl _ w).alloc (by simp <;> omega) (Obj.cells #[.string a.row, .string a.fam, .string a.qual, .int .u64 a.time] 24)).alloc (by simp <;> omega) (Obj.cells #[.string b.row, .string b.fam, .string b.qual, .int .u64 b.time] 24)).alloc (by simp <;> omega) (Obj.cells #[.string c.row, .string c.fam, .string c.qual, .int .u64 c.time] 24))
  have z1 : (((w.alloc (Obj.cells #[.string a.row, .string a.fam, .string a.qual, .int .u64 a.time] 24)).alloc (Obj.cells #[.string b.row, .string b.fam, .string b.qual, .int .u64 b.time] 24)).alloc (Obj.cells #[.string c.row, .string c.fam, .string c.qual, .int .u64 c.time] 24)).heap.size = w.heap.size + 3 := by simp
  unfold KA.val
  go_enter Try.func8, Try.ntmps8
  go_wp2_with fail
  obtain ⟨w1, hw1⟩ : ∃ W, W = (((w.alloc (Obj.cells #[.string a.row, .string a.fam, .string a.qual, .int .u64 a.time] 24)).alloc (Obj.cells #[.string b.row, .string b.fam, .string b.qual, .int .u64 b.time] 24)).alloc (Obj.cells #[.string c.row, .string c.fam, .string c.qual, .int .u64 c.time] 24)) := ⟨_, rfl⟩
  rw [← hw1] at B1' z1 qa qb qc ⊢
  obtain ⟨N, hN⟩ : ∃ N, N = w.heap.size := ⟨_, rfl⟩
  rw [← hN] at z1 qa qb qc ⊢
  have B1 : Below N w w1 := by rw [hN]; exact B1'
  have HN : Hid (N = w.heap.size) := hN
  clear B1' hw1 hN
  refine (light4_any w1 a).mono ?_
  rintro e w2 ⟨rfl, C⟩
  have B2 := B1.trans (C.mono (by omega))
  have a2 := qa.keep C
  have b2 := qb.keep C
  have c2 := qc.keep C
  clear C qa qb qc B1
  by_cases hla : a.light = true
  · rw [hla]
    have eb0 := b2.c0
    have eb1 := b2.c1
    have eb2 := b2.c2
    have eb3 := b2.c3
    go_wp2_with fail
    refine (light4_any w2 b).mono ?_
    rintro e w3 ⟨rfl, C⟩
    have B3 := B2.trans (C.mono (by have := B2.size; have := HN.out; omega))
    have a3 := a2.keep C
    have b3 := b2.keep C
    have c3 := c2.keep C
    clear C eb0 eb1 eb2 eb3 a2 b2 c2 B2
    by_cases hlb : b.light = true
    · rw [hlb]
      have ec0 := c3.c0
      have ec1 := c3.c1
      have ec2 := c3.c2
      have ec3 := c3.c3
      go_wp2_with fail
      refine (light4_any w3 c).mono ?_
      rintro e w4 ⟨rfl, C⟩
      have B4 := B3.trans (C.mono (by have := B3.size; have := HN.out; omega))
      have a4 := a3.keep C
      have b4 := b3.keep C
      have c4 := c3.keep C
      clear C ec0 ec1 ec2 ec3 a3 b3 c3 B3
      by_cases hlc : c.light = true
      · rw [hlc]
        go_wp2_with fail
        have E0 : Below w4.heap.size w4 w4.drew := (Below.refl _ _).drew
        have S0 : w4.drew.cell? ⟨N, 0, none⟩ = some (.string a.row) ∧ w4.drew.cell? ⟨N, 1, none⟩ = some (.string a.fam) ∧ w4.drew.cell? ⟨N, 2, none⟩ = some (.string a.qual) := ⟨a4.c0, a4.c1, a4.c2⟩
        refine wp_region_noPanic ?_
        refine wp_region_held_drew (S := fun V => V.cell? ⟨N, 0, none⟩ = some (.string a.row) ∧ V.cell? ⟨N, 1, none⟩ = some (.string a.fam) ∧ V.cell? ⟨N, 2, none⟩ = some (.string a.qual)) (by kernel_rfl) S0 (fun H0 => ?_)
        obtain ⟨v0, hv0⟩ : ∃ v, v = w4.drew := ⟨_, rfl⟩
        rw [← hv0] at H0 E0 ⊢
        clear hv0 S0
        have a5 := a4.keep E0
        have b5 := b4.keep E0
        have c5 := c4.keep E0
        have B5 := B4.trans (E0.mono (by have := B4.size; have := HN.out; omega))
        clear a4 b4 c4 B4 E0
        refine hr_take 0 (some 21) (.pointer (some ⟨N, 0, none⟩)) rfl rfl (by kernel_rfl) (by kernel_rfl) (by kernel_rfl) rfl (fun W hW => by obtain ⟨h1, h2, h3⟩ := hW; go_simp) H0 ?_
        simp only [Act.put, List.setIfInBounds_toArray, List.set_cons_zero, List.set_cons_succ]
        refine hr_take 1 (some 22) (.string a.row) rfl rfl (by kernel_rfl) (by kernel_rfl) (by kernel_rfl) rfl (fun W hW => by obtain ⟨h1, h2, h3⟩ := hW; go_simp) H0 ?_
        simp only [Act.put, List.setIfInBounds_toArray, List.set_cons_zero, List.set_cons_succ]
        refine hr_take 2 (some 23) (.pointer (some ⟨N, 1, none⟩)) rfl rfl (by kernel_rfl) (by kernel_rfl) (by kernel_rfl) rfl (fun W hW => by obtain ⟨h1, h2, h3⟩ := hW; go_simp) H0 ?_
        simp only [Act.put, List.setIfInBounds_toArray, List.set_cons_zero, List.set_cons_succ]
        refine hr_take 3 (some 24) (.string a.fam) rfl rfl (by kernel_rfl) (by kernel_rfl) (by kernel_rfl) rfl (fun W hW => by obtain ⟨h1, h2, h3⟩ := hW; go_simp) H0 ?_
        simp only [Act.put, List.setIfInBounds_toArray, List.set_cons_zero, List.set_cons_succ]
        refine hr_take 4 (some 25) (.pointer (some ⟨N, 2, none⟩)) rfl rfl (by kernel_rfl) (by kernel_rfl) (by kernel_rfl) rfl (fun W hW => by obtain ⟨h1, h2, h3⟩ := hW; go_simp) H0 ?_
        simp only [Act.put, List.setIfInBounds_toArray, List.set_cons_zero, List.set_cons_succ]
        refine hr_take 5 (some 26) (.string a.qual) rfl rfl (by kernel_rfl) (by kernel_rfl) (by kernel_rfl) rfl (fun W hW => by obtain ⟨h1, h2, h3⟩ := hW; go_simp) H0 ?_
        simp only [Act.put, List.setIfInBounds_toArray, List.set_cons_zero, List.set_cons_succ]
        refine hr_take 6 (some 27) (.pointer (some ⟨N + 1, 0, none⟩)) rfl rfl (by kernel_rfl) (by kernel_rfl) (by kernel_rfl) rfl (fun W hW => by obtain ⟨h1, h2, h3⟩ := hW; go_simp) H0 ?_
        simp only [Act.put, List.setIfInBounds_toArray, List.set_cons_zero, List.set_cons_succ]
        have x0 : v0.heap[N + 1]? = some (.cells #[.string b.row, .string b.fam, .string b.qual, .int .u64 b.time] 24) := b5
        have fc0 : v0.cell? ⟨N + 1, 0, none⟩ = some (.string b.row) := cell_of_row v0 (N + 1) 0 _ _ _ x0
        have ff0 : v0.frozen? ⟨N + 1, 0, none⟩ = false := frozen_of_row v0 (N + 1) 0 _ _ x0
        obtain ⟨u0, hu0⟩ : ∃ u, u = v0.setCell ⟨N + 1, 0, none⟩ (.string a.row) := ⟨_, rfl⟩
        have G0 : v0.grownBy u0 (some (N + 1)) := by
          rw [hu0]
          exact ⟨rfl, rfl, rfl, by simp, fun k _ hk => heap_setCell_other v0 _ k _ (fun e => hk (by rw [e]))⟩
        have y0 : u0.heap[N + 1]? = some (.cells #[.string a.row, .string b.fam, .string b.qual, .int .u64 b.time] 24) := by
          rw [hu0, heap_setCell_same v0 (N + 1) 0 _ _ _ x0]
          simp
        have a6 : KC u0 N a := (G0.block N a5.lt (by simp)).trans a5
        have c6 : KC u0 (N + 2) c := (G0.block (N + 2) c5.lt (by simp)).trans c5
        refine hr_skip 7 none rfl rfl (by kernel_rfl) rfl (w' := u0) (by rw [hu0]; go_simp) ⟨a6.c0, a6.c1, a6.c2⟩ ?_
        simp only [Act.put]
        have B6 : Below N w u0 := B5.grown G0 (by have := a5.lt; omega) (fun k hk => by have := Option.some.inj hk; omega)
        clear x0 fc0 ff0 hu0 G0 a5 c5 B5 b5
        refine hr_take 8 (some 28) (.pointer (some ⟨N + 1, 1, none⟩)) rfl rfl (by kernel_rfl) (by kernel_rfl) (by kernel_rfl) rfl (fun W hW => by obtain ⟨h1, h2, h3⟩ := hW; go_simp) ⟨a6.c0, a6.c1, a6.c2⟩ ?_
        simp only [Act.put, List.setIfInBounds_toArray, List.set_cons_zero, List.set_cons_succ]
        have x1 : u0.heap[N + 1]? = some (.cells #[.string a.row, .string b.fam, .string b.qual, .int .u64 b.time] 24) := y0
        have fc1 : u0.cell? ⟨N + 1, 1, none⟩ = some (.string b.fam) := cell_of_row u0 (N + 1) 1 _ _ _ x1
        have ff1 : u0.frozen? ⟨N + 1, 1, none⟩ = false := frozen_of_row u0 (N + 1) 1 _ _ x1
        obtain ⟨u1, hu1⟩ : ∃ u, u = u0.setCell ⟨N + 1, 1, none⟩ (.string a.fam) := ⟨_, rfl⟩
        have G1 : u0.grownBy u1 (some (N + 1)) := by
          rw [hu1]
          exact ⟨rfl, rfl, rfl, by simp, fun k _ hk => heap_setCell_other u0 _ k _ (fun e => hk (by rw [e]))⟩
        have y1 : u1.heap[N + 1]? = some (.cells #[.string a.row, .string a.fam, .string b.qual, .int .u64 b.time] 24) := by
          rw [hu1, heap_setCell_same u0 (N + 1) 1 _ _ _ x1]
          simp
        have a7 : KC u1 N a := (G1.block N a6.lt (by simp)).trans a6
        have c7 : KC u1 (N + 2) c := (G1.block (N + 2) c6.lt (by simp)).trans c6
        refine hr_skip 9 none rfl rfl (by kernel_rfl) rfl (w' := u1) (by rw [hu1]; go_simp) ⟨a7.c0, a7.c1, a7.c2⟩ ?_
        simp only [Act.put]
        have B7 : Below N w u1 := B6.grown G1 (by have := a6.lt; omega) (fun k hk => by have := Option.some.inj hk; omega)
        clear x1 fc1 ff1 hu1 G1 a6 c6 B6 y0
        refine hr_take 10 (some 29) (.pointer (some ⟨N + 1, 2, none⟩)) rfl rfl (by kernel_rfl) (by kernel_rfl) (by kernel_rfl) rfl (fun W hW => by obtain ⟨h1, h2, h3⟩ := hW; go_simp) ⟨a7.c0, a7.c1, a7.c2⟩ ?_
        simp only [Act.put, List.setIfInBounds_toArray, List.set_cons_zero, List.set_cons_succ]
        have x2 : u1.heap[N + 1]? = some (.cells #[.string a.row, .string a.fam, .string b.qual, .int .u64 b.time] 24) := y1
        have fc2 : u1.cell? ⟨N + 1, 2, none⟩ = some (.string b.qual) := cell_of_row u1 (N + 1) 2 _ _ _ x2
        have ff2 : u1.frozen? ⟨N + 1, 2, none⟩ = false := frozen_of_row u1 (N + 1) 2 _ _ x2
        obtain ⟨u2, hu2⟩ : ∃ u, u = u1.setCell ⟨N + 1, 2, none⟩ (.string a.qual) := ⟨_, rfl⟩
        have G2 : u1.grownBy u2 (some (N + 1)) := by
          rw [hu2]
          exact ⟨rfl, rfl, rfl, by simp, fun k _ hk => heap_setCell_other u1 _ k _ (fun e => hk (by rw [e]))⟩
        have y2 : u2.heap[N + 1]? = some (.cells #[.string a.row, .string a.fam, .string a.qual, .int .u64 b.time] 24) := by
          rw [hu2, heap_setCell_same u1 (N + 1) 2 _ _ _ x2]
          simp
        have a8 : KC u2 N a := (G2.block N a7.lt (by simp)).trans a7
        have c8 : KC u2 (N + 2) c := (G2.block (N + 2) c7.lt (by simp)).trans c7
        refine hr_skip 11 none rfl rfl (by kernel_rfl) rfl (w' := u2) (by rw [hu2]; go_simp) ⟨a8.c0, a8.c1, a8.c2⟩ ?_
        simp only [Act.put]
        have B8 : Below N w u2 := B7.grown G2 (by have := a7.lt; omega) (fun k hk => by have := Option.some.inj hk; omega)
        clear x2 fc2 ff2 hu2 G2 a7 c7 B7 y1
        refine wpAnyH_done (by kernel_rfl) ?_ _
        refine NoPanic.normal ?_
        obtain ⟨d, hd⟩ : ∃ d : KA, d = ⟨a.row, a.fam, a.qual, b.time⟩ := ⟨_, rfl⟩
        have d8 : KC u2 (N + 1) d := by rw [hd]; exact y2
        have HD : Hid (d = ⟨a.row, a.fam, a.qual, b.time⟩) := hd
        have HT : Hid (d.time = b.time) := by rw [hd]; rfl
        have col1 : Hid (a.col d = true) := by rw [hd]; exact decide_eq_true ⟨rfl, rfl, rfl⟩
        have col2 : Hid (a.col c = c.col d) := by
          rw [hd]
          exact decide_eq_decide.2 ⟨fun h => ⟨h.1.symm, h.2.1.symm, h.2.2.symm⟩, fun h => ⟨h.1.symm, h.2.1.symm, h.2.2.symm⟩⟩
        have btw : Hid (cmpK a.kv c.kv ≤ 0 → cmpK c.kv d.kv ≤ 0 → a.col c = true) := fun h1 h2 => by
          have hq := colK_between a.kv d.kv c.kv (by rw [hd]; exact ⟨rfl, rfl, rfl⟩) h1 h2
          exact decide_eq_true ⟨sb_inj hq.1, sb_inj hq.2.1, sb_inj hq.2.2⟩
        have tim : Hid (cmpK a.kv d.kv = cmpT a.time d.time) := cmpK_col a.kv d.kv (by rw [hd]; exact ⟨rfl, rfl, rfl⟩)
        have neg : Hid (cmpK d.kv a.kv = -cmpK a.kv d.kv) := cmpK_neg _ _
        clear y2 hd HD
        have ea0 := a8.c0
        have ea1 := a8.c1
        have ea2 := a8.c2
        have ea3 := a8.c3
        have ec0 := c8.c0
        have ec1 := c8.c1
        have ec2 := c8.c2
        have ec3 := c8.c3
        have ed0 := d8.c0
        have ed1 := d8.c1
        have ed2 := d8.c2
        have ed3 := d8.c3
        go_wp2_with fail
        refine (pcmp_any u2 a c).mono ?_
        rintro e w9 ⟨rfl, C⟩
        clear ea0 ea1 ea2 ea3 ec0 ec1 ec2 ec3 ed0 ed1 ed2 ed3
        have B9 := B8.trans (C.mono (by have := B8.size; have := HN.out; omega))
        have a9 := a8.keep C
        have c9 := c8.keep C
        have d9 := d8.keep C
        clear C a8 c8 d8 B8
        obtain ⟨x, hx⟩ : ∃ x, x = cmpK a.kv c.kv := ⟨_, rfl⟩
        rw [← hx] at btw ⊢
        clear hx
        by_cases lx : x ≤ 0
        · obtain ⟨y, hy⟩ : ∃ y, y = cmpK c.kv d.kv := ⟨_, rfl⟩
          have ea0 := a9.c0
          have ea1 := a9.c1
          have ea2 := a9.c2
          have ea3 := a9.c3
          have ec0 := c9.c0
          have ec1 := c9.c1
          have ec2 := c9.c2
          have ec3 := c9.c3
          have ed0 := d9.c0
          have ed1 := d9.c1
          have ed2 := d9.c2
          have ed3 := d9.c3
          go_wp2_with fail
          refine (pcmp_any w9 c d).mono ?_
          rintro e w10 ⟨rfl, C⟩
          clear ea0 ea1 ea2 ea3 ec0 ec1 ec2 ec3 ed0 ed1 ed2 ed3
          have B10 := B9.trans (C.mono (by have := B9.size; have := HN.out; omega))
          have a10 := a9.keep C
          have c10 := c9.keep C
          have d10 := d9.keep C
          clear C a9 c9 d9 B9
          rw [← hy] at btw ⊢
          clear hy
          by_cases ly : y ≤ 0
          · have hcol : Hid (a.col c = true) := btw.out lx ly
            have ea0 := a10.c0
            have ea1 := a10.c1
            have ea2 := a10.c2
            have ea3 := a10.c3
            have ec0 := c10.c0
            have ec1 := c10.c1
            have ec2 := c10.c2
            have ec3 := c10.c3
            have ed0 := d10.c0
            have ed1 := d10.c1
            have ed2 := d10.c2
            have ed3 := d10.c3
            go_wp2_with fail
            refine (pcolumn_any w10 a c).mono ?_
            rintro e w11 ⟨rfl, C⟩
            rw [hcol.out]
            clear ea0 ea1 ea2 ea3 ec0 ec1 ec2 ec3 ed0 ed1 ed2 ed3
            have B11 := B10.trans (C.mono (by have := B10.size; have := HN.out; omega))
            have a11 := a10.keep C
            have c11 := c10.keep C
            have d11 := d10.keep C
            clear C a10 c10 d10 B10
            clear btw hcol
            go_wp2_with fail
            have HS : Hid (∀ V, Below w11.heap.size w11 V → V.cell? ⟨N, 0, none⟩ = some (.string a.row) ∧ V.cell? ⟨N, 1, none⟩ = some (.string a.fam) ∧ V.cell? ⟨N, 2, none⟩ = some (.string a.qual) ∧ V.cell? ⟨N, 3, none⟩ = some (.int .u64 a.time) ∧ V.cell? ⟨N + 1, 0, none⟩ = some (.string d.row) ∧ V.cell? ⟨N + 1, 1, none⟩ = some (.string d.fam) ∧ V.cell? ⟨N + 1, 2, none⟩ = some (.string d.qual) ∧ V.cell? ⟨N + 1, 3, none⟩ = some (.int .u64 d.time) ∧ V.cell? ⟨N + 2, 0, none⟩ = some (.string c.row) ∧ V.cell? ⟨N + 2, 1, none⟩ = some (.string c.fam) ∧ V.cell? ⟨N + 2, 2, none⟩ = some (.string c.qual) ∧ V.cell? ⟨N + 2, 3, none⟩ = some (.int .u64 c.time)) := fun V hV => ⟨(a11.keep hV).c0, (a11.keep hV).c1, (a11.keep hV).c2, (a11.keep hV).c3, (d11.keep hV).c0, (d11.keep hV).c1, (d11.keep hV).c2, (d11.keep hV).c3, (c11.keep hV).c0, (c11.keep hV).c1, (c11.keep hV).c2, (c11.keep hV).c3⟩
            have E0 : Below w11.heap.size w11 w11.drew := (Below.refl _ _).drew
            refine wp_region_noPanic ?_
            refine wp_region_held_drew (S := fun V => V.cell? ⟨N, 0, none⟩ = some (.string a.row) ∧ V.cell? ⟨N, 1, none⟩ = some (.string a.fam) ∧ V.cell? ⟨N, 2, none⟩ = some (.string a.qual) ∧ V.cell? ⟨N, 3, none⟩ = some (.int .u64 a.time) ∧ V.cell? ⟨N + 1, 0, none⟩ = some (.string d.row) ∧ V.cell? ⟨N + 1, 1, none⟩ = some (.string d.fam) ∧ V.cell? ⟨N + 1, 2, none⟩ = some (.string d.qual) ∧ V.cell? ⟨N + 1, 3, none⟩ = some (.int .u64 d.time) ∧ V.cell? ⟨N + 2, 0, none⟩ = some (.string c.row) ∧ V.cell? ⟨N + 2, 1, none⟩ = some (.string c.fam) ∧ V.cell? ⟨N + 2, 2, none⟩ = some (.string c.qual) ∧ V.cell? ⟨N + 2, 3, none⟩ = some (.int .u64 c.time)) (by kernel_rfl) (HS.out _ E0) (fun H0 => ?_)
            obtain ⟨v0, hv0⟩ : ∃ v, v = w11.drew := ⟨_, rfl⟩
            rw [← hv0] at H0 E0 ⊢
            clear hv0
            refine hr_take_w 0 (some 46) (.agg #[.string a.row, .string a.fam, .string a.qual, .int .u64 a.time]) rfl rfl (by kernel_rfl) (by kernel_rfl) (by kernel_rfl) rfl (fun W hW => by obtain ⟨h0, h1, h2, h3, h4, h5, h6, h7, h8, h9, h10, h11⟩ := hW; go_simp) H0 ?_
            simp only [Act.put, List.setIfInBounds_toArray, List.set_cons_zero, List.set_cons_succ]
            refine hr_take_w 1 (some 47) (.agg #[.string d.row, .string d.fam, .string d.qual, .int .u64 d.time]) rfl rfl (by kernel_rfl) (by kernel_rfl) (by kernel_rfl) rfl (fun W hW => by obtain ⟨h0, h1, h2, h3, h4, h5, h6, h7, h8, h9, h10, h11⟩ := hW; go_simp) H0 ?_
            simp only [Act.put, List.setIfInBounds_toArray, List.set_cons_zero, List.set_cons_succ]
            refine hr_call_w 2 (some 48) 18 #[.agg #[.string a.row, .string a.fam, .string a.qual, .int .u64 a.time], .agg #[.string d.row, .string d.fam, .string d.qual, .int .u64 d.time]] rfl rfl (by kernel_rfl) rfl (by go_simp) (fun v w' => v = .bool true ∧ Below v0.heap.size v0 w') ((pcolumn_any v0 a d).mono (by
              rintro e w' ⟨rfl, C⟩
              exact ⟨_, rfl, by rw [col1.out], C⟩)) ?_
            rintro v v1 ⟨rfl, C⟩
            have E1 := E0.trans (C.mono E0.size)
            have H1 := HS.out v1 E1
            clear C
            refine ⟨H1, ?_⟩
            simp only [Act.put, List.setIfInBounds_toArray, List.set_cons_zero, List.set_cons_succ]
            refine hr_take_w 3 (some 49) (.bool false) rfl rfl (by kernel_rfl) (by kernel_rfl) (by kernel_rfl) rfl (fun W hW => by obtain ⟨h0, h1, h2, h3, h4, h5, h6, h7, h8, h9, h10, h11⟩ := hW; go_simp) H1 ?_
            simp only [Act.put, List.setIfInBounds_toArray, List.set_cons_zero, List.set_cons_succ]
            refine hr_take_w 4 (some 50) (.bool false) rfl rfl (by kernel_rfl) (by kernel_rfl) (by kernel_rfl) rfl (fun W hW => by obtain ⟨h0, h1, h2, h3, h4, h5, h6, h7, h8, h9, h10, h11⟩ := hW; go_simp) H1 ?_
            simp only [Act.put, List.setIfInBounds_toArray, List.set_cons_zero, List.set_cons_succ]
            refine hr_take_w 5 (some 51) (.agg #[.string a.row, .string a.fam, .string a.qual, .int .u64 a.time]) rfl rfl (by kernel_rfl) (by kernel_rfl) (by kernel_rfl) rfl (fun W hW => by obtain ⟨h0, h1, h2, h3, h4, h5, h6, h7, h8, h9, h10, h11⟩ := hW; go_simp) H1 ?_
            simp only [Act.put, List.setIfInBounds_toArray, List.set_cons_zero, List.set_cons_succ]
            refine hr_take_w 6 (some 52) (.agg #[.string c.row, .string c.fam, .string c.qual, .int .u64 c.time]) rfl rfl (by kernel_rfl) (by kernel_rfl) (by kernel_rfl) rfl (fun W hW => by obtain ⟨h0, h1, h2, h3, h4, h5, h6, h7, h8, h9, h10, h11⟩ := hW; go_simp) H1 ?_
            simp only [Act.put, List.setIfInBounds_toArray, List.set_cons_zero, List.set_cons_succ]
            refine hr_take_w 8 (some 54) (.agg #[.string c.row, .string c.fam, .string c.qual, .int .u64 c.time]) rfl rfl (by kernel_rfl) (by kernel_rfl) (by kernel_rfl) rfl (fun W hW => by obtain ⟨h0, h1, h2, h3, h4, h5, h6, h7, h8, h9, h10, h11⟩ := hW; go_simp) H1 ?_
            simp only [Act.put, List.setIfInBounds_toArray, List.set_cons_zero, List.set_cons_succ]
            refine hr_take_w 9 (some 55) (.agg #[.string d.row, .string d.fam, .string d.qual, .int .u64 d.time]) rfl rfl (by kernel_rfl) (by kernel_rfl) (by kernel_rfl) rfl (fun W hW => by obtain ⟨h0, h1, h2, h3, h4, h5, h6, h7, h8, h9, h10, h11⟩ := hW; go_simp) H1 ?_
            simp only [Act.put, List.setIfInBounds_toArray, List.set_cons_zero, List.set_cons_succ]
            refine hr_call_w 7 (some 53) 18 #[.agg #[.string a.row, .string a.fam, .string a.qual, .int .u64 a.time], .agg #[.string c.row, .string c.fam, .string c.qual, .int .u64 c.time]] rfl rfl (by kernel_rfl) rfl (by go_simp) (fun v w' => v = .bool (c.col d) ∧ Below v1.heap.size v1 w') ((pcolumn_any v1 a c).mono (by
              rintro e w' ⟨rfl, C⟩
              exact ⟨_, rfl, by rw [col2.out], C⟩)) ?_
            rintro v v2 ⟨rfl, C⟩
            have E2 := E1.trans (C.mono E1.size)
            have H2 := HS.out v2 E2
            clear C
            refine ⟨H2, ?_⟩
            simp only [Act.put, List.setIfInBounds_toArray, List.set_cons_zero, List.set_cons_succ]
            refine hr_call_w 10 (some 56) 18 #[.agg #[.string c.row, .string c.fam, .string c.qual, .int .u64 c.time], .agg #[.string d.row, .string d.fam, .string d.qual, .int .u64 d.time]] rfl rfl (by kernel_rfl) rfl (by go_simp) (fun v w' => v = .bool (c.col d) ∧ Below v2.heap.size v2 w') ((pcolumn_any v2 c d).mono (by
              rintro e w' ⟨rfl, C⟩
              exact ⟨_, rfl, by rfl, C⟩)) ?_
            rintro v v3 ⟨rfl, C⟩
            have E3 := E2.trans (C.mono E2.size)
            have H3 := HS.out v3 E3
            clear C
            refine ⟨H3, ?_⟩
            simp only [Act.put, List.setIfInBounds_toArray, List.set_cons_zero, List.set_cons_succ]
            refine hr_take_w 11 (some 57) (.bool false) rfl rfl (by kernel_rfl) (by kernel_rfl) (by kernel_rfl) rfl (fun W hW => by obtain ⟨h0, h1, h2, h3, h4, h5, h6, h7, h8, h9, h10, h11⟩ := hW; cases c.col d <;> go_simp) H3 ?_
            simp only [Act.put, List.setIfInBounds_toArray, List.set_cons_zero, List.set_cons_succ]
            refine hr_take_w 12 (some 58) (.bool false) rfl rfl (by kernel_rfl) (by kernel_rfl) (by kernel_rfl) rfl (fun W hW => by obtain ⟨h0, h1, h2, h3, h4, h5, h6, h7, h8, h9, h10, h11⟩ := hW; go_simp) H3 ?_
            simp only [Act.put, List.setIfInBounds_toArray, List.set_cons_zero, List.set_cons_succ]
            refine wpAnyH_done (by kernel_rfl) ?_ _
            refine NoPanic.normal ?_
            have XB11 := B11.trans (E3.mono (by have := B11.size; have := HN.out; omega))
            have Xa11 := a11.keep E3
            have Xd11 := d11.keep E3
            have Xc11 := c11.keep E3
            clear HS E0 E1 E2 E3 H0 H1 H2 H3 a11 d11 c11 B11
            go_wp2_with fail
            obtain ⟨z, hz⟩ : ∃ z, z = v3 := ⟨_, rfl⟩
            rw [← hz] at Xa11 Xd11 Xc11 XB11 ⊢
            clear hz
            have ht := tim.out
            have n3 : cmpT a.time d.time = -1 ∨ cmpT a.time d.time = 0 ∨ cmpT a.time d.time = 1 := by
              unfold cmpT
              split
              · exact .inr (.inl rfl)
              · split
                · exact .inl rfl
                · exact .inr (.inr rfl)
            have negi : IntKind.i64.wrap (- -cmpK a.kv d.kv) = cmpK a.kv d.kv := by rw [IntKind.wrap_i64]; omega
            have negj : IntKind.i64.wrap (cmpK a.kv d.kv) = cmpK a.kv d.kv := by rw [IntKind.wrap_i64]; omega
            by_cases lt : d.time < a.time
            · have il : (d.time : Int) < (a.time : Int) := by omega
              have iz : cmpK a.kv d.kv < 0 := by rw [ht]; unfold cmpT; rw [if_neg (by omega), if_pos lt]; decide
              clear ht n3
              have HS : Hid (∀ V, Below z.heap.size z V → V.cell? ⟨N, 0, none⟩ = some (.string a.row) ∧ V.cell? ⟨N, 1, none⟩ = some (.string a.fam) ∧ V.cell? ⟨N, 2, none⟩ = some (.string a.qual) ∧ V.cell? ⟨N, 3, none⟩ = some (.int .u64 a.time) ∧ V.cell? ⟨N + 1, 0, none⟩ = some (.string d.row) ∧ V.cell? ⟨N + 1, 1, none⟩ = some (.string d.fam) ∧ V.cell? ⟨N + 1, 2, none⟩ = some (.string d.qual) ∧ V.cell? ⟨N + 1, 3, none⟩ = some (.int .u64 d.time)) := fun V hV => ⟨(Xa11.keep hV).c0, (Xa11.keep hV).c1, (Xa11.keep hV).c2, (Xa11.keep hV).c3, (Xd11.keep hV).c0, (Xd11.keep hV).c1, (Xd11.keep hV).c2, (Xd11.keep hV).c3⟩
              have E0 : Below z.heap.size z z.drew := (Below.refl _ _).drew
              refine wp_region_noPanic ?_
              refine wp_region_held_drew (S := fun V => V.cell? ⟨N, 0, none⟩ = some (.string a.row) ∧ V.cell? ⟨N, 1, none⟩ = some (.string a.fam) ∧ V.cell? ⟨N, 2, none⟩ = some (.string a.qual) ∧ V.cell? ⟨N, 3, none⟩ = some (.int .u64 a.time) ∧ V.cell? ⟨N + 1, 0, none⟩ = some (.string d.row) ∧ V.cell? ⟨N + 1, 1, none⟩ = some (.string d.fam) ∧ V.cell? ⟨N + 1, 2, none⟩ = some (.string d.qual) ∧ V.cell? ⟨N + 1, 3, none⟩ = some (.int .u64 d.time)) (by kernel_rfl) (HS.out _ E0) (fun H0 => ?_)
              obtain ⟨v0, hv0⟩ : ∃ v, v = z.drew := ⟨_, rfl⟩
              rw [← hv0] at H0 E0 ⊢
              clear hv0
              refine hr_take_w 0 (some 59) (.agg #[.string a.row, .string a.fam, .string a.qual, .int .u64 a.time]) rfl rfl (by kernel_rfl) (by kernel_rfl) (by kernel_rfl) rfl (fun W hW => by obtain ⟨h0, h1, h2, h3, h4, h5, h6, h7⟩ := hW; go_simp) H0 ?_
              simp only [Act.put, List.setIfInBounds_toArray, List.set_cons_zero, List.set_cons_succ]
              refine hr_take_w 1 (some 60) (.agg #[.string d.row, .string d.fam, .string d.qual, .int .u64 d.time]) rfl rfl (by kernel_rfl) (by kernel_rfl) (by kernel_rfl) rfl (fun W hW => by obtain ⟨h0, h1, h2, h3, h4, h5, h6, h7⟩ := hW; go_simp) H0 ?_
              simp only [Act.put, List.setIfInBounds_toArray, List.set_cons_zero, List.set_cons_succ]
              refine hr_take_w 4 (some 63) (.pointer (some ⟨N, 3, none⟩)) rfl rfl (by kernel_rfl) (by kernel_rfl) (by kernel_rfl) rfl (fun W hW => by obtain ⟨h0, h1, h2, h3, h4, h5, h6, h7⟩ := hW; go_simp) H0 ?_
              simp only [Act.put, List.setIfInBounds_toArray, List.set_cons_zero, List.set_cons_succ]
              refine hr_take_w 5 (some 64) (.int .u64 a.time) rfl rfl (by kernel_rfl) (by kernel_rfl) (by kernel_rfl) rfl (fun W hW => by obtain ⟨h0, h1, h2, h3, h4, h5, h6, h7⟩ := hW; go_simp) H0 ?_
              simp only [Act.put, List.setIfInBounds_toArray, List.set_cons_zero, List.set_cons_succ]
              refine hr_take_w 6 (some 65) (.pointer (some ⟨N + 1, 3, none⟩)) rfl rfl (by kernel_rfl) (by kernel_rfl) (by kernel_rfl) rfl (fun W hW => by obtain ⟨h0, h1, h2, h3, h4, h5, h6, h7⟩ := hW; go_simp) H0 ?_
              simp only [Act.put, List.setIfInBounds_toArray, List.set_cons_zero, List.set_cons_succ]
              refine hr_take_w 7 (some 66) (.int .u64 d.time) rfl rfl (by kernel_rfl) (by kernel_rfl) (by kernel_rfl) rfl (fun W hW => by obtain ⟨h0, h1, h2, h3, h4, h5, h6, h7⟩ := hW; go_simp) H0 ?_
              simp only [Act.put, List.setIfInBounds_toArray, List.set_cons_zero, List.set_cons_succ]
              refine hr_take_w 8 (some 67) (.bool true) rfl rfl (by kernel_rfl) (by kernel_rfl) (by kernel_rfl) rfl (fun W hW => by obtain ⟨h0, h1, h2, h3, h4, h5, h6, h7⟩ := hW; go_simp) H0 ?_
              simp only [Act.put, List.setIfInBounds_toArray, List.set_cons_zero, List.set_cons_succ]
              refine hr_call_w 2 (some 61) 16 #[.agg #[.string a.row, .string a.fam, .string a.qual, .int .u64 a.time], .agg #[.string d.row, .string d.fam, .string d.qual, .int .u64 d.time]] rfl rfl (by kernel_rfl) rfl (by go_simp) (fun v w' => v = .int .i64 (cmpK a.kv d.kv) ∧ Below v0.heap.size v0 w') ((pcmp_any v0 a d).mono (by
                rintro e w' ⟨rfl, C⟩
                exact ⟨_, rfl, by rfl, C⟩)) ?_
              rintro v v1 ⟨rfl, C⟩
              have E1 := E0.trans (C.mono E0.size)
              have H1 := HS.out v1 E1
              clear C
              refine ⟨H1, ?_⟩
              simp only [Act.put, List.setIfInBounds_toArray, List.set_cons_zero, List.set_cons_succ]
              refine hr_take_w 3 (some 62) (.bool true) rfl rfl (by kernel_rfl) (by kernel_rfl) (by kernel_rfl) rfl (fun W hW => by obtain ⟨h0, h1, h2, h3, h4, h5, h6, h7⟩ := hW; go_simp) H1 ?_
              simp only [Act.put, List.setIfInBounds_toArray, List.set_cons_zero, List.set_cons_succ]
              refine hr_take_w 9 (some 68) (.bool true) rfl rfl (by kernel_rfl) (by kernel_rfl) (by kernel_rfl) rfl (fun W hW => by obtain ⟨h0, h1, h2, h3, h4, h5, h6, h7⟩ := hW; go_simp) H1 ?_
              simp only [Act.put, List.setIfInBounds_toArray, List.set_cons_zero, List.set_cons_succ]
              refine hr_take_w 10 (some 69) (.bool true) rfl rfl (by kernel_rfl) (by kernel_rfl) (by kernel_rfl) rfl (fun W hW => by obtain ⟨h0, h1, h2, h3, h4, h5, h6, h7⟩ := hW; go_simp) H1 ?_
              simp only [Act.put, List.setIfInBounds_toArray, List.set_cons_zero, List.set_cons_succ]
              refine hr_take_w 11 (some 70) (.agg #[.string a.row, .string a.fam, .string a.qual, .int .u64 a.time]) rfl rfl (by kernel_rfl) (by kernel_rfl) (by kernel_rfl) rfl (fun W hW => by obtain ⟨h0, h1, h2, h3, h4, h5, h6, h7⟩ := hW; go_simp) H1 ?_
              simp only [Act.put, List.setIfInBounds_toArray, List.set_cons_zero, List.set_cons_succ]
              refine hr_take_w 12 (some 71) (.agg #[.string d.row, .string d.fam, .string d.qual, .int .u64 d.time]) rfl rfl (by kernel_rfl) (by kernel_rfl) (by kernel_rfl) rfl (fun W hW => by obtain ⟨h0, h1, h2, h3, h4, h5, h6, h7⟩ := hW; go_simp) H1 ?_
              simp only [Act.put, List.setIfInBounds_toArray, List.set_cons_zero, List.set_cons_succ]
              refine hr_take_w 14 (some 73) (.agg #[.string d.row, .string d.fam, .string d.qual, .int .u64 d.time]) rfl rfl (by kernel_rfl) (by kernel_rfl) (by kernel_rfl) rfl (fun W hW => by obtain ⟨h0, h1, h2, h3, h4, h5, h6, h7⟩ := hW; go_simp) H1 ?_
              simp only [Act.put, List.setIfInBounds_toArray, List.set_cons_zero, List.set_cons_succ]
              refine hr_take_w 15 (some 74) (.agg #[.string a.row, .string a.fam, .string a.qual, .int .u64 a.time]) rfl rfl (by kernel_rfl) (by kernel_rfl) (by kernel_rfl) rfl (fun W hW => by obtain ⟨h0, h1, h2, h3, h4, h5, h6, h7⟩ := hW; go_simp) H1 ?_
              simp only [Act.put, List.setIfInBounds_toArray, List.set_cons_zero, List.set_cons_succ]
              refine hr_call_w 13 (some 72) 16 #[.agg #[.string a.row, .string a.fam, .string a.qual, .int .u64 a.time], .agg #[.string d.row, .string d.fam, .string d.qual, .int .u64 d.time]] rfl rfl (by kernel_rfl) rfl (by go_simp) (fun v w' => v = .int .i64 (cmpK a.kv d.kv) ∧ Below v1.heap.size v1 w') ((pcmp_any v1 a d).mono (by
                rintro e w' ⟨rfl, C⟩
                exact ⟨_, rfl, by rfl, C⟩)) ?_
              rintro v v2 ⟨rfl, C⟩
              have E2 := E1.trans (C.mono E1.size)
              have H2 := HS.out v2 E2
              clear C
              refine ⟨H2, ?_⟩
              simp only [Act.put, List.setIfInBounds_toArray, List.set_cons_zero, List.set_cons_succ]
              refine hr_call_w 16 (some 75) 16 #[.agg #[.string d.row, .string d.fam, .string d.qual, .int .u64 d.time], .agg #[.string a.row, .string a.fam, .string a.qual, .int .u64 a.time]] rfl rfl (by kernel_rfl) rfl (by go_simp) (fun v w' => v = .int .i64 (-cmpK a.kv d.kv) ∧ Below v2.heap.size v2 w') ((pcmp_any v2 d a).mono (by
                rintro e w' ⟨rfl, C⟩
                exact ⟨_, rfl, by rw [neg.out], C⟩)) ?_
              rintro v v3 ⟨rfl, C⟩
              have E3 := E2.trans (C.mono E2.size)
              have H3 := HS.out v3 E3
              clear C
              refine ⟨H3, ?_⟩
              simp only [Act.put, List.setIfInBounds_toArray, List.set_cons_zero, List.set_cons_succ]
              refine hr_take_w 17 (some 76) (.int .i64 (cmpK a.kv d.kv)) rfl rfl (by kernel_rfl) (by kernel_rfl) (by kernel_rfl) rfl (fun W hW => by obtain ⟨h0, h1, h2, h3, h4, h5, h6, h7⟩ := hW; go_simp) H3 ?_
              simp only [Act.put, List.setIfInBounds_toArray, List.set_cons_zero, List.set_cons_succ]
              refine hr_take_w 18 (some 77) (.bool true) rfl rfl (by kernel_rfl) (by kernel_rfl) (by kernel_rfl) rfl (fun W hW => by obtain ⟨h0, h1, h2, h3, h4, h5, h6, h7⟩ := hW; go_simp) H3 ?_
              simp only [Act.put, List.setIfInBounds_toArray, List.set_cons_zero, List.set_cons_succ]
              refine hr_take_w 19 (some 78) (.bool true) rfl rfl (by kernel_rfl) (by kernel_rfl) (by kernel_rfl) rfl (fun W hW => by obtain ⟨h0, h1, h2, h3, h4, h5, h6, h7⟩ := hW; go_simp) H3 ?_
              simp only [Act.put, List.setIfInBounds_toArray, List.set_cons_zero, List.set_cons_succ]
              refine hr_take_w 20 (some 79) (.bool true) rfl rfl (by kernel_rfl) (by kernel_rfl) (by kernel_rfl) rfl (fun W hW => by obtain ⟨h0, h1, h2, h3, h4, h5, h6, h7⟩ := hW; go_simp) H3 ?_
              simp only [Act.put, List.setIfInBounds_toArray, List.set_cons_zero, List.set_cons_succ]
              refine hr_call_w 21 (some 80) 10 #[] rfl rfl (by kernel_rfl) rfl (by go_simp) (fun v w' => v = .bool true ∧ Below v3.heap.size v3 w') ((alive_any v3).mono (by
                rintro e w' ⟨rfl, C⟩
                exact ⟨_, rfl, by rfl, C⟩)) ?_
              rintro v v4 ⟨rfl, C⟩
              have E4 := E3.trans (C.mono E3.size)
              have H4 := HS.out v4 E4
              clear C
              refine ⟨H4, ?_⟩
              simp only [Act.put, List.setIfInBounds_toArray, List.set_cons_zero, List.set_cons_succ]
              refine hr_take_w 22 (some 81) (.bool true) rfl rfl (by kernel_rfl) (by kernel_rfl) (by kernel_rfl) rfl (fun W hW => by obtain ⟨h0, h1, h2, h3, h4, h5, h6, h7⟩ := hW; go_simp) H4 ?_
              simp only [Act.put, List.setIfInBounds_toArray, List.set_cons_zero, List.set_cons_succ]
              refine hr_take_w 23 (some 6) (.bool true) rfl rfl (by kernel_rfl) (by kernel_rfl) (by kernel_rfl) rfl (fun W hW => by obtain ⟨h0, h1, h2, h3, h4, h5, h6, h7⟩ := hW; go_simp) H4 ?_
              simp only [Act.put, List.setIfInBounds_toArray, List.set_cons_zero, List.set_cons_succ]
              refine wpAnyH_done (by kernel_rfl) ?_ _
              refine NoPanic.normal ?_
              have BF := XB11.trans (E4.mono (by have := XB11.size; have := HN.out; omega))
              go_wp2
              go_ret
              exact ⟨rfl, by rw [← HN.out]; exact BF⟩
            · have il : (a.time : Int) ≤ (d.time : Int) := by omega
              have iz : 0 ≤ cmpK a.kv d.kv := by
                rw [ht]
                unfold cmpT
                by_cases e : a.time = d.time
                · rw [if_pos e]; decide
                · rw [if_neg e, if_neg lt]; decide
              clear ht n3
              have HS : Hid (∀ V, Below z.heap.size z V → V.cell? ⟨N, 0, none⟩ = some (.string a.row) ∧ V.cell? ⟨N, 1, none⟩ = some (.string a.fam) ∧ V.cell? ⟨N, 2, none⟩ = some (.string a.qual) ∧ V.cell? ⟨N, 3, none⟩ = some (.int .u64 a.time) ∧ V.cell? ⟨N + 1, 0, none⟩ = some (.string d.row) ∧ V.cell? ⟨N + 1, 1, none⟩ = some (.string d.fam) ∧ V.cell? ⟨N + 1, 2, none⟩ = some (.string d.qual) ∧ V.cell? ⟨N + 1, 3, none⟩ = some (.int .u64 d.time)) := fun V hV => ⟨(Xa11.keep hV).c0, (Xa11.keep hV).c1, (Xa11.keep hV).c2, (Xa11.keep hV).c3, (Xd11.keep hV).c0, (Xd11.keep hV).c1, (Xd11.keep hV).c2, (Xd11.keep hV).c3⟩
              have E0 : Below z.heap.size z z.drew := (Below.refl _ _).drew
              refine wp_region_noPanic ?_
              refine wp_region_held_drew (S := fun V => V.cell? ⟨N, 0, none⟩ = some (.string a.row) ∧ V.cell? ⟨N, 1, none⟩ = some (.string a.fam) ∧ V.cell? ⟨N, 2, none⟩ = some (.string a.qual) ∧ V.cell? ⟨N, 3, none⟩ = some (.int .u64 a.time) ∧ V.cell? ⟨N + 1, 0, none⟩ = some (.string d.row) ∧ V.cell? ⟨N + 1, 1, none⟩ = some (.string d.fam) ∧ V.cell? ⟨N + 1, 2, none⟩ = some (.string d.qual) ∧ V.cell? ⟨N + 1, 3, none⟩ = some (.int .u64 d.time)) (by kernel_rfl) (HS.out _ E0) (fun H0 => ?_)
              obtain ⟨v0, hv0⟩ : ∃ v, v = z.drew := ⟨_, rfl⟩
              rw [← hv0] at H0 E0 ⊢
              clear hv0
              refine hr_take_w 0 (some 59) (.agg #[.string a.row, .string a.fam, .string a.qual, .int .u64 a.time]) rfl rfl (by kernel_rfl) (by kernel_rfl) (by kernel_rfl) rfl (fun W hW => by obtain ⟨h0, h1, h2, h3, h4, h5, h6, h7⟩ := hW; go_simp) H0 ?_
              simp only [Act.put, List.setIfInBounds_toArray, List.set_cons_zero, List.set_cons_succ]
              refine hr_take_w 1 (some 60) (.agg #[.string d.row, .string d.fam, .string d.qual, .int .u64 d.time]) rfl rfl (by kernel_rfl) (by kernel_rfl) (by kernel_rfl) rfl (fun W hW => by obtain ⟨h0, h1, h2, h3, h4, h5, h6, h7⟩ := hW; go_simp) H0 ?_
              simp only [Act.put, List.setIfInBounds_toArray, List.set_cons_zero, List.set_cons_succ]
              refine hr_take_w 4 (some 63) (.pointer (some ⟨N, 3, none⟩)) rfl rfl (by kernel_rfl) (by kernel_rfl) (by kernel_rfl) rfl (fun W hW => by obtain ⟨h0, h1, h2, h3, h4, h5, h6, h7⟩ := hW; go_simp) H0 ?_
              simp only [Act.put, List.setIfInBounds_toArray, List.set_cons_zero, List.set_cons_succ]
              refine hr_take_w 5 (some 64) (.int .u64 a.time) rfl rfl (by kernel_rfl) (by kernel_rfl) (by kernel_rfl) rfl (fun W hW => by obtain ⟨h0, h1, h2, h3, h4, h5, h6, h7⟩ := hW; go_simp) H0 ?_
              simp only [Act.put, List.setIfInBounds_toArray, List.set_cons_zero, List.set_cons_succ]
              refine hr_take_w 6 (some 65) (.pointer (some ⟨N + 1, 3, none⟩)) rfl rfl (by kernel_rfl) (by kernel_rfl) (by kernel_rfl) rfl (fun W hW => by obtain ⟨h0, h1, h2, h3, h4, h5, h6, h7⟩ := hW; go_simp) H0 ?_
              simp only [Act.put, List.setIfInBounds_toArray, List.set_cons_zero, List.set_cons_succ]
              refine hr_take_w 7 (some 66) (.int .u64 d.time) rfl rfl (by kernel_rfl) (by kernel_rfl) (by kernel_rfl) rfl (fun W hW => by obtain ⟨h0, h1, h2, h3, h4, h5, h6, h7⟩ := hW; go_simp) H0 ?_
              simp only [Act.put, List.setIfInBounds_toArray, List.set_cons_zero, List.set_cons_succ]
              refine hr_take_w 8 (some 67) (.bool false) rfl rfl (by kernel_rfl) (by kernel_rfl) (by kernel_rfl) rfl (fun W hW => by obtain ⟨h0, h1, h2, h3, h4, h5, h6, h7⟩ := hW; go_simp) H0 ?_
              simp only [Act.put, List.setIfInBounds_toArray, List.set_cons_zero, List.set_cons_succ]
              refine hr_call_w 2 (some 61) 16 #[.agg #[.string a.row, .string a.fam, .string a.qual, .int .u64 a.time], .agg #[.string d.row, .string d.fam, .string d.qual, .int .u64 d.time]] rfl rfl (by kernel_rfl) rfl (by go_simp) (fun v w' => v = .int .i64 (cmpK a.kv d.kv) ∧ Below v0.heap.size v0 w') ((pcmp_any v0 a d).mono (by
                rintro e w' ⟨rfl, C⟩
                exact ⟨_, rfl, by rfl, C⟩)) ?_
              rintro v v1 ⟨rfl, C⟩
              have E1 := E0.trans (C.mono E0.size)
              have H1 := HS.out v1 E1
              clear C
              refine ⟨H1, ?_⟩
              simp only [Act.put, List.setIfInBounds_toArray, List.set_cons_zero, List.set_cons_succ]
              refine hr_take_w 3 (some 62) (.bool false) rfl rfl (by kernel_rfl) (by kernel_rfl) (by kernel_rfl) rfl (fun W hW => by obtain ⟨h0, h1, h2, h3, h4, h5, h6, h7⟩ := hW; go_simp) H1 ?_
              simp only [Act.put, List.setIfInBounds_toArray, List.set_cons_zero, List.set_cons_succ]
              refine hr_take_w 9 (some 68) (.bool true) rfl rfl (by kernel_rfl) (by kernel_rfl) (by kernel_rfl) rfl (fun W hW => by obtain ⟨h0, h1, h2, h3, h4, h5, h6, h7⟩ := hW; go_simp) H1 ?_
              simp only [Act.put, List.setIfInBounds_toArray, List.set_cons_zero, List.set_cons_succ]
              refine hr_take_w 10 (some 69) (.bool true) rfl rfl (by kernel_rfl) (by kernel_rfl) (by kernel_rfl) rfl (fun W hW => by obtain ⟨h0, h1, h2, h3, h4, h5, h6, h7⟩ := hW; go_simp) H1 ?_
              simp only [Act.put, List.setIfInBounds_toArray, List.set_cons_zero, List.set_cons_succ]
              refine hr_take_w 11 (some 70) (.agg #[.string a.row, .string a.fam, .string a.qual, .int .u64 a.time]) rfl rfl (by kernel_rfl) (by kernel_rfl) (by kernel_rfl) rfl (fun W hW => by obtain ⟨h0, h1, h2, h3, h4, h5, h6, h7⟩ := hW; go_simp) H1 ?_
              simp only [Act.put, List.setIfInBounds_toArray, List.set_cons_zero, List.set_cons_succ]
              refine hr_take_w 12 (some 71) (.agg #[.string d.row, .string d.fam, .string d.qual, .int .u64 d.time]) rfl rfl (by kernel_rfl) (by kernel_rfl) (by kernel_rfl) rfl (fun W hW => by obtain ⟨h0, h1, h2, h3, h4, h5, h6, h7⟩ := hW; go_simp) H1 ?_
              simp only [Act.put, List.setIfInBounds_toArray, List.set_cons_zero, List.set_cons_succ]
              refine hr_take_w 14 (some 73) (.agg #[.string d.row, .string d.fam, .string d.qual, .int .u64 d.time]) rfl rfl (by kernel_rfl) (by kernel_rfl) (by kernel_rfl) rfl (fun W hW => by obtain ⟨h0, h1, h2, h3, h4, h5, h6, h7⟩ := hW; go_simp) H1 ?_
              simp only [Act.put, List.setIfInBounds_toArray, List.set_cons_zero, List.set_cons_succ]
              refine hr_take_w 15 (some 74) (.agg #[.string a.row, .string a.fam, .string a.qual, .int .u64 a.time]) rfl rfl (by kernel_rfl) (by kernel_rfl) (by kernel_rfl) rfl (fun W hW => by obtain ⟨h0, h1, h2, h3, h4, h5, h6, h7⟩ := hW; go_simp) H1 ?_
              simp only [Act.put, List.setIfInBounds_toArray, List.set_cons_zero, List.set_cons_succ]
              refine hr_call_w 13 (some 72) 16 #[.agg #[.string a.row, .string a.fam, .string a.qual, .int .u64 a.time], .agg #[.string d.row, .string d.fam, .string d.qual, .int .u64 d.time]] rfl rfl (by kernel_rfl) rfl (by go_simp) (fun v w' => v = .int .i64 (cmpK a.kv d.kv) ∧ Below v1.heap.size v1 w') ((pcmp_any v1 a d).mono (by
                rintro e w' ⟨rfl, C⟩
                exact ⟨_, rfl, by rfl, C⟩)) ?_
              rintro v v2 ⟨rfl, C⟩
              have E2 := E1.trans (C.mono E1.size)
              have H2 := HS.out v2 E2
              clear C
              refine ⟨H2, ?_⟩
              simp only [Act.put, List.setIfInBounds_toArray, List.set_cons_zero, List.set_cons_succ]
              refine hr_call_w 16 (some 75) 16 #[.agg #[.string d.row, .string d.fam, .string d.qual, .int .u64 d.time], .agg #[.string a.row, .string a.fam, .string a.qual, .int .u64 a.time]] rfl rfl (by kernel_rfl) rfl (by go_simp) (fun v w' => v = .int .i64 (-cmpK a.kv d.kv) ∧ Below v2.heap.size v2 w') ((pcmp_any v2 d a).mono (by
                rintro e w' ⟨rfl, C⟩
                exact ⟨_, rfl, by rw [neg.out], C⟩)) ?_
              rintro v v3 ⟨rfl, C⟩
              have E3 := E2.trans (C.mono E2.size)
              have H3 := HS.out v3 E3
              clear C
              refine ⟨H3, ?_⟩
              simp only [Act.put, List.setIfInBounds_toArray, List.set_cons_zero, List.set_cons_succ]
              refine hr_take_w 17 (some 76) (.int .i64 (cmpK a.kv d.kv)) rfl rfl (by kernel_rfl) (by kernel_rfl) (by kernel_rfl) rfl (fun W hW => by obtain ⟨h0, h1, h2, h3, h4, h5, h6, h7⟩ := hW; go_simp) H3 ?_
              simp only [Act.put, List.setIfInBounds_toArray, List.set_cons_zero, List.set_cons_succ]
              refine hr_take_w 18 (some 77) (.bool true) rfl rfl (by kernel_rfl) (by kernel_rfl) (by kernel_rfl) rfl (fun W hW => by obtain ⟨h0, h1, h2, h3, h4, h5, h6, h7⟩ := hW; go_simp) H3 ?_
              simp only [Act.put, List.setIfInBounds_toArray, List.set_cons_zero, List.set_cons_succ]
              refine hr_take_w 19 (some 78) (.bool true) rfl rfl (by kernel_rfl) (by kernel_rfl) (by kernel_rfl) rfl (fun W hW => by obtain ⟨h0, h1, h2, h3, h4, h5, h6, h7⟩ := hW; go_simp) H3 ?_
              simp only [Act.put, List.setIfInBounds_toArray, List.set_cons_zero, List.set_cons_succ]
              refine hr_take_w 20 (some 79) (.bool true) rfl rfl (by kernel_rfl) (by kernel_rfl) (by kernel_rfl) rfl (fun W hW => by obtain ⟨h0, h1, h2, h3, h4, h5, h6, h7⟩ := hW; go_simp) H3 ?_
              simp only [Act.put, List.setIfInBounds_toArray, List.set_cons_zero, List.set_cons_succ]
              refine hr_call_w 21 (some 80) 10 #[] rfl rfl (by kernel_rfl) rfl (by go_simp) (fun v w' => v = .bool true ∧ Below v3.heap.size v3 w') ((alive_any v3).mono (by
                rintro e w' ⟨rfl, C⟩
                exact ⟨_, rfl, by rfl, C⟩)) ?_
              rintro v v4 ⟨rfl, C⟩
              have E4 := E3.trans (C.mono E3.size)
              have H4 := HS.out v4 E4
              clear C
              refine ⟨H4, ?_⟩
              simp only [Act.put, List.setIfInBounds_toArray, List.set_cons_zero, List.set_cons_succ]
              refine hr_take_w 22 (some 81) (.bool true) rfl rfl (by kernel_rfl) (by kernel_rfl) (by kernel_rfl) rfl (fun W hW => by obtain ⟨h0, h1, h2, h3, h4, h5, h6, h7⟩ := hW; go_simp) H4 ?_
              simp only [Act.put, List.setIfInBounds_toArray, List.set_cons_zero, List.set_cons_succ]
              refine hr_take_w 23 (some 6) (.bool true) rfl rfl (by kernel_rfl) (by kernel_rfl) (by kernel_rfl) rfl (fun W hW => by obtain ⟨h0, h1, h2, h3, h4, h5, h6, h7⟩ := hW; go_simp) H4 ?_
              simp only [Act.put, List.setIfInBounds_toArray, List.set_cons_zero, List.set_cons_succ]
              refine wpAnyH_done (by kernel_rfl) ?_ _
              refine NoPanic.normal ?_
              have BF := XB11.trans (E4.mono (by have := XB11.size; have := HN.out; omega))
              go_wp2
              go_ret
              exact ⟨rfl, by rw [← HN.out]; exact BF⟩
          · have ly2 : decide (y ≤ 0) = false := decide_eq_false ly
            clear btw
            go_wp2_with fail
            have HS : Hid (∀ V, Below w10.heap.size w10 V → V.cell? ⟨N, 0, none⟩ = some (.string a.row) ∧ V.cell? ⟨N, 1, none⟩ = some (.string a.fam) ∧ V.cell? ⟨N, 2, none⟩ = some (.string a.qual) ∧ V.cell? ⟨N, 3, none⟩ = some (.int .u64 a.time) ∧ V.cell? ⟨N + 1, 0, none⟩ = some (.string d.row) ∧ V.cell? ⟨N + 1, 1, none⟩ = some (.string d.fam) ∧ V.cell? ⟨N + 1, 2, none⟩ = some (.string d.qual) ∧ V.cell? ⟨N + 1, 3, none⟩ = some (.int .u64 d.time) ∧ V.cell? ⟨N + 2, 0, none⟩ = some (.string c.row) ∧ V.cell? ⟨N + 2, 1, none⟩ = some (.string c.fam) ∧ V.cell? ⟨N + 2, 2, none⟩ = some (.string c.qual) ∧ V.cell? ⟨N + 2, 3, none⟩ = some (.int .u64 c.time)) := fun V hV => ⟨(a10.keep hV).c0, (a10.keep hV).c1, (a10.keep hV).c2, (a10.keep hV).c3, (d10.keep hV).c0, (d10.keep hV).c1, (d10.keep hV).c2, (d10.keep hV).c3, (c10.keep hV).c0, (c10.keep hV).c1, (c10.keep hV).c2, (c10.keep hV).c3⟩
            have E0 : Below w10.heap.size w10 w10.drew := (Below.refl _ _).drew
            refine wp_region_noPanic ?_
            refine wp_region_held_drew (S := fun V => V.cell? ⟨N, 0, none⟩ = some (.string a.row) ∧ V.cell? ⟨N, 1, none⟩ = some (.string a.fam) ∧ V.cell? ⟨N, 2, none⟩ = some (.string a.qual) ∧ V.cell? ⟨N, 3, none⟩ = some (.int .u64 a.time) ∧ V.cell? ⟨N + 1, 0, none⟩ = some (.string d.row) ∧ V.cell? ⟨N + 1, 1, none⟩ = some (.string d.fam) ∧ V.cell? ⟨N + 1, 2, none⟩ = some (.string d.qual) ∧ V.cell? ⟨N + 1, 3, none⟩ = some (.int .u64 d.time) ∧ V.cell? ⟨N + 2, 0, none⟩ = some (.string c.row) ∧ V.cell? ⟨N + 2, 1, none⟩ = some (.string c.fam) ∧ V.cell? ⟨N + 2, 2, none⟩ = some (.string c.qual) ∧ V.cell? ⟨N + 2, 3, none⟩ = some (.int .u64 c.time)) (by kernel_rfl) (HS.out _ E0) (fun H0 => ?_)
            obtain ⟨v0, hv0⟩ : ∃ v, v = w10.drew := ⟨_, rfl⟩
            rw [← hv0] at H0 E0 ⊢
            clear hv0
            refine hr_take_w 0 (some 46) (.agg #[.string a.row, .string a.fam, .string a.qual, .int .u64 a.time]) rfl rfl (by kernel_rfl) (by kernel_rfl) (by kernel_rfl) rfl (fun W hW => by obtain ⟨h0, h1, h2, h3, h4, h5, h6, h7, h8, h9, h10, h11⟩ := hW; go_simp) H0 ?_
            simp only [Act.put, List.setIfInBounds_toArray, List.set_cons_zero, List.set_cons_succ]
            refine hr_take_w 1 (some 47) (.agg #[.string d.row, .string d.fam, .string d.qual, .int .u64 d.time]) rfl rfl (by kernel_rfl) (by kernel_rfl) (by kernel_rfl) rfl (fun W hW => by obtain ⟨h0, h1, h2, h3, h4, h5, h6, h7, h8, h9, h10, h11⟩ := hW; go_simp) H0 ?_
            simp only [Act.put, List.setIfInBounds_toArray, List.set_cons_zero, List.set_cons_succ]
            refine hr_call_w 2 (some 48) 18 #[.agg #[.string a.row, .string a.fam, .string a.qual, .int .u64 a.time], .agg #[.string d.row, .string d.fam, .string d.qual, .int .u64 d.time]] rfl rfl (by kernel_rfl) rfl (by go_simp) (fun v w' => v = .bool true ∧ Below v0.heap.size v0 w') ((pcolumn_any v0 a d).mono (by
              rintro e w' ⟨rfl, C⟩
              exact ⟨_, rfl, by rw [col1.out], C⟩)) ?_
            rintro v v1 ⟨rfl, C⟩
            have E1 := E0.trans (C.mono E0.size)
            have H1 := HS.out v1 E1
            clear C
            refine ⟨H1, ?_⟩
            simp only [Act.put, List.setIfInBounds_toArray, List.set_cons_zero, List.set_cons_succ]
            refine hr_take_w 3 (some 49) (.bool false) rfl rfl (by kernel_rfl) (by kernel_rfl) (by kernel_rfl) rfl (fun W hW => by obtain ⟨h0, h1, h2, h3, h4, h5, h6, h7, h8, h9, h10, h11⟩ := hW; go_simp) H1 ?_
            simp only [Act.put, List.setIfInBounds_toArray, List.set_cons_zero, List.set_cons_succ]
            refine hr_take_w 4 (some 50) (.bool false) rfl rfl (by kernel_rfl) (by kernel_rfl) (by kernel_rfl) rfl (fun W hW => by obtain ⟨h0, h1, h2, h3, h4, h5, h6, h7, h8, h9, h10, h11⟩ := hW; go_simp) H1 ?_
            simp only [Act.put, List.setIfInBounds_toArray, List.set_cons_zero, List.set_cons_succ]
            refine hr_take_w 5 (some 51) (.agg #[.string a.row, .string a.fam, .string a.qual, .int .u64 a.time]) rfl rfl (by kernel_rfl) (by kernel_rfl) (by kernel_rfl) rfl (fun W hW => by obtain ⟨h0, h1, h2, h3, h4, h5, h6, h7, h8, h9, h10, h11⟩ := hW; go_simp) H1 ?_
            simp only [Act.put, List.setIfInBounds_toArray, List.set_cons_zero, List.set_cons_succ]
            refine hr_take_w 6 (some 52) (.agg #[.string c.row, .string c.fam, .string c.qual, .int .u64 c.time]) rfl rfl (by kernel_rfl) (by kernel_rfl) (by kernel_rfl) rfl (fun W hW => by obtain ⟨h0, h1, h2, h3, h4, h5, h6, h7, h8, h9, h10, h11⟩ := hW; go_simp) H1 ?_
            simp only [Act.put, List.setIfInBounds_toArray, List.set_cons_zero, List.set_cons_succ]
            refine hr_take_w 8 (some 54) (.agg #[.string c.row, .string c.fam, .string c.qual, .int .u64 c.time]) rfl rfl (by kernel_rfl) (by kernel_rfl) (by kernel_rfl) rfl (fun W hW => by obtain ⟨h0, h1, h2, h3, h4, h5, h6, h7, h8, h9, h10, h11⟩ := hW; go_simp) H1 ?_
            simp only [Act.put, List.setIfInBounds_toArray, List.set_cons_zero, List.set_cons_succ]
            refine hr_take_w 9 (some 55) (.agg #[.string d.row, .string d.fam, .string d.qual, .int .u64 d.time]) rfl rfl (by kernel_rfl) (by kernel_rfl) (by kernel_rfl) rfl (fun W hW => by obtain ⟨h0, h1, h2, h3, h4, h5, h6, h7, h8, h9, h10, h11⟩ := hW; go_simp) H1 ?_
            simp only [Act.put, List.setIfInBounds_toArray, List.set_cons_zero, List.set_cons_succ]
            refine hr_call_w 7 (some 53) 18 #[.agg #[.string a.row, .string a.fam, .string a.qual, .int .u64 a.time], .agg #[.string c.row, .string c.fam, .string c.qual, .int .u64 c.time]] rfl rfl (by kernel_rfl) rfl (by go_simp) (fun v w' => v = .bool (c.col d) ∧ Below v1.heap.size v1 w') ((pcolumn_any v1 a c).mono (by
              rintro e w' ⟨rfl, C⟩
              exact ⟨_, rfl, by rw [col2.out], C⟩)) ?_
            rintro v v2 ⟨rfl, C⟩
            have E2 := E1.trans (C.mono E1.size)
            have H2 := HS.out v2 E2
            clear C
            refine ⟨H2, ?_⟩
            simp only [Act.put, List.setIfInBounds_toArray, List.set_cons_zero, List.set_cons_succ]
            refine hr_call_w 10 (some 56) 18 #[.agg #[.string c.row, .string c.fam, .string c.qual, .int .u64 c.time], .agg #[.string d.row, .string d.fam, .string d.qual, .int .u64 d.time]] rfl rfl (by kernel_rfl) rfl (by go_simp) (fun v w' => v = .bool (c.col d) ∧ Below v2.heap.size v2 w') ((pcolumn_any v2 c d).mono (by
              rintro e w' ⟨rfl, C⟩
              exact ⟨_, rfl, by rfl, C⟩)) ?_
            rintro v v3 ⟨rfl, C⟩
            have E3 := E2.trans (C.mono E2.size)
            have H3 := HS.out v3 E3
            clear C
            refine ⟨H3, ?_⟩
            simp only [Act.put, List.setIfInBounds_toArray, List.set_cons_zero, List.set_cons_succ]
            refine hr_take_w 11 (some 57) (.bool false) rfl rfl (by kernel_rfl) (by kernel_rfl) (by kernel_rfl) rfl (fun W hW => by obtain ⟨h0, h1, h2, h3, h4, h5, h6, h7, h8, h9, h10, h11⟩ := hW; cases c.col d <;> go_simp) H3 ?_
            simp only [Act.put, List.setIfInBounds_toArray, List.set_cons_zero, List.set_cons_succ]
            refine hr_take_w 12 (some 58) (.bool false) rfl rfl (by kernel_rfl) (by kernel_rfl) (by kernel_rfl) rfl (fun W hW => by obtain ⟨h0, h1, h2, h3, h4, h5, h6, h7, h8, h9, h10, h11⟩ := hW; go_simp) H3 ?_
            simp only [Act.put, List.setIfInBounds_toArray, List.set_cons_zero, List.set_cons_succ]
            refine wpAnyH_done (by kernel_rfl) ?_ _
            refine NoPanic.normal ?_
            have XB10 := B10.trans (E3.mono (by have := B10.size; have := HN.out; omega))
            have Xa10 := a10.keep E3
            have Xd10 := d10.keep E3
            have Xc10 := c10.keep E3
            clear HS E0 E1 E2 E3 H0 H1 H2 H3 a10 d10 c10 B10
            go_wp2_with fail
            obtain ⟨z, hz⟩ : ∃ z, z = v3 := ⟨_, rfl⟩
            rw [← hz] at Xa10 Xd10 Xc10 XB10 ⊢
            clear hz
            have ht := tim.out
            have n3 : cmpT a.time d.time = -1 ∨ cmpT a.time d.time = 0 ∨ cmpT a.time d.time = 1 := by
              unfold cmpT
              split
              · exact .inr (.inl rfl)
              · split
                · exact .inl rfl
                · exact .inr (.inr rfl)
            have negi : IntKind.i64.wrap (- -cmpK a.kv d.kv) = cmpK a.kv d.kv := by rw [IntKind.wrap_i64]; omega
            have negj : IntKind.i64.wrap (cmpK a.kv d.kv) = cmpK a.kv d.kv := by rw [IntKind.wrap_i64]; omega
            by_cases lt : d.time < a.time
            · have il : (d.time : Int) < (a.time : Int) := by omega
              have iz : cmpK a.kv d.kv < 0 := by rw [ht]; unfold cmpT; rw [if_neg (by omega), if_pos lt]; decide
              clear ht n3
              have HS : Hid (∀ V, Below z.heap.size z V → V.cell? ⟨N, 0, none⟩ = some (.string a.row) ∧ V.cell? ⟨N, 1, none⟩ = some (.string a.fam) ∧ V.cell? ⟨N, 2, none⟩ = some (.string a.qual) ∧ V.cell? ⟨N, 3, none⟩ = some (.int .u64 a.time) ∧ V.cell? ⟨N + 1, 0, none⟩ = some (.string d.row) ∧ V.cell? ⟨N + 1, 1, none⟩ = some (.string d.fam) ∧ V.cell? ⟨N + 1, 2, none⟩ = some (.string d.qual) ∧ V.cell? ⟨N + 1, 3, none⟩ = some (.int .u64 d.time)) := fun V hV => ⟨(Xa10.keep hV).c0, (Xa10.keep hV).c1, (Xa10.keep hV).c2, (Xa10.keep hV).c3, (Xd10.keep hV).c0, (Xd10.keep hV).c1, (Xd10.keep hV).c2, (Xd10.keep hV).c3⟩
              have E0 : Below z.heap.size z z.drew := (Below.refl _ _).drew
              refine wp_region_noPanic ?_
              refine wp_region_held_drew (S := fun V => V.cell? ⟨N, 0, none⟩ = some (.string a.row) ∧ V.cell? ⟨N, 1, none⟩ = some (.string a.fam) ∧ V.cell? ⟨N, 2, none⟩ = some (.string a.qual) ∧ V.cell? ⟨N, 3, none⟩ = some (.int .u64 a.time) ∧ V.cell? ⟨N + 1, 0, none⟩ = some (.string d.row) ∧ V.cell? ⟨N + 1, 1, none⟩ = some (.string d.fam) ∧ V.cell? ⟨N + 1, 2, none⟩ = some (.string d.qual) ∧ V.cell? ⟨N + 1, 3, none⟩ = some (.int .u64 d.time)) (by kernel_rfl) (HS.out _ E0) (fun H0 => ?_)
              obtain ⟨v0, hv0⟩ : ∃ v, v = z.drew := ⟨_, rfl⟩
              rw [← hv0] at H0 E0 ⊢
              clear hv0
              refine hr_take_w 0 (some 59) (.agg #[.string a.row, .string a.fam, .string a.qual, .int .u64 a.time]) rfl rfl (by kernel_rfl) (by kernel_rfl) (by kernel_rfl) rfl (fun W hW => by obtain ⟨h0, h1, h2, h3, h4, h5, h6, h7⟩ := hW; go_simp) H0 ?_
              simp only [Act.put, List.setIfInBounds_toArray, List.set_cons_zero, List.set_cons_succ]
              refine hr_take_w 1 (some 60) (.agg #[.string d.row, .string d.fam, .string d.qual, .int .u64 d.time]) rfl rfl (by kernel_rfl) (by kernel_rfl) (by kernel_rfl) rfl (fun W hW => by obtain ⟨h0, h1, h2, h3, h4, h5, h6, h7⟩ := hW; go_simp) H0 ?_
              simp only [Act.put, List.setIfInBounds_toArray, List.set_cons_zero, List.set_cons_succ]
              refine hr_take_w 4 (some 63) (.pointer (some ⟨N, 3, none⟩)) rfl rfl (by kernel_rfl) (by kernel_rfl) (by kernel_rfl) rfl (fun W hW => by obtain ⟨h0, h1, h2, h3, h4, h5, h6, h7⟩ := hW; go_simp) H0 ?_
              simp only [Act.put, List.setIfInBounds_toArray, List.set_cons_zero, List.set_cons_succ]
              refine hr_take_w 5 (some 64) (.int .u64 a.time) rfl rfl (by kernel_rfl) (by kernel_rfl) (by kernel_rfl) rfl (fun W hW => by obtain ⟨h0, h1, h2, h3, h4, h5, h6, h7⟩ := hW; go_simp) H0 ?_
              simp only [Act.put, List.setIfInBounds_toArray, List.set_cons_zero, List.set_cons_succ]
              refine hr_take_w 6 (some 65) (.pointer (some ⟨N + 1, 3, none⟩)) rfl rfl (by kernel_rfl) (by kernel_rfl) (by kernel_rfl) rfl (fun W hW => by obtain ⟨h0, h1, h2, h3, h4, h5, h6, h7⟩ := hW; go_simp) H0 ?_
              simp only [Act.put, List.setIfInBounds_toArray, List.set_cons_zero, List.set_cons_succ]
              refine hr_take_w 7 (some 66) (.int .u64 d.time) rfl rfl (by kernel_rfl) (by kernel_rfl) (by kernel_rfl) rfl (fun W hW => by obtain ⟨h0, h1, h2, h3, h4, h5, h6, h7⟩ := hW; go_simp) H0 ?_
              simp only [Act.put, List.setIfInBounds_toArray, List.set_cons_zero, List.set_cons_succ]
              refine hr_take_w 8 (some 67) (.bool true) rfl rfl (by kernel_rfl) (by kernel_rfl) (by kernel_rfl) rfl (fun W hW => by obtain ⟨h0, h1, h2, h3, h4, h5, h6, h7⟩ := hW; go_simp) H0 ?_
              simp only [Act.put, List.setIfInBounds_toArray, List.set_cons_zero, List.set_cons_succ]
              refine hr_call_w 2 (some 61) 16 #[.agg #[.string a.row, .string a.fam, .string a.qual, .int .u64 a.time], .agg #[.string d.row, .string d.fam, .string d.qual, .int .u64 d.time]] rfl rfl (by kernel_rfl) rfl (by go_simp) (fun v w' => v = .int .i64 (cmpK a.kv d.kv) ∧ Below v0.heap.size v0 w') ((pcmp_any v0 a d).mono (by
                rintro e w' ⟨rfl, C⟩
                exact ⟨_, rfl, by rfl, C⟩)) ?_
              rintro v v1 ⟨rfl, C⟩
              have E1 := E0.trans (C.mono E0.size)
              have H1 := HS.out v1 E1
              clear C
              refine ⟨H1, ?_⟩
              simp only [Act.put, List.setIfInBounds_toArray, List.set_cons_zero, List.set_cons_succ]
              refine hr_take_w 3 (some 62) (.bool true) rfl rfl (by kernel_rfl) (by kernel_rfl) (by kernel_rfl) rfl (fun W hW => by obtain ⟨h0, h1, h2, h3, h4, h5, h6, h7⟩ := hW; go_simp) H1 ?_
              simp only [Act.put, List.setIfInBounds_toArray, List.set_cons_zero, List.set_cons_succ]
              refine hr_take_w 9 (some 68) (.bool true) rfl rfl (by kernel_rfl) (by kernel_rfl) (by kernel_rfl) rfl (fun W hW => by obtain ⟨h0, h1, h2, h3, h4, h5, h6, h7⟩ := hW; go_simp) H1 ?_
              simp only [Act.put, List.setIfInBounds_toArray, List.set_cons_zero, List.set_cons_succ]
              refine hr_take_w 10 (some 69) (.bool true) rfl rfl (by kernel_rfl) (by kernel_rfl) (by kernel_rfl) rfl (fun W hW => by obtain ⟨h0, h1, h2, h3, h4, h5, h6, h7⟩ := hW; go_simp) H1 ?_
              simp only [Act.put, List.setIfInBounds_toArray, List.set_cons_zero, List.set_cons_succ]
              refine hr_take_w 11 (some 70) (.agg #[.string a.row, .string a.fam, .string a.qual, .int .u64 a.time]) rfl rfl (by kernel_rfl) (by kernel_rfl) (by kernel_rfl) rfl (fun W hW => by obtain ⟨h0, h1, h2, h3, h4, h5, h6, h7⟩ := hW; go_simp) H1 ?_
              simp only [Act.put, List.setIfInBounds_toArray, List.set_cons_zero, List.set_cons_succ]
              refine hr_take_w 12 (some 71) (.agg #[.string d.row, .string d.fam, .string d.qual, .int .u64 d.time]) rfl rfl (by kernel_rfl) (by kernel_rfl) (by kernel_rfl) rfl (fun W hW => by obtain ⟨h0, h1, h2, h3, h4, h5, h6, h7⟩ := hW; go_simp) H1 ?_
              simp only [Act.put, List.setIfInBounds_toArray, List.set_cons_zero, List.set_cons_succ]
              refine hr_take_w 14 (some 73) (.agg #[.string d.row, .string d.fam, .string d.qual, .int .u64 d.time]) rfl rfl (by kernel_rfl) (by kernel_rfl) (by kernel_rfl) rfl (fun W hW => by obtain ⟨h0, h1, h2, h3, h4, h5, h6, h7⟩ := hW; go_simp) H1 ?_
              simp only [Act.put, List.setIfInBounds_toArray, List.set_cons_zero, List.set_cons_succ]
              refine hr_take_w 15 (some 74) (.agg #[.string a.row, .string a.fam, .string a.qual, .int .u64 a.time]) rfl rfl (by kernel_rfl) (by kernel_rfl) (by kernel_rfl) rfl (fun W hW => by obtain ⟨h0, h1, h2, h3, h4, h5, h6, h7⟩ := hW; go_simp) H1 ?_
              simp only [Act.put, List.setIfInBounds_toArray, List.set_cons_zero, List.set_cons_succ]
              refine hr_call_w 13 (some 72) 16 #[.agg #[.string a.row, .string a.fam, .string a.qual, .int .u64 a.time], .agg #[.string d.row, .string d.fam, .string d.qual, .int .u64 d.time]] rfl rfl (by kernel_rfl) rfl (by go_simp) (fun v w' => v = .int .i64 (cmpK a.kv d.kv) ∧ Below v1.heap.size v1 w') ((pcmp_any v1 a d).mono (by
                rintro e w' ⟨rfl, C⟩
                exact ⟨_, rfl, by rfl, C⟩)) ?_
              rintro v v2 ⟨rfl, C⟩
              have E2 := E1.trans (C.mono E1.size)
              have H2 := HS.out v2 E2
              clear C
              refine ⟨H2, ?_⟩
              simp only [Act.put, List.setIfInBounds_toArray, List.set_cons_zero, List.set_cons_succ]
              refine hr_call_w 16 (some 75) 16 #[.agg #[.string d.row, .string d.fam, .string d.qual, .int .u64 d.time], .agg #[.string a.row, .string a.fam, .string a.qual, .int .u64 a.time]] rfl rfl (by kernel_rfl) rfl (by go_simp) (fun v w' => v = .int .i64 (-cmpK a.kv d.kv) ∧ Below v2.heap.size v2 w') ((pcmp_any v2 d a).mono (by
                rintro e w' ⟨rfl, C⟩
                exact ⟨_, rfl, by rw [neg.out], C⟩)) ?_
              rintro v v3 ⟨rfl, C⟩
              have E3 := E2.trans (C.mono E2.size)
              have H3 := HS.out v3 E3
              clear C
              refine ⟨H3, ?_⟩
              simp only [Act.put, List.setIfInBounds_toArray, List.set_cons_zero, List.set_cons_succ]
              refine hr_take_w 17 (some 76) (.int .i64 (cmpK a.kv d.kv)) rfl rfl (by kernel_rfl) (by kernel_rfl) (by kernel_rfl) rfl (fun W hW => by obtain ⟨h0, h1, h2, h3, h4, h5, h6, h7⟩ := hW; go_simp) H3 ?_
              simp only [Act.put, List.setIfInBounds_toArray, List.set_cons_zero, List.set_cons_succ]
              refine hr_take_w 18 (some 77) (.bool true) rfl rfl (by kernel_rfl) (by kernel_rfl) (by kernel_rfl) rfl (fun W hW => by obtain ⟨h0, h1, h2, h3, h4, h5, h6, h7⟩ := hW; go_simp) H3 ?_
              simp only [Act.put, List.setIfInBounds_toArray, List.set_cons_zero, List.set_cons_succ]
              refine hr_take_w 19 (some 78) (.bool true) rfl rfl (by kernel_rfl) (by kernel_rfl) (by kernel_rfl) rfl (fun W hW => by obtain ⟨h0, h1, h2, h3, h4, h5, h6, h7⟩ := hW; go_simp) H3 ?_
              simp only [Act.put, List.setIfInBounds_toArray, List.set_cons_zero, List.set_cons_succ]
              refine hr_take_w 20 (some 79) (.bool true) rfl rfl (by kernel_rfl) (by kernel_rfl) (by kernel_rfl) rfl (fun W hW => by obtain ⟨h0, h1, h2, h3, h4, h5, h6, h7⟩ := hW; go_simp) H3 ?_
              simp only [Act.put, List.setIfInBounds_toArray, List.set_cons_zero, List.set_cons_succ]
              refine hr_call_w 21 (some 80) 10 #[] rfl rfl (by kernel_rfl) rfl (by go_simp) (fun v w' => v = .bool true ∧ Below v3.heap.size v3 w') ((alive_any v3).mono (by
                rintro e w' ⟨rfl, C⟩
                exact ⟨_, rfl, by rfl, C⟩)) ?_
              rintro v v4 ⟨rfl, C⟩
              have E4 := E3.trans (C.mono E3.size)
              have H4 := HS.out v4 E4
              clear C
              refine ⟨H4, ?_⟩
              simp only [Act.put, List.setIfInBounds_toArray, List.set_cons_zero, List.set_cons_succ]
              refine hr_take_w 22 (some 81) (.bool true) rfl rfl (by kernel_rfl) (by kernel_rfl) (by kernel_rfl) rfl (fun W hW => by obtain ⟨h0, h1, h2, h3, h4, h5, h6, h7⟩ := hW; go_simp) H4 ?_
              simp only [Act.put, List.setIfInBounds_toArray, List.set_cons_zero, List.set_cons_succ]
              refine hr_take_w 23 (some 6) (.bool true) rfl rfl (by kernel_rfl) (by kernel_rfl) (by kernel_rfl) rfl (fun W hW => by obtain ⟨h0, h1, h2, h3, h4, h5, h6, h7⟩ := hW; go_simp) H4 ?_
              simp only [Act.put, List.setIfInBounds_toArray, List.set_cons_zero, List.set_cons_succ]
              refine wpAnyH_done (by kernel_rfl) ?_ _
              refine NoPanic.normal ?_
              have BF := XB10.trans (E4.mono (by have := XB10.size; have := HN.out; omega))
              go_wp2
              go_ret
              exact ⟨rfl, by rw [← HN.out]; exact BF⟩
            · have il : (a.time : Int) ≤ (d.time : Int) := by omega
              have iz : 0 ≤ cmpK a.kv d.kv := by
                rw [ht]
                unfold cmpT
                by_cases e : a.time = d.time
                · rw [if_pos e]; decide
                · rw [if_neg e, if_neg lt]; decide
              clear ht n3
              have HS : Hid (∀ V, Below z.heap.size z V → V.cell? ⟨N, 0, none⟩ = some (.string a.row) ∧ V.cell? ⟨N, 1, none⟩ = some (.string a.fam) ∧ V.cell? ⟨N, 2, none⟩ = some (.string a.qual) ∧ V.cell? ⟨N, 3, none⟩ = some (.int .u64 a.time) ∧ V.cell? ⟨N + 1, 0, none⟩ = some (.string d.row) ∧ V.cell? ⟨N + 1, 1, none⟩ = some (.string d.fam) ∧ V.cell? ⟨N + 1, 2, none⟩ = some (.string d.qual) ∧ V.cell? ⟨N + 1, 3, none⟩ = some (.int .u64 d.time)) := fun V hV => ⟨(Xa10.keep hV).c0, (Xa10.keep hV).c1, (Xa10.keep hV).c2, (Xa10.keep hV).c3, (Xd10.keep hV).c0, (Xd10.keep hV).c1, (Xd10.keep hV).c2, (Xd10.keep hV).c3⟩
              have E0 : Below z.heap.size z z.drew := (Below.refl _ _).drew
              refine wp_region_noPanic ?_
              refine wp_region_held_drew (S := fun V => V.cell? ⟨N, 0, none⟩ = some (.string a.row) ∧ V.cell? ⟨N, 1, none⟩ = some (.string a.fam) ∧ V.cell? ⟨N, 2, none⟩ = some (.string a.qual) ∧ V.cell? ⟨N, 3, none⟩ = some (.int .u64 a.time) ∧ V.cell? ⟨N + 1, 0, none⟩ = some (.string d.row) ∧ V.cell? ⟨N + 1, 1, none⟩ = some (.string d.fam) ∧ V.cell? ⟨N + 1, 2, none⟩ = some (.string d.qual) ∧ V.cell? ⟨N + 1, 3, none⟩ = some (.int .u64 d.time)) (by kernel_rfl) (HS.out _ E0) (fun H0 => ?_)
              obtain ⟨v0, hv0⟩ : ∃ v, v = z.drew := ⟨_, rfl⟩
              rw [← hv0] at H0 E0 ⊢
              clear hv0
              refine hr_take_w 0 (some 59) (.agg #[.string a.row, .string a.fam, .string a.qual, .int .u64 a.time]) rfl rfl (by kernel_rfl) (by kernel_rfl) (by kernel_rfl) rfl (fun W hW => by obtain ⟨h0, h1, h2, h3, h4, h5, h6, h7⟩ := hW; go_simp) H0 ?_
              simp only [Act.put, List.setIfInBounds_toArray, List.set_cons_zero, List.set_cons_succ]
              refine hr_take_w 1 (some 60) (.agg #[.string d.row, .string d.fam, .string d.qual, .int .u64 d.time]) rfl rfl (by kernel_rfl) (by kernel_rfl) (by kernel_rfl) rfl (fun W hW => by obtain ⟨h0, h1, h2, h3, h4, h5, h6, h7⟩ := hW; go_simp) H0 ?_
              simp only [Act.put, List.setIfInBounds_toArray, List.set_cons_zero, List.set_cons_succ]
              refine hr_take_w 4 (some 63) (.pointer (some ⟨N, 3, none⟩)) rfl rfl (by kernel_rfl) (by kernel_rfl) (by kernel_rfl) rfl (fun W hW => by obtain ⟨h0, h1, h2, h3, h4, h5, h6, h7⟩ := hW; go_simp) H0 ?_
              simp only [Act.put, List.setIfInBounds_toArray, List.set_cons_zero, List.set_cons_succ]
              refine hr_take_w 5 (some 64) (.int .u64 a.time) rfl rfl (by kernel_rfl) (by kernel_rfl) (by kernel_rfl) rfl (fun W hW => by obtain ⟨h0, h1, h2, h3, h4, h5, h6, h7⟩ := hW; go_simp) H0 ?_
              simp only [Act.put, List.setIfInBounds_toArray, List.set_cons_zero, List.set_cons_succ]
              refine hr_take_w 6 (some 65) (.pointer (some ⟨N + 1, 3, none⟩)) rfl rfl (by kernel_rfl) (by kernel_rfl) (by kernel_rfl) rfl (fun W hW => by obtain ⟨h0, h1, h2, h3, h4, h5, h6, h7⟩ := hW; go_simp) H0 ?_
              simp only [Act.put, List.setIfInBounds_toArray, List.set_cons_zero, List.set_cons_succ]
              refine hr_take_w 7 (some 66) (.int .u64 d.time) rfl rfl (by kernel_rfl) (by kernel_rfl) (by kernel_rfl) rfl (fun W hW => by obtain ⟨h0, h1, h2, h3, h4, h5, h6, h7⟩ := hW; go_simp) H0 ?_
              simp only [Act.put, List.setIfInBounds_toArray, List.set_cons_zero, List.set_cons_succ]
              refine hr_take_w 8 (some 67) (.bool false) rfl rfl (by kernel_rfl) (by kernel_rfl) (by kernel_rfl) rfl (fun W hW => by obtain ⟨h0, h1, h2, h3, h4, h5, h6, h7⟩ := hW; go_simp) H0 ?_
              simp only [Act.put, List.setIfInBounds_toArray, List.set_cons_zero, List.set_cons_succ]
              refine hr_call_w 2 (some 61) 16 #[.agg #[.string a.row, .string a.fam, .string a.qual, .int .u64 a.time], .agg #[.string d.row, .string d.fam, .string d.qual, .int .u64 d.time]] rfl rfl (by kernel_rfl) rfl (by go_simp) (fun v w' => v = .int .i64 (cmpK a.kv d.kv) ∧ Below v0.heap.size v0 w') ((pcmp_any v0 a d).mono (by
                rintro e w' ⟨rfl, C⟩
                exact ⟨_, rfl, by rfl, C⟩)) ?_
              rintro v v1 ⟨rfl, C⟩
              have E1 := E0.trans (C.mono E0.size)
              have H1 := HS.out v1 E1
              clear C
              refine ⟨H1, ?_⟩
              simp only [Act.put, List.setIfInBounds_toArray, List.set_cons_zero, List.set_cons_succ]
              refine hr_take_w 3 (some 62) (.bool false) rfl rfl (by kernel_rfl) (by kernel_rfl) (by kernel_rfl) rfl (fun W hW => by obtain ⟨h0, h1, h2, h3, h4, h5, h6, h7⟩ := hW; go_simp) H1 ?_
              simp only [Act.put, List.setIfInBounds_toArray, List.set_cons_zero, List.set_cons_succ]
              refine hr_take_w 9 (some 68) (.bool true) rfl rfl (by kernel_rfl) (by kernel_rfl) (by kernel_rfl) rfl (fun W hW => by obtain ⟨h0, h1, h2, h3, h4, h5, h6, h7⟩ := hW; go_simp) H1 ?_
              simp only [Act.put, List.setIfInBounds_toArray, List.set_cons_zero, List.set_cons_succ]
              refine hr_take_w 10 (some 69) (.bool true) rfl rfl (by kernel_rfl) (by kernel_rfl) (by kernel_rfl) rfl (fun W hW => by obtain ⟨h0, h1, h2, h3, h4, h5, h6, h7⟩ := hW; go_simp) H1 ?_
              simp only [Act.put, List.setIfInBounds_toArray, List.set_cons_zero, List.set_cons_succ]
              refine hr_take_w 11 (some 70) (.agg #[.string a.row, .string a.fam, .string a.qual, .int .u64 a.time]) rfl rfl (by kernel_rfl) (by kernel_rfl) (by kernel_rfl) rfl (fun W hW => by obtain ⟨h0, h1, h2, h3, h4, h5, h6, h7⟩ := hW; go_simp) H1 ?_
              simp only [Act.put, List.setIfInBounds_toArray, List.set_cons_zero, List.set_cons_succ]
              refine hr_take_w 12 (some 71) (.agg #[.string d.row, .string d.fam, .string d.qual, .int .u64 d.time]) rfl rfl (by kernel_rfl) (by kernel_rfl) (by kernel_rfl) rfl (fun W hW => by obtain ⟨h0, h1, h2, h3, h4, h5, h6, h7⟩ := hW; go_simp) H1 ?_
              simp only [Act.put, List.setIfInBounds_toArray, List.set_cons_zero, List.set_cons_succ]
              refine hr_take_w 14 (some 73) (.agg #[.string d.row, .string d.fam, .string d.qual, .int .u64 d.time]) rfl rfl (by kernel_rfl) (by kernel_rfl) (by kernel_rfl) rfl (fun W hW => by obtain ⟨h0, h1, h2, h3, h4, h5, h6, h7⟩ := hW; go_simp) H1 ?_
              simp only [Act.put, List.setIfInBounds_toArray, List.set_cons_zero, List.set_cons_succ]
              refine hr_take_w 15 (some 74) (.agg #[.string a.row, .string a.fam, .string a.qual, .int .u64 a.time]) rfl rfl (by kernel_rfl) (by kernel_rfl) (by kernel_rfl) rfl (fun W hW => by obtain ⟨h0, h1, h2, h3, h4, h5, h6, h7⟩ := hW; go_simp) H1 ?_
              simp only [Act.put, List.setIfInBounds_toArray, List.set_cons_zero, List.set_cons_succ]
              refine hr_call_w 13 (some 72) 16 #[.agg #[.string a.row, .string a.fam, .string a.qual, .int .u64 a.time], .agg #[.string d.row, .string d.fam, .string d.qual, .int .u64 d.time]] rfl rfl (by kernel_rfl) rfl (by go_simp) (fun v w' => v = .int .i64 (cmpK a.kv d.kv) ∧ Below v1.heap.size v1 w') ((pcmp_any v1 a d).mono (by
                rintro e w' ⟨rfl, C⟩
                exact ⟨_, rfl, by rfl, C⟩)) ?_
              rintro v v2 ⟨rfl, C⟩
              have E2 := E1.trans (C.mono E1.size)
              have H2 := HS.out v2 E2
              clear C
              refine ⟨H2, ?_⟩
              simp only [Act.put, List.setIfInBounds_toArray, List.set_cons_zero, List.set_cons_succ]
              refine hr_call_w 16 (some 75) 16 #[.agg #[.string d.row, .string d.fam, .string d.qual, .int .u64 d.time], .agg #[.string a.row, .string a.fam, .string a.qual, .int .u64 a.time]] rfl rfl (by kernel_rfl) rfl (by go_simp) (fun v w' => v = .int .i64 (-cmpK a.kv d.kv) ∧ Below v2.heap.size v2 w') ((pcmp_any v2 d a).mono (by
                rintro e w' ⟨rfl, C⟩
                exact ⟨_, rfl, by rw [neg.out], C⟩)) ?_
              rintro v v3 ⟨rfl, C⟩
              have E3 := E2.trans (C.mono E2.size)
              have H3 := HS.out v3 E3
              clear C
              refine ⟨H3, ?_⟩
              simp only [Act.put, List.setIfInBounds_toArray, List.set_cons_zero, List.set_cons_succ]
              refine hr_take_w 17 (some 76) (.int .i64 (cmpK a.kv d.kv)) rfl rfl (by kernel_rfl) (by kernel_rfl) (by kernel_rfl) rfl (fun W hW => by obtain ⟨h0, h1, h2, h3, h4, h5, h6, h7⟩ := hW; go_simp) H3 ?_
              simp only [Act.put, List.setIfInBounds_toArray, List.set_cons_zero, List.set_cons_succ]
              refine hr_take_w 18 (some 77) (.bool true) rfl rfl (by kernel_rfl) (by kernel_rfl) (by kernel_rfl) rfl (fun W hW => by obtain ⟨h0, h1, h2, h3, h4, h5, h6, h7⟩ := hW; go_simp) H3 ?_
              simp only [Act.put, List.setIfInBounds_toArray, List.set_cons_zero, List.set_cons_succ]
              refine hr_take_w 19 (some 78) (.bool true) rfl rfl (by kernel_rfl) (by kernel_rfl) (by kernel_rfl) rfl (fun W hW => by obtain ⟨h0, h1, h2, h3, h4, h5, h6, h7⟩ := hW; go_simp) H3 ?_
              simp only [Act.put, List.setIfInBounds_toArray, List.set_cons_zero, List.set_cons_succ]
              refine hr_take_w 20 (some 79) (.bool true) rfl rfl (by kernel_rfl) (by kernel_rfl) (by kernel_rfl) rfl (fun W hW => by obtain ⟨h0, h1, h2, h3, h4, h5, h6, h7⟩ := hW; go_simp) H3 ?_
              simp only [Act.put, List.setIfInBounds_toArray, List.set_cons_zero, List.set_cons_succ]
              refine hr_call_w 21 (some 80) 10 #[] rfl rfl (by kernel_rfl) rfl (by go_simp) (fun v w' => v = .bool true ∧ Below v3.heap.size v3 w') ((alive_any v3).mono (by
                rintro e w' ⟨rfl, C⟩
                exact ⟨_, rfl, by rfl, C⟩)) ?_
              rintro v v4 ⟨rfl, C⟩
              have E4 := E3.trans (C.mono E3.size)
              have H4 := HS.out v4 E4
              clear C
              refine ⟨H4, ?_⟩
              simp only [Act.put, List.setIfInBounds_toArray, List.set_cons_zero, List.set_cons_succ]
              refine hr_take_w 22 (some 81) (.bool true) rfl rfl (by kernel_rfl) (by kernel_rfl) (by kernel_rfl) rfl (fun W hW => by obtain ⟨h0, h1, h2, h3, h4, h5, h6, h7⟩ := hW; go_simp) H4 ?_
              simp only [Act.put, List.setIfInBounds_toArray, List.set_cons_zero, List.set_cons_succ]
              refine hr_take_w 23 (some 6) (.bool true) rfl rfl (by kernel_rfl) (by kernel_rfl) (by kernel_rfl) rfl (fun W hW => by obtain ⟨h0, h1, h2, h3, h4, h5, h6, h7⟩ := hW; go_simp) H4 ?_
              simp only [Act.put, List.setIfInBounds_toArray, List.set_cons_zero, List.set_cons_succ]
              refine wpAnyH_done (by kernel_rfl) ?_ _
              refine NoPanic.normal ?_
              have BF := XB10.trans (E4.mono (by have := XB10.size; have := HN.out; omega))
              go_wp2
              go_ret
              exact ⟨rfl, by rw [← HN.out]; exact BF⟩
        · have lx2 : decide (x ≤ 0) = false := decide_eq_false lx
          clear btw
          go_wp2_with fail
          have HS : Hid (∀ V, Below w9.heap.size w9 V → V.cell? ⟨N, 0, none⟩ = some (.string a.row) ∧ V.cell? ⟨N, 1, none⟩ = some (.string a.fam) ∧ V.cell? ⟨N, 2, none⟩ = some (.string a.qual) ∧ V.cell? ⟨N, 3, none⟩ = some (.int .u64 a.time) ∧ V.cell? ⟨N + 1, 0, none⟩ = some (.string d.row) ∧ V.cell? ⟨N + 1, 1, none⟩ = some (.string d.fam) ∧ V.cell? ⟨N + 1, 2, none⟩ = some (.string d.qual) ∧ V.cell? ⟨N + 1, 3, none⟩ = some (.int .u64 d.time) ∧ V.cell? ⟨N + 2, 0, none⟩ = some (.string c.row) ∧ V.cell? ⟨N + 2, 1, none⟩ = some (.string c.fam) ∧ V.cell? ⟨N + 2, 2, none⟩ = some (.string c.qual) ∧ V.cell? ⟨N + 2, 3, none⟩ = some (.int .u64 c.time)) := fun V hV => ⟨(a9.keep hV).c0, (a9.keep hV).c1, (a9.keep hV).c2, (a9.keep hV).c3, (d9.keep hV).c0, (d9.keep hV).c1, (d9.keep hV).c2, (d9.keep hV).c3, (c9.keep hV).c0, (c9.keep hV).c1, (c9.keep hV).c2, (c9.keep hV).c3⟩
          have E0 : Below w9.heap.size w9 w9.drew := (Below.refl _ _).drew
          refine wp_region_noPanic ?_
          refine wp_region_held_drew (S := fun V => V.cell? ⟨N, 0, none⟩ = some (.string a.row) ∧ V.cell? ⟨N, 1, none⟩ = some (.string a.fam) ∧ V.cell? ⟨N, 2, none⟩ = some (.string a.qual) ∧ V.cell? ⟨N, 3, none⟩ = some (.int .u64 a.time) ∧ V.cell? ⟨N + 1, 0, none⟩ = some (.string d.row) ∧ V.cell? ⟨N + 1, 1, none⟩ = some (.string d.fam) ∧ V.cell? ⟨N + 1, 2, none⟩ = some (.string d.qual) ∧ V.cell? ⟨N + 1, 3, none⟩ = some (.int .u64 d.time) ∧ V.cell? ⟨N + 2, 0, none⟩ = some (.string c.row) ∧ V.cell? ⟨N + 2, 1, none⟩ = some (.string c.fam) ∧ V.cell? ⟨N + 2, 2, none⟩ = some (.string c.qual) ∧ V.cell? ⟨N + 2, 3, none⟩ = some (.int .u64 c.time)) (by kernel_rfl) (HS.out _ E0) (fun H0 => ?_)
          obtain ⟨v0, hv0⟩ : ∃ v, v = w9.drew := ⟨_, rfl⟩
          rw [← hv0] at H0 E0 ⊢
          clear hv0
          refine hr_take_w 0 (some 46) (.agg #[.string a.row, .string a.fam, .string a.qual, .int .u64 a.time]) rfl rfl (by kernel_rfl) (by kernel_rfl) (by kernel_rfl) rfl (fun W hW => by obtain ⟨h0, h1, h2, h3, h4, h5, h6, h7, h8, h9, h10, h11⟩ := hW; go_simp) H0 ?_
          simp only [Act.put, List.setIfInBounds_toArray, List.set_cons_zero, List.set_cons_succ]
          refine hr_take_w 1 (some 47) (.agg #[.string d.row, .string d.fam, .string d.qual, .int .u64 d.time]) rfl rfl (by kernel_rfl) (by kernel_rfl) (by kernel_rfl) rfl (fun W hW => by obtain ⟨h0, h1, h2, h3, h4, h5, h6, h7, h8, h9, h10, h11⟩ := hW; go_simp) H0 ?_
          simp only [Act.put, List.setIfInBounds_toArray, List.set_cons_zero, List.set_cons_succ]
          refine hr_call_w 2 (some 48) 18 #[.agg #[.string a.row, .string a.fam, .string a.qual, .int .u64 a.time], .agg #[.string d.row, .string d.fam, .string d.qual, .int .u64 d.time]] rfl rfl (by kernel_rfl) rfl (by go_simp) (fun v w' => v = .bool true ∧ Below v0.heap.size v0 w') ((pcolumn_any v0 a d).mono (by
            rintro e w' ⟨rfl, C⟩
            exact ⟨_, rfl, by rw [col1.out], C⟩)) ?_
          rintro v v1 ⟨rfl, C⟩
          have E1 := E0.trans (C.mono E0.size)
          have H1 := HS.out v1 E1
          clear C
          refine ⟨H1, ?_⟩
          simp only [Act.put, List.setIfInBounds_toArray, List.set_cons_zero, List.set_cons_succ]
          refine hr_take_w 3 (some 49) (.bool false) rfl rfl (by kernel_rfl) (by kernel_rfl) (by kernel_rfl) rfl (fun W hW => by obtain ⟨h0, h1, h2, h3, h4, h5, h6, h7, h8, h9, h10, h11⟩ := hW; go_simp) H1 ?_
          simp only [Act.put, List.setIfInBounds_toArray, List.set_cons_zero, List.set_cons_succ]
          refine hr_take_w 4 (some 50) (.bool false) rfl rfl (by kernel_rfl) (by kernel_rfl) (by kernel_rfl) rfl (fun W hW => by obtain ⟨h0, h1, h2, h3, h4, h5, h6, h7, h8, h9, h10, h11⟩ := hW; go_simp) H1 ?_
          simp only [Act.put, List.setIfInBounds_toArray, List.set_cons_zero, List.set_cons_succ]
          refine hr_take_w 5 (some 51) (.agg #[.string a.row, .string a.fam, .string a.qual, .int .u64 a.time]) rfl rfl (by kernel_rfl) (by kernel_rfl) (by kernel_rfl) rfl (fun W hW => by obtain ⟨h0, h1, h2, h3, h4, h5, h6, h7, h8, h9, h10, h11⟩ := hW; go_simp) H1 ?_
          simp only [Act.put, List.setIfInBounds_toArray, List.set_cons_zero, List.set_cons_succ]
          refine hr_take_w 6 (some 52) (.agg #[.string c.row, .string c.fam, .string c.qual, .int .u64 c.time]) rfl rfl (by kernel_rfl) (by kernel_rfl) (by kernel_rfl) rfl (fun W hW => by obtain ⟨h0, h1, h2, h3, h4, h5, h6, h7, h8, h9, h10, h11⟩ := hW; go_simp) H1 ?_
          simp only [Act.put, List.setIfInBounds_toArray, List.set_cons_zero, List.set_cons_succ]
          refine hr_take_w 8 (some 54) (.agg #[.string c.row, .string c.fam, .string c.qual, .int .u64 c.time]) rfl rfl (by kernel_rfl) (by kernel_rfl) (by kernel_rfl) rfl (fun W hW => by obtain ⟨h0, h1, h2, h3, h4, h5, h6, h7, h8, h9, h10, h11⟩ := hW; go_simp) H1 ?_
          simp only [Act.put, List.setIfInBounds_toArray, List.set_cons_zero, List.set_cons_succ]
          refine hr_take_w 9 (some 55) (.agg #[.string d.row, .string d.fam, .string d.qual, .int .u64 d.time]) rfl rfl (by kernel_rfl) (by kernel_rfl) (by kernel_rfl) rfl (fun W hW => by obtain ⟨h0, h1, h2, h3, h4, h5, h6, h7, h8, h9, h10, h11⟩ := hW; go_simp) H1 ?_
          simp only [Act.put, List.setIfInBounds_toArray, List.set_cons_zero, List.set_cons_succ]
          refine hr_call_w 7 (some 53) 18 #[.agg #[.string a.row, .string a.fam, .string a.qual, .int .u64 a.time], .agg #[.string c.row, .string c.fam, .string c.qual, .int .u64 c.time]] rfl rfl (by kernel_rfl) rfl (by go_simp) (fun v w' => v = .bool (c.col d) ∧ Below v1.heap.size v1 w') ((pcolumn_any v1 a c).mono (by
            rintro e w' ⟨rfl, C⟩
            exact ⟨_, rfl, by rw [col2.out], C⟩)) ?_
          rintro v v2 ⟨rfl, C⟩
          have E2 := E1.trans (C.mono E1.size)
          have H2 := HS.out v2 E2
          clear C
          refine ⟨H2, ?_⟩
          simp only [Act.put, List.setIfInBounds_toArray, List.set_cons_zero, List.set_cons_succ]
          refine hr_call_w 10 (some 56) 18 #[.agg #[.string c.row, .string c.fam, .string c.qual, .int .u64 c.time], .agg #[.string d.row, .string d.fam, .string d.qual, .int .u64 d.time]] rfl rfl (by kernel_rfl) rfl (by go_simp) (fun v w' => v = .bool (c.col d) ∧ Below v2.heap.size v2 w') ((pcolumn_any v2 c d).mono (by
            rintro e w' ⟨rfl, C⟩
            exact ⟨_, rfl, by rfl, C⟩)) ?_
          rintro v v3 ⟨rfl, C⟩
          have E3 := E2.trans (C.mono E2.size)
          have H3 := HS.out v3 E3
          clear C
          refine ⟨H3, ?_⟩
          simp only [Act.put, List.setIfInBounds_toArray, List.set_cons_zero, List.set_cons_succ]
          refine hr_take_w 11 (some 57) (.bool false) rfl rfl (by kernel_rfl) (by kernel_rfl) (by kernel_rfl) rfl (fun W hW => by obtain ⟨h0, h1, h2, h3, h4, h5, h6, h7, h8, h9, h10, h11⟩ := hW; cases c.col d <;> go_simp) H3 ?_
          simp only [Act.put, List.setIfInBounds_toArray, List.set_cons_zero, List.set_cons_succ]
          refine hr_take_w 12 (some 58) (.bool false) rfl rfl (by kernel_rfl) (by kernel_rfl) (by kernel_rfl) rfl (fun W hW => by obtain ⟨h0, h1, h2, h3, h4, h5, h6, h7, h8, h9, h10, h11⟩ := hW; go_simp) H3 ?_
          simp only [Act.put, List.setIfInBounds_toArray, List.set_cons_zero, List.set_cons_succ]
          refine wpAnyH_done (by kernel_rfl) ?_ _
          refine NoPanic.normal ?_
          have XB9 := B9.trans (E3.mono (by have := B9.size; have := HN.out; omega))
          have Xa9 := a9.keep E3
          have Xd9 := d9.keep E3
          have Xc9 := c9.keep E3
          clear HS E0 E1 E2 E3 H0 H1 H2 H3 a9 d9 c9 B9
          go_wp2_with fail
          obtain ⟨z, hz⟩ : ∃ z, z = v3 := ⟨_, rfl⟩
          rw [← hz] at Xa9 Xd9 Xc9 XB9 ⊢
          clear hz
          have ht := tim.out
          have n3 : cmpT a.time d.time = -1 ∨ cmpT a.time d.time = 0 ∨ cmpT a.time d.time = 1 := by
            unfold cmpT
            split
            · exact .inr (.inl rfl)
            · split
              · exact .inl rfl
              · exact .inr (.inr rfl)
          have negi : IntKind.i64.wrap (- -cmpK a.kv d.kv) = cmpK a.kv d.kv := by rw [IntKind.wrap_i64]; omega
          have negj : IntKind.i64.wrap (cmpK a.kv d.kv) = cmpK a.kv d.kv := by rw [IntKind.wrap_i64]; omega
          by_cases lt : d.time < a.time
          · have il : (d.time : Int) < (a.time : Int) := by omega
            have iz : cmpK a.kv d.kv < 0 := by rw [ht]; unfold cmpT; rw [if_neg (by omega), if_pos lt]; decide
            clear ht n3
            have HS : Hid (∀ V, Below z.heap.size z V → V.cell? ⟨N, 0, none⟩ = some (.string a.row) ∧ V.cell? ⟨N, 1, none⟩ = some (.string a.fam) ∧ V.cell? ⟨N, 2, none⟩ = some (.string a.qual) ∧ V.cell? ⟨N, 3, none⟩ = some (.int .u64 a.time) ∧ V.cell? ⟨N + 1, 0, none⟩ = some (.string d.row) ∧ V.cell? ⟨N + 1, 1, none⟩ = some (.string d.fam) ∧ V.cell? ⟨N + 1, 2, none⟩ = some (.string d.qual) ∧ V.cell? ⟨N + 1, 3, none⟩ = some (.int .u64 d.time)) := fun V hV => ⟨(Xa9.keep hV).c0, (Xa9.keep hV).c1, (Xa9.keep hV).c2, (Xa9.keep hV).c3, (Xd9.keep hV).c0, (Xd9.keep hV).c1, (Xd9.keep hV).c2, (Xd9.keep hV).c3⟩
            have E0 : Below z.heap.size z z.drew := (Below.refl _ _).drew
            refine wp_region_noPanic ?_
            refine wp_region_held_drew (S := fun V => V.cell? ⟨N, 0, none⟩ = some (.string a.row) ∧ V.cell? ⟨N, 1, none⟩ = some (.string a.fam) ∧ V.cell? ⟨N, 2, none⟩ = some (.string a.qual) ∧ V.cell? ⟨N, 3, none⟩ = some (.int .u64 a.time) ∧ V.cell? ⟨N + 1, 0, none⟩ = some (.string d.row) ∧ V.cell? ⟨N + 1, 1, none⟩ = some (.string d.fam) ∧ V.cell? ⟨N + 1, 2, none⟩ = some (.string d.qual) ∧ V.cell? ⟨N + 1, 3, none⟩ = some (.int .u64 d.time)) (by kernel_rfl) (HS.out _ E0) (fun H0 => ?_)
            obtain ⟨v0, hv0⟩ : ∃ v, v = z.drew := ⟨_, rfl⟩
            rw [← hv0] at H0 E0 ⊢
            clear hv0
            refine hr_take_w 0 (some 59) (.agg #[.string a.row, .string a.fam, .string a.qual, .int .u64 a.time]) rfl rfl (by kernel_rfl) (by kernel_rfl) (by kernel_rfl) rfl (fun W hW => by obtain ⟨h0, h1, h2, h3, h4, h5, h6, h7⟩ := hW; go_simp) H0 ?_
            simp only [Act.put, List.setIfInBounds_toArray, List.set_cons_zero, List.set_cons_succ]
            refine hr_take_w 1 (some 60) (.agg #[.string d.row, .string d.fam, .string d.qual, .int .u64 d.time]) rfl rfl (by kernel_rfl) (by kernel_rfl) (by kernel_rfl) rfl (fun W hW => by obtain ⟨h0, h1, h2, h3, h4, h5, h6, h7⟩ := hW; go_simp) H0 ?_
            simp only [Act.put, List.setIfInBounds_toArray, List.set_cons_zero, List.set_cons_succ]
            refine hr_take_w 4 (some 63) (.pointer (some ⟨N, 3, none⟩)) rfl rfl (by kernel_rfl) (by kernel_rfl) (by kernel_rfl) rfl (fun W hW => by obtain ⟨h0, h1, h2, h3, h4, h5, h6, h7⟩ := hW; go_simp) H0 ?_
            simp only [Act.put, List.setIfInBounds_toArray, List.set_cons_zero, List.set_cons_succ]
            refine hr_take_w 5 (some 64) (.int .u64 a.time) rfl rfl (by kernel_rfl) (by kernel_rfl) (by kernel_rfl) rfl (fun W hW => by obtain ⟨h0, h1, h2, h3, h4, h5, h6, h7⟩ := hW; go_simp) H0 ?_
            simp only [Act.put, List.setIfInBounds_toArray, List.set_cons_zero, List.set_cons_succ]
            refine hr_take_w 6 (some 65) (.pointer (some ⟨N + 1, 3, none⟩)) rfl rfl (by kernel_rfl) (by kernel_rfl) (by kernel_rfl) rfl (fun W hW => by obtain ⟨h0, h1, h2, h3, h4, h5, h6, h7⟩ := hW; go_simp) H0 ?_
            simp only [Act.put, List.setIfInBounds_toArray, List.set_cons_zero, List.set_cons_succ]
            refine hr_take_w 7 (some 66) (.int .u64 d.time) rfl rfl (by kernel_rfl) (by kernel_rfl) (by kernel_rfl) rfl (fun W hW => by obtain ⟨h0, h1, h2, h3, h4, h5, h6, h7⟩ := hW; go_simp) H0 ?_
            simp only [Act.put, List.setIfInBounds_toArray, List.set_cons_zero, List.set_cons_succ]
            refine hr_take_w 8 (some 67) (.bool true) rfl rfl (by kernel_rfl) (by kernel_rfl) (by kernel_rfl) rfl (fun W hW => by obtain ⟨h0, h1, h2, h3, h4, h5, h6, h7⟩ := hW; go_simp) H0 ?_
            simp only [Act.put, List.setIfInBounds_toArray, List.set_cons_zero, List.set_cons_succ]
            refine hr_call_w 2 (some 61) 16 #[.agg #[.string a.row, .string a.fam, .string a.qual, .int .u64 a.time], .agg #[.string d.row, .string d.fam, .string d.qual, .int .u64 d.time]] rfl rfl (by kernel_rfl) rfl (by go_simp) (fun v w' => v = .int .i64 (cmpK a.kv d.kv) ∧ Below v0.heap.size v0 w') ((pcmp_any v0 a d).mono (by
              rintro e w' ⟨rfl, C⟩
              exact ⟨_, rfl, by rfl, C⟩)) ?_
            rintro v v1 ⟨rfl, C⟩
            have E1 := E0.trans (C.mono E0.size)
            have H1 := HS.out v1 E1
            clear C
            refine ⟨H1, ?_⟩
            simp only [Act.put, List.setIfInBounds_toArray, List.set_cons_zero, List.set_cons_succ]
            refine hr_take_w 3 (some 62) (.bool true) rfl rfl (by kernel_rfl) (by kernel_rfl) (by kernel_rfl) rfl (fun W hW => by obtain ⟨h0, h1, h2, h3, h4, h5, h6, h7⟩ := hW; go_simp) H1 ?_
            simp only [Act.put, List.setIfInBounds_toArray, List.set_cons_zero, List.set_cons_succ]
            refine hr_take_w 9 (some 68) (.bool true) rfl rfl (by kernel_rfl) (by kernel_rfl) (by kernel_rfl) rfl (fun W hW => by obtain ⟨h0, h1, h2, h3, h4, h5, h6, h7⟩ := hW; go_simp) H1 ?_
            simp only [Act.put, List.setIfInBounds_toArray, List.set_cons_zero, List.set_cons_succ]
            refine hr_take_w 10 (some 69) (.bool true) rfl rfl (by kernel_rfl) (by kernel_rfl) (by kernel_rfl) rfl (fun W hW => by obtain ⟨h0, h1, h2, h3, h4, h5, h6, h7⟩ := hW; go_simp) H1 ?_
            simp only [Act.put, List.setIfInBounds_toArray, List.set_cons_zero, List.set_cons_succ]
            refine hr_take_w 11 (some 70) (.agg #[.string a.row, .string a.fam, .string a.qual, .int .u64 a.time]) rfl rfl (by kernel_rfl) (by kernel_rfl) (by kernel_rfl) rfl (fun W hW => by obtain ⟨h0, h1, h2, h3, h4, h5, h6, h7⟩ := hW; go_simp) H1 ?_
            simp only [Act.put, List.setIfInBounds_toArray, List.set_cons_zero, List.set_cons_succ]
            refine hr_take_w 12 (some 71) (.agg #[.string d.row, .string d.fam, .string d.qual, .int .u64 d.time]) rfl rfl (by kernel_rfl) (by kernel_rfl) (by kernel_rfl) rfl (fun W hW => by obtain ⟨h0, h1, h2, h3, h4, h5, h6, h7⟩ := hW; go_simp) H1 ?_
            simp only [Act.put, List.setIfInBounds_toArray, List.set_cons_zero, List.set_cons_succ]
            refine hr_take_w 14 (some 73) (.agg #[.string d.row, .string d.fam, .string d.qual, .int .u64 d.time]) rfl rfl (by kernel_rfl) (by kernel_rfl) (by kernel_rfl) rfl (fun W hW => by obtain ⟨h0, h1, h2, h3, h4, h5, h6, h7⟩ := hW; go_simp) H1 ?_
            simp only [Act.put, List.setIfInBounds_toArray, List.set_cons_zero, List.set_cons_succ]
            refine hr_take_w 15 (some 74) (.agg #[.string a.row, .string a.fam, .string a.qual, .int .u64 a.time]) rfl rfl (by kernel_rfl) (by kernel_rfl) (by kernel_rfl) rfl (fun W hW => by obtain ⟨h0, h1, h2, h3, h4, h5, h6, h7⟩ := hW; go_simp) H1 ?_
            simp only [Act.put, List.setIfInBounds_toArray, List.set_cons_zero, List.set_cons_succ]
            refine hr_call_w 13 (some 72) 16 #[.agg #[.string a.row, .string a.fam, .string a.qual, .int .u64 a.time], .agg #[.string d.row, .string d.fam, .string d.qual, .int .u64 d.time]] rfl rfl (by kernel_rfl) rfl (by go_simp) (fun v w' => v = .int .i64 (cmpK a.kv d.kv) ∧ Below v1.heap.size v1 w') ((pcmp_any v1 a d).mono (by
              rintro e w' ⟨rfl, C⟩
              exact ⟨_, rfl, by rfl, C⟩)) ?_
            rintro v v2 ⟨rfl, C⟩
            have E2 := E1.trans (C.mono E1.size)
            have H2 := HS.out v2 E2
            clear C
            refine ⟨H2, ?_⟩
            simp only [Act.put, List.setIfInBounds_toArray, List.set_cons_zero, List.set_cons_succ]
            refine hr_call_w 16 (some 75) 16 #[.agg #[.string d.row, .string d.fam, .string d.qual, .int .u64 d.time], .agg #[.string a.row, .string a.fam, .string a.qual, .int .u64 a.time]] rfl rfl (by kernel_rfl) rfl (by go_simp) (fun v w' => v = .int .i64 (-cmpK a.kv d.kv) ∧ Below v2.heap.size v2 w') ((pcmp_any v2 d a).mono (by
              rintro e w' ⟨rfl, C⟩
              exact ⟨_, rfl, by rw [neg.out], C⟩)) ?_
            rintro v v3 ⟨rfl, C⟩
            have E3 := E2.trans (C.mono E2.size)
            have H3 := HS.out v3 E3
            clear C
            refine ⟨H3, ?_⟩
            simp only [Act.put, List.setIfInBounds_toArray, List.set_cons_zero, List.set_cons_succ]
            refine hr_take_w 17 (some 76) (.int .i64 (cmpK a.kv d.kv)) rfl rfl (by kernel_rfl) (by kernel_rfl) (by kernel_rfl) rfl (fun W hW => by obtain ⟨h0, h1, h2, h3, h4, h5, h6, h7⟩ := hW; go_simp) H3 ?_
            simp only [Act.put, List.setIfInBounds_toArray, List.set_cons_zero, List.set_cons_succ]
            refine hr_take_w 18 (some 77) (.bool true) rfl rfl (by kernel_rfl) (by kernel_rfl) (by kernel_rfl) rfl (fun W hW => by obtain ⟨h0, h1, h2, h3, h4, h5, h6, h7⟩ := hW; go_simp) H3 ?_
            simp only [Act.put, List.setIfInBounds_toArray, List.set_cons_zero, List.set_cons_succ]
            refine hr_take_w 19 (some 78) (.bool true) rfl rfl (by kernel_rfl) (by kernel_rfl) (by kernel_rfl) rfl (fun W hW => by obtain ⟨h0, h1, h2, h3, h4, h5, h6, h7⟩ := hW; go_simp) H3 ?_
            simp only [Act.put, List.setIfInBounds_toArray, List.set_cons_zero, List.set_cons_succ]
            refine hr_take_w 20 (some 79) (.bool true) rfl rfl (by kernel_rfl) (by kernel_rfl) (by kernel_rfl) rfl (fun W hW => by obtain ⟨h0, h1, h2, h3, h4, h5, h6, h7⟩ := hW; go_simp) H3 ?_
            simp only [Act.put, List.setIfInBounds_toArray, List.set_cons_zero, List.set_cons_succ]
            refine hr_call_w 21 (some 80) 10 #[] rfl rfl (by kernel_rfl) rfl (by go_simp) (fun v w' => v = .bool true ∧ Below v3.heap.size v3 w') ((alive_any v3).mono (by
              rintro e w' ⟨rfl, C⟩
              exact ⟨_, rfl, by rfl, C⟩)) ?_
            rintro v v4 ⟨rfl, C⟩
            have E4 := E3.trans (C.mono E3.size)
            have H4 := HS.out v4 E4
            clear C
            refine ⟨H4, ?_⟩
            simp only [Act.put, List.setIfInBounds_toArray, List.set_cons_zero, List.set_cons_succ]
            refine hr_take_w 22 (some 81) (.bool true) rfl rfl (by kernel_rfl) (by kernel_rfl) (by kernel_rfl) rfl (fun W hW => by obtain ⟨h0, h1, h2, h3, h4, h5, h6, h7⟩ := hW; go_simp) H4 ?_
            simp only [Act.put, List.setIfInBounds_toArray, List.set_cons_zero, List.set_cons_succ]
            refine hr_take_w 23 (some 6) (.bool true) rfl rfl (by kernel_rfl) (by kernel_rfl) (by kernel_rfl) rfl (fun W hW => by obtain ⟨h0, h1, h2, h3, h4, h5, h6, h7⟩ := hW; go_simp) H4 ?_
            simp only [Act.put, List.setIfInBounds_toArray, List.set_cons_zero, List.set_cons_succ]
            refine wpAnyH_done (by kernel_rfl) ?_ _
            refine NoPanic.normal ?_
            have BF := XB9.trans (E4.mono (by have := XB9.size; have := HN.out; omega))
            go_wp2
            go_ret
            exact ⟨rfl, by rw [← HN.out]; exact BF⟩
          · have il : (a.time : Int) ≤ (d.time : Int) := by omega
            have iz : 0 ≤ cmpK a.kv d.kv := by
              rw [ht]
              unfold cmpT
              by_cases e : a.time = d.time
              · rw [if_pos e]; decide
              · rw [if_neg e, if_neg lt]; decide
            clear ht n3
            have HS : Hid (∀ V, Below z.heap.size z V → V.cell? ⟨N, 0, none⟩ = some (.string a.row) ∧ V.cell? ⟨N, 1, none⟩ = some (.string a.fam) ∧ V.cell? ⟨N, 2, none⟩ = some (.string a.qual) ∧ V.cell? ⟨N, 3, none⟩ = some (.int .u64 a.time) ∧ V.cell? ⟨N + 1, 0, none⟩ = some (.string d.row) ∧ V.cell? ⟨N + 1, 1, none⟩ = some (.string d.fam) ∧ V.cell? ⟨N + 1, 2, none⟩ = some (.string d.qual) ∧ V.cell? ⟨N + 1, 3, none⟩ = some (.int .u64 d.time)) := fun V hV => ⟨(Xa9.keep hV).c0, (Xa9.keep hV).c1, (Xa9.keep hV).c2, (Xa9.keep hV).c3, (Xd9.keep hV).c0, (Xd9.keep hV).c1, (Xd9.keep hV).c2, (Xd9.keep hV).c3⟩
            have E0 : Below z.heap.size z z.drew := (Below.refl _ _).drew
            refine wp_region_noPanic ?_
            refine wp_region_held_drew (S := fun V => V.cell? ⟨N, 0, none⟩ = some (.string a.row) ∧ V.cell? ⟨N, 1, none⟩ = some (.string a.fam) ∧ V.cell? ⟨N, 2, none⟩ = some (.string a.qual) ∧ V.cell? ⟨N, 3, none⟩ = some (.int .u64 a.time) ∧ V.cell? ⟨N + 1, 0, none⟩ = some (.string d.row) ∧ V.cell? ⟨N + 1, 1, none⟩ = some (.string d.fam) ∧ V.cell? ⟨N + 1, 2, none⟩ = some (.string d.qual) ∧ V.cell? ⟨N + 1, 3, none⟩ = some (.int .u64 d.time)) (by kernel_rfl) (HS.out _ E0) (fun H0 => ?_)
            obtain ⟨v0, hv0⟩ : ∃ v, v = z.drew := ⟨_, rfl⟩
            rw [← hv0] at H0 E0 ⊢
            clear hv0
            refine hr_take_w 0 (some 59) (.agg #[.string a.row, .string a.fam, .string a.qual, .int .u64 a.time]) rfl rfl (by kernel_rfl) (by kernel_rfl) (by kernel_rfl) rfl (fun W hW => by obtain ⟨h0, h1, h2, h3, h4, h5, h6, h7⟩ := hW; go_simp) H0 ?_
            simp only [Act.put, List.setIfInBounds_toArray, List.set_cons_zero, List.set_cons_succ]
            refine hr_take_w 1 (some 60) (.agg #[.string d.row, .string d.fam, .string d.qual, .int .u64 d.time]) rfl rfl (by kernel_rfl) (by kernel_rfl) (by kernel_rfl) rfl (fun W hW => by obtain ⟨h0, h1, h2, h3, h4, h5, h6, h7⟩ := hW; go_simp) H0 ?_
            simp only [Act.put, List.setIfInBounds_toArray, List.set_cons_zero, List.set_cons_succ]
            refine hr_take_w 4 (some 63) (.pointer (some ⟨N, 3, none⟩)) rfl rfl (by kernel_rfl) (by kernel_rfl) (by kernel_rfl) rfl (fun W hW => by obtain ⟨h0, h1, h2, h3, h4, h5, h6, h7⟩ := hW; go_simp) H0 ?_
            simp only [Act.put, List.setIfInBounds_toArray, List.set_cons_zero, List.set_cons_succ]
            refine hr_take_w 5 (some 64) (.int .u64 a.time) rfl rfl (by kernel_rfl) (by kernel_rfl) (by kernel_rfl) rfl (fun W hW => by obtain ⟨h0, h1, h2, h3, h4, h5, h6, h7⟩ := hW; go_simp) H0 ?_
            simp only [Act.put, List.setIfInBounds_toArray, List.set_cons_zero, List.set_cons_succ]
            refine hr_take_w 6 (some 65) (.pointer (some ⟨N + 1, 3, none⟩)) rfl rfl (by kernel_rfl) (by kernel_rfl) (by kernel_rfl) rfl (fun W hW => by obtain ⟨h0, h1, h2, h3, h4, h5, h6, h7⟩ := hW; go_simp) H0 ?_
            simp only [Act.put, List.setIfInBounds_toArray, List.set_cons_zero, List.set_cons_succ]
            refine hr_take_w 7 (some 66) (.int .u64 d.time) rfl rfl (by kernel_rfl) (by kernel_rfl) (by kernel_rfl) rfl (fun W hW => by obtain ⟨h0, h1, h2, h3, h4, h5, h6, h7⟩ := hW; go_simp) H0 ?_
            simp only [Act.put, List.setIfInBounds_toArray, List.set_cons_zero, List.set_cons_succ]
            refine hr_take_w 8 (some 67) (.bool false) rfl rfl (by kernel_rfl) (by kernel_rfl) (by kernel_rfl) rfl (fun W hW => by obtain ⟨h0, h1, h2, h3, h4, h5, h6, h7⟩ := hW; go_simp) H0 ?_
            simp only [Act.put, List.setIfInBounds_toArray, List.set_cons_zero, List.set_cons_succ]
            refine hr_call_w 2 (some 61) 16 #[.agg #[.string a.row, .string a.fam, .string a.qual, .int .u64 a.time], .agg #[.string d.row, .string d.fam, .string d.qual, .int .u64 d.time]] rfl rfl (by kernel_rfl) rfl (by go_simp) (fun v w' => v = .int .i64 (cmpK a.kv d.kv) ∧ Below v0.heap.size v0 w') ((pcmp_any v0 a d).mono (by
              rintro e w' ⟨rfl, C⟩
              exact ⟨_, rfl, by rfl, C⟩)) ?_
            rintro v v1 ⟨rfl, C⟩
            have E1 := E0.trans (C.mono E0.size)
            have H1 := HS.out v1 E1
            clear C
            refine ⟨H1, ?_⟩
            simp only [Act.put, List.setIfInBounds_toArray, List.set_cons_zero, List.set_cons_succ]
            refine hr_take_w 3 (some 62) (.bool false) rfl rfl (by kernel_rfl) (by kernel_rfl) (by kernel_rfl) rfl (fun W hW => by obtain ⟨h0, h1, h2, h3, h4, h5, h6, h7⟩ := hW; go_simp) H1 ?_
            simp only [Act.put, List.setIfInBounds_toArray, List.set_cons_zero, List.set_cons_succ]
            refine hr_take_w 9 (some 68) (.bool true) rfl rfl (by kernel_rfl) (by kernel_rfl) (by kernel_rfl) rfl (fun W hW => by obtain ⟨h0, h1, h2, h3, h4, h5, h6, h7⟩ := hW; go_simp) H1 ?_
            simp only [Act.put, List.setIfInBounds_toArray, List.set_cons_zero, List.set_cons_succ]
            refine hr_take_w 10 (some 69) (.bool true) rfl rfl (by kernel_rfl) (by kernel_rfl) (by kernel_rfl) rfl (fun W hW => by obtain ⟨h0, h1, h2, h3, h4, h5, h6, h7⟩ := hW; go_simp) H1 ?_
            simp only [Act.put, List.setIfInBounds_toArray, List.set_cons_zero, List.set_cons_succ]
            refine hr_take_w 11 (some 70) (.agg #[.string a.row, .string a.fam, .string a.qual, .int .u64 a.time]) rfl rfl (by kernel_rfl) (by kernel_rfl) (by kernel_rfl) rfl (fun W hW => by obtain ⟨h0, h1, h2, h3, h4, h5, h6, h7⟩ := hW; go_simp) H1 ?_
            simp only [Act.put, List.setIfInBounds_toArray, List.set_cons_zero, List.set_cons_succ]
            refine hr_take_w 12 (some 71) (.agg #[.string d.row, .string d.fam, .string d.qual, .int .u64 d.time]) rfl rfl (by kernel_rfl) (by kernel_rfl) (by kernel_rfl) rfl (fun W hW => by obtain ⟨h0, h1, h2, h3, h4, h5, h6, h7⟩ := hW; go_simp) H1 ?_
            simp only [Act.put, List.setIfInBounds_toArray, List.set_cons_zero, List.set_cons_succ]
            refine hr_take_w 14 (some 73) (.agg #[.string d.row, .string d.fam, .string d.qual, .int .u64 d.time]) rfl rfl (by kernel_rfl) (by kernel_rfl) (by kernel_rfl) rfl (fun W hW => by obtain ⟨h0, h1, h2, h3, h4, h5, h6, h7⟩ := hW; go_simp) H1 ?_
            simp only [Act.put, List.setIfInBounds_toArray, List.set_cons_zero, List.set_cons_succ]
            refine hr_take_w 15 (some 74) (.agg #[.string a.row, .string a.fam, .string a.qual, .int .u64 a.time]) rfl rfl (by kernel_rfl) (by kernel_rfl) (by kernel_rfl) rfl (fun W hW => by obtain ⟨h0, h1, h2, h3, h4, h5, h6, h7⟩ := hW; go_simp) H1 ?_
            simp only [Act.put, List.setIfInBounds_toArray, List.set_cons_zero, List.set_cons_succ]
            refine hr_call_w 13 (some 72) 16 #[.agg #[.string a.row, .string a.fam, .string a.qual, .int .u64 a.time], .agg #[.string d.row, .string d.fam, .string d.qual, .int .u64 d.time]] rfl rfl (by kernel_rfl) rfl (by go_simp) (fun v w' => v = .int .i64 (cmpK a.kv d.kv) ∧ Below v1.heap.size v1 w') ((pcmp_any v1 a d).mono (by
              rintro e w' ⟨rfl, C⟩
              exact ⟨_, rfl, by rfl, C⟩)) ?_
            rintro v v2 ⟨rfl, C⟩
            have E2 := E1.trans (C.mono E1.size)
            have H2 := HS.out v2 E2
            clear C
            refine ⟨H2, ?_⟩
            simp only [Act.put, List.setIfInBounds_toArray, List.set_cons_zero, List.set_cons_succ]
            refine hr_call_w 16 (some 75) 16 #[.agg #[.string d.row, .string d.fam, .string d.qual, .int .u64 d.time], .agg #[.string a.row, .string a.fam, .string a.qual, .int .u64 a.time]] rfl rfl (by kernel_rfl) rfl (by go_simp) (fun v w' => v = .int .i64 (-cmpK a.kv d.kv) ∧ Below v2.heap.size v2 w') ((pcmp_any v2 d a).mono (by
              rintro e w' ⟨rfl, C⟩
              exact ⟨_, rfl, by rw [neg.out], C⟩)) ?_
            rintro v v3 ⟨rfl, C⟩
            have E3 := E2.trans (C.mono E2.size)
            have H3 := HS.out v3 E3
            clear C
            refine ⟨H3, ?_⟩
            simp only [Act.put, List.setIfInBounds_toArray, List.set_cons_zero, List.set_cons_succ]
            refine hr_take_w 17 (some 76) (.int .i64 (cmpK a.kv d.kv)) rfl rfl (by kernel_rfl) (by kernel_rfl) (by kernel_rfl) rfl (fun W hW => by obtain ⟨h0, h1, h2, h3, h4, h5, h6, h7⟩ := hW; go_simp) H3 ?_
            simp only [Act.put, List.setIfInBounds_toArray, List.set_cons_zero, List.set_cons_succ]
            refine hr_take_w 18 (some 77) (.bool true) rfl rfl (by kernel_rfl) (by kernel_rfl) (by kernel_rfl) rfl (fun W hW => by obtain ⟨h0, h1, h2, h3, h4, h5, h6, h7⟩ := hW; go_simp) H3 ?_
            simp only [Act.put, List.setIfInBounds_toArray, List.set_cons_zero, List.set_cons_succ]
            refine hr_take_w 19 (some 78) (.bool true) rfl rfl (by kernel_rfl) (by kernel_rfl) (by kernel_rfl) rfl (fun W hW => by obtain ⟨h0, h1, h2, h3, h4, h5, h6, h7⟩ := hW; go_simp) H3 ?_
            simp only [Act.put, List.setIfInBounds_toArray, List.set_cons_zero, List.set_cons_succ]
            refine hr_take_w 20 (some 79) (.bool true) rfl rfl (by kernel_rfl) (by kernel_rfl) (by kernel_rfl) rfl (fun W hW => by obtain ⟨h0, h1, h2, h3, h4, h5, h6, h7⟩ := hW; go_simp) H3 ?_
            simp only [Act.put, List.setIfInBounds_toArray, List.set_cons_zero, List.set_cons_succ]
            refine hr_call_w 21 (some 80) 10 #[] rfl rfl (by kernel_rfl) rfl (by go_simp) (fun v w' => v = .bool true ∧ Below v3.heap.size v3 w') ((alive_any v3).mono (by
              rintro e w' ⟨rfl, C⟩
              exact ⟨_, rfl, by rfl, C⟩)) ?_
            rintro v v4 ⟨rfl, C⟩
            have E4 := E3.trans (C.mono E3.size)
            have H4 := HS.out v4 E4
            clear C
            refine ⟨H4, ?_⟩
            simp only [Act.put, List.setIfInBounds_toArray, List.set_cons_zero, List.set_cons_succ]
            refine hr_take_w 22 (some 81) (.bool true) rfl rfl (by kernel_rfl) (by kernel_rfl) (by kernel_rfl) rfl (fun W hW => by obtain ⟨h0, h1, h2, h3, h4, h5, h6, h7⟩ := hW; go_simp) H4 ?_
            simp only [Act.put, List.setIfInBounds_toArray, List.set_cons_zero, List.set_cons_succ]
            refine hr_take_w 23 (some 6) (.bool true) rfl rfl (by kernel_rfl) (by kernel_rfl) (by kernel_rfl) rfl (fun W hW => by obtain ⟨h0, h1, h2, h3, h4, h5, h6, h7⟩ := hW; go_simp) H4 ?_
            simp only [Act.put, List.setIfInBounds_toArray, List.set_cons_zero, List.set_cons_succ]
            refine wpAnyH_done (by kernel_rfl) ?_ _
            refine NoPanic.normal ?_
            have BF := XB9.trans (E4.mono (by have := XB9.size; have := HN.out; omega))
            go_wp2
            go_ret
            exact ⟨rfl, by rw [← HN.out]; exact BF⟩
      · have hl' : c.light = false := by simpa using hlc
        rw [hl']
        go_wp2_with fail
        refine (alive_any _).mono ?_
        rintro e wz ⟨rfl, Cz⟩
        have Bz := B4.trans (Cz.mono (by have := B4.size; have := HN.out; omega))
        go_wp2
        go_ret
        exact ⟨rfl, by rw [← HN.out]; exact Bz⟩
    · have hl' : b.light = false := by simpa using hlb
      rw [hl']
      go_wp2_with fail
      refine (alive_any _).mono ?_
      rintro e wz ⟨rfl, Cz⟩
      have Bz := B3.trans (Cz.mono (by have := B3.size; have := HN.out; omega))
      go_wp2
      go_ret
      exact ⟨rfl, by rw [← HN.out]; exact Bz⟩
  · have hl' : a.light = false := by simpa using hla
    rw [hl']
    go_wp2_with fail
    refine (alive_any _).mono ?_
    rintro e wz ⟨rfl, Cz⟩
    have Bz := B2.trans (Cz.mono (by have := B2.size; have := HN.out; omega))
    go_wp2
    go_ret
    exact ⟨rfl, by rw [← HN.out]; exact Bz⟩
end Go.Proofs.Ytepkjnklapamjaa
