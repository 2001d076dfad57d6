/-
  The program's Cmp, Column.
-/
import Derived.Test.YtepkjnklapamjaaCRight
import Derived.Test.YtepkjnklapamjaaHRegA
import Derived.WalkLawsBesides
namespace Go.Proofs.Ytepkjnklapamjaa
open Go.RowKit

theorem less_cmp : ∀ a b : List UInt8, Op.bytesLess a b = decide (cmpL (a.map fun c => (c.toNat : Int)) (b.map fun c => (c.toNat : Int)) < 0)
  | [], [] => rfl
  | _ :: _, [] => rfl
  | [], _ :: _ => rfl
  | a :: x, b :: y => by
    rw [Op.bytesLess, less_cmp x y, List.map_cons, List.map_cons, cmpL_cons]
    by_cases e : a = b
    · subst e
      have h : ¬ a < a := UInt8.lt_irrefl a
      simp [h]
    · have hn : a.toNat ≠ b.toNat := fun h => e (UInt8.toNat_inj.1 h)
      have hb : (a == b) = false := by simp [e]
      rw [hb, if_neg (by omega)]
      by_cases l : a < b
      · have l2 : (a.toNat : Int) < (b.toNat : Int) := by have := UInt8.lt_iff_toNat_lt.1 l; omega
        rw [if_pos l2]
        simp [l]
      · have l2 : ¬ (a.toNat : Int) < (b.toNat : Int) := fun h => l (UInt8.lt_iff_toNat_lt.2 (by omega))
        rw [if_neg l2]
        simp [l]
theorem less_sb (s t : ByteArray) : Op.bytesLess s.toList t.toList = decide (cmpL (sb s) (sb t) < 0) := by
  rw [ByteArray.toList_eq, ByteArray.toList_eq, less_cmp]
  rfl
theorem same_sb (s t : ByteArray) : (s.toList == t.toList) = decide (cmpL (sb s) (sb t) = 0) := by
  by_cases e : s = t
  · subst e
    rw [cmpL_self]
    simp
  · rw [toL_ne e]
    exact (decide_eq_false fun h => e (sb_inj (cmpL_eq _ _ h))).symm

set_option maxRecDepth 100000 in
set_option maxHeartbeats 2000000 in
theorem pcomps_any (w : World) (s t : ByteArray) :
    Calls Try.prog 30 #[.string s, .string t] w fun e w' => e = .returned (.int .i64 (cmpL (sb s) (sb t))) ∧ w' = w := by
  have h1 := less_sb s t
  have h2 := same_sb s t
  obtain ⟨c, hc⟩ : ∃ c, c = cmpL (sb s) (sb t) := ⟨_, rfl⟩
  have h3 : c = -1 ∨ c = 0 ∨ c = 1 := hc ▸ cmpL_three (sb s) (sb t)
  rw [← hc] at h1 h2 ⊢
  clear hc
  rcases h3 with rfl | rfl | rfl
  · have f1 : Op.bytesLess s.toList t.toList = true := h1
    have f2 : (s.toList == t.toList) = false := h2
    clear h1 h2
    go_enter Try.func30, Try.ntmps30
    go_wp2
    go_ret
    exact ⟨rfl, rfl⟩
  · have f1 : Op.bytesLess s.toList t.toList = false := h1
    have f2 : s.toList = t.toList := by simpa using h2
    rw [← f2] at f1
    have f3 : t = s := by
      rw [ByteArray.toList_eq, ByteArray.toList_eq] at f2
      exact (ByteArray.ext (Array.toList_inj.1 f2)).symm
    subst f3
    clear h1 h2 f2
    go_enter Try.func30, Try.ntmps30
    go_wp2
    go_ret
    exact ⟨rfl, rfl⟩
  · have f1 : Op.bytesLess s.toList t.toList = false := h1
    have f2 : (s.toList == t.toList) = false := h2
    clear h1 h2
    go_enter Try.func30, Try.ntmps30
    go_wp2
    go_ret
    exact ⟨rfl, rfl⟩

set_option maxRecDepth 100000 in
set_option maxHeartbeats 2000000 in
theorem pcompt_any (w : World) (a b : Nat) :
    Calls Try.prog 31 #[.int .u64 b, .int .u64 a] w fun e w' => e = .returned (.int .i64 (cmpT a b)) ∧ w' = w := by
  by_cases e : a = b
  · have hv : Hid (cmpT a b = 0) := if_pos e
    have f1 : ¬ (b : Int) < (a : Int) := by omega
    have f2 : ¬ (a : Int) < (b : Int) := by omega
    clear e
    go_enter Try.func31, Try.ntmps31
    go_wp2
    go_ret
    exact ⟨by rw [hv.out] <;> rfl, rfl⟩
  · by_cases l : b < a
    · have hv : Hid (cmpT a b = -1) := (if_neg e).trans (if_pos l)
      have f1 : (b : Int) < (a : Int) := by omega
      go_enter Try.func31, Try.ntmps31
      go_wp2
      go_ret
      exact ⟨by rw [hv.out] <;> rfl, rfl⟩
    · have hv : Hid (cmpT a b = 1) := (if_neg e).trans (if_neg l)
      have f1 : ¬ (b : Int) < (a : Int) := by omega
      have f2 : (a : Int) < (b : Int) := by omega
      go_enter Try.func31, Try.ntmps31
      go_wp2
      go_ret
      exact ⟨by rw [hv.out] <;> rfl, rfl⟩

/-- The first that is not 0. -/
def orL : List Int → Int
  | [] => 0
  | c :: t => if c = 0 then orL t else c

set_option maxRecDepth 100000 in
set_option maxHeartbeats 2000000 in
theorem por_any (w : World) (g : Nat) (c0 c1 c2 c3 : Int) (hg : w.heap[g]? = some (.cells #[.int .i64 c0, .int .i64 c1, .int .i64 c2, .int .i64 c3] 3)) :
    Calls Try.prog 29 #[.slice (some ⟨g, 0, none⟩) 4 4] w fun e w' => e = .returned (.int .i64 (orL [c0, c1, c2, c3])) ∧ w' = w := by
  have q0 : w.cell? ⟨g, 0, none⟩ = some (.int .i64 c0) := cell_of_row w g 0 _ _ _ hg
  have q1 : w.cell? ⟨g, 1, none⟩ = some (.int .i64 c1) := cell_of_row w g 1 _ _ _ hg
  have q2 : w.cell? ⟨g, 2, none⟩ = some (.int .i64 c2) := cell_of_row w g 2 _ _ _ hg
  have q3 : w.cell? ⟨g, 3, none⟩ = some (.int .i64 c3) := cell_of_row w g 3 _ _ _ hg
  clear hg
  go_enter Try.func29, Try.ntmps29
  go_wp2_with fail
  go_loopw [5, 8] (fun _ i wr => wr = w ∧ ∃ j : Nat, i = .int .i64 j ∧ j ≤ 4 ∧ orL [c0, c1, c2, c3] = orL ([c0, c1, c2, c3].drop j)) (fun _ i _ => 4 - (intOf i).toNat)
  case atStart => exact ⟨rfl, 0, rfl, by omega, rfl⟩
  case round =>
    obtain ⟨rfl, j, rfl, hj, hr⟩ := hrel
    obtain rfl | rfl | rfl | rfl | rfl : j = 0 ∨ j = 1 ∨ j = 2 ∨ j = 3 ∨ j = 4 := by omega
    · by_cases z : c0 = 0
      · subst z
        go_wp2
        go_roundw
        case rel => exact ⟨trivial, 1, rfl, by omega, rfl⟩
        case measure => simp [intOf]
      · have zb : (c0 != 0) = true := by simp [z]
        have zc : (c0 == 0) = false := by simp [z]
        have hv : Hid (orL [c0, c1, c2, c3] = c0) := hr.trans (if_neg z)
        clear hr z
        go_wp2
        go_ret
        exact ⟨by rw [hv.out] <;> rfl, rfl⟩
    · by_cases z : c1 = 0
      · subst z
        have hv : Hid (orL [c0, 0, c2, c3] = orL [c2, c3]) := hr
        clear hr
        go_wp2
        go_roundw
        case rel => exact ⟨trivial, 2, rfl, by omega, hv.out⟩
        case measure => simp [intOf]
      · have zb : (c1 != 0) = true := by simp [z]
        have zc : (c1 == 0) = false := by simp [z]
        have hv : Hid (orL [c0, c1, c2, c3] = c1) := hr.trans (if_neg z)
        clear hr z
        go_wp2
        go_ret
        exact ⟨by rw [hv.out] <;> rfl, rfl⟩
    · by_cases z : c2 = 0
      · subst z
        have hv : Hid (orL [c0, c1, 0, c3] = orL [c3]) := hr
        clear hr
        go_wp2
        go_roundw
        case rel => exact ⟨trivial, 3, rfl, by omega, hv.out⟩
        case measure => simp [intOf]
      · have zb : (c2 != 0) = true := by simp [z]
        have zc : (c2 == 0) = false := by simp [z]
        have hv : Hid (orL [c0, c1, c2, c3] = c2) := hr.trans (if_neg z)
        clear hr z
        go_wp2
        go_ret
        exact ⟨by rw [hv.out] <;> rfl, rfl⟩
    · by_cases z : c3 = 0
      · subst z
        have hv : Hid (orL [c0, c1, c2, 0] = orL []) := hr
        clear hr
        go_wp2
        go_roundw
        case rel => exact ⟨trivial, 4, rfl, by omega, hv.out⟩
        case measure => simp [intOf]
      · have zb : (c3 != 0) = true := by simp [z]
        have zc : (c3 == 0) = false := by simp [z]
        have hv : Hid (orL [c0, c1, c2, c3] = c3) := hr.trans (if_neg z)
        clear hr z
        go_wp2
        go_ret
        exact ⟨by rw [hv.out] <;> rfl, rfl⟩
    · have hv : Hid (orL [c0, c1, c2, c3] = 0) := hr
      clear hr
      go_wp2
      go_ret
      exact ⟨by rw [hv.out] <;> rfl, rfl⟩

theorem cmpK_or (a b : KV) : orL [cmpL a.row b.row, cmpL a.fam b.fam, cmpL a.qual b.qual, cmpT a.time b.time] = cmpK a b := by
  unfold cmpK
  simp only [orL]
  split
  · split
    · split
      · split
        · next h => exact h.symm
        · rfl
      · rfl
    · rfl
  · rfl

set_option maxRecDepth 100000 in
set_option maxHeartbeats 4000000 in
theorem pcmp_any (w : World) (a b : KA) :
    Calls Try.prog 16 #[a.val, b.val] w fun e w' => e = .returned (.int .i64 (cmpK a.kv b.kv)) ∧ Below w.heap.size w w' := by
  have B2' : Below w.heap.size w ((w.alloc (Obj.cells #[.string a.row, .string a.fam, .string a.qual, .int .u64 a.time] 24)).alloc (Obj.cells #[.string b.row, .string b.fam, .string b.qual, .int .u64 b.time] 24)) := ((Below.refl _ w).alloc (Nat.le_refl _) _).alloc (by simp) _
  have h0 : w.heap.size < (w.alloc (Obj.cells #[.string a.row, .string a.fam, .string a.qual, .int .u64 a.time] 24)).heap.size := by simp
  have h1 : w.heap.size + 1 = (w.alloc (Obj.cells #[.string a.row, .string a.fam, .string a.qual, .int .u64 a.time] 24)).heap.size := by simp
  have HA' : ∀ i, i < 4 → ((w.alloc (Obj.cells #[.string a.row, .string a.fam, .string a.qual, .int .u64 a.time] 24)).alloc (Obj.cells #[.string b.row, .string b.fam, .string b.qual, .int .u64 b.time] 24)).cell? ⟨w.heap.size, i, none⟩ = #[Value.string a.row, .string a.fam, .string a.qual, .int .u64 a.time][i]? ∧ ((w.alloc (Obj.cells #[.string a.row, .string a.fam, .string a.qual, .int .u64 a.time] 24)).alloc (Obj.cells #[.string b.row, .string b.fam, .string b.qual, .int .u64 b.time] 24)).cell? ⟨w.heap.size + 1, i, none⟩ = #[Value.string b.row, .string b.fam, .string b.qual, .int .u64 b.time][i]? := fun i hi => by
    constructor
    · rw [World.cell?_alloc_past _ _ _ h0, World.cell?_alloc_at _ _ _ _ rfl]
    · rw [World.cell?_alloc_at _ _ _ _ h1]
  clear h0 h1
  unfold KA.val
  go_enter Try.func16, Try.ntmps16
  go_wp2_with fail
  obtain ⟨w2, hw2⟩ : ∃ W, W = ((w.alloc (Obj.cells #[.string a.row, .string a.fam, .string a.qual, .int .u64 a.time] 24)).alloc (Obj.cells #[.string b.row, .string b.fam, .string b.qual, .int .u64 b.time] 24)) := ⟨_, rfl⟩
  rw [← hw2] at B2' HA' ⊢
  have z2 : w2.heap.size = w.heap.size + 2 := by rw [hw2]; simp
  obtain ⟨N, hN⟩ : ∃ N, N = w.heap.size := ⟨_, rfl⟩
  rw [← hN] at HA' z2 ⊢
  have B2 : Below N w w2 := by rw [hN]; exact B2'
  have HN : Hid (N = w.heap.size) := hN
  clear hw2 B2' hN
  have HS : Hid (∀ V, Below w2.heap.size w2 V → (V.cell? ⟨N, 0, none⟩ = some (.string a.row) ∧ V.cell? ⟨N, 1, none⟩ = some (.string a.fam) ∧ V.cell? ⟨N, 2, none⟩ = some (.string a.qual) ∧ V.cell? ⟨N, 3, none⟩ = some (.int .u64 a.time)) ∧ (V.cell? ⟨N + 1, 0, none⟩ = some (.string b.row) ∧ V.cell? ⟨N + 1, 1, none⟩ = some (.string b.fam) ∧ V.cell? ⟨N + 1, 2, none⟩ = some (.string b.qual) ∧ V.cell? ⟨N + 1, 3, none⟩ = some (.int .u64 b.time))) := by
    intro V hV
    have e1 : ∀ i, V.cell? ⟨N, i, none⟩ = w2.cell? ⟨N, i, none⟩ := fun i => hV.cell (by show N < _; omega)
    have e2 : ∀ i, V.cell? ⟨N + 1, i, none⟩ = w2.cell? ⟨N + 1, i, none⟩ := fun i => hV.cell (by show N + 1 < _; omega)
    rw [e1, e1, e1, e1, e2, e2, e2, e2]
    exact ⟨⟨(HA' 0 (by omega)).1, (HA' 1 (by omega)).1, (HA' 2 (by omega)).1, (HA' 3 (by omega)).1⟩, (HA' 0 (by omega)).2, (HA' 1 (by omega)).2, (HA' 2 (by omega)).2, (HA' 3 (by omega)).2⟩
  clear HA'
  have BD : Below w2.heap.size w2 w2.drew := (Below.refl _ _).drew
  refine wp_region_noPanic ?_
  refine wp_region_held_drew (S := fun V => (V.cell? ⟨N, 0, none⟩ = some (.string a.row) ∧ V.cell? ⟨N, 1, none⟩ = some (.string a.fam) ∧ V.cell? ⟨N, 2, none⟩ = some (.string a.qual) ∧ V.cell? ⟨N, 3, none⟩ = some (.int .u64 a.time)) ∧ (V.cell? ⟨N + 1, 0, none⟩ = some (.string b.row) ∧ V.cell? ⟨N + 1, 1, none⟩ = some (.string b.fam) ∧ V.cell? ⟨N + 1, 2, none⟩ = some (.string b.qual) ∧ V.cell? ⟨N + 1, 3, none⟩ = some (.int .u64 b.time))) (by kernel_rfl) (HS.out _ BD) (fun hH => ?_)
  obtain ⟨wd, hwd⟩ : ∃ wd, wd = w2.drew := ⟨_, rfl⟩
  rw [← hwd] at hH BD ⊢
  clear hwd
  refine hr_take 0 (some 5) (.pointer (some ⟨N, 0, none⟩)) rfl rfl (by kernel_rfl) (by kernel_rfl) (by kernel_rfl) rfl (fun W hW => by obtain ⟨⟨h1, h2, h3, h4⟩, h5, h6, h7, h8⟩ := hW; go_simp) hH ?_
  simp only [Act.put, List.setIfInBounds_toArray, List.set_cons_zero, List.set_cons_succ]
  refine hr_take 1 (some 6) (.string a.row) rfl rfl (by kernel_rfl) (by kernel_rfl) (by kernel_rfl) rfl (fun W hW => by obtain ⟨⟨h1, h2, h3, h4⟩, h5, h6, h7, h8⟩ := hW; go_simp) hH ?_
  simp only [Act.put, List.setIfInBounds_toArray, List.set_cons_zero, List.set_cons_succ]
  refine hr_take 2 (some 7) (.pointer (some ⟨N + 1, 0, none⟩)) rfl rfl (by kernel_rfl) (by kernel_rfl) (by kernel_rfl) rfl (fun W hW => by obtain ⟨⟨h1, h2, h3, h4⟩, h5, h6, h7, h8⟩ := hW; go_simp) hH ?_
  simp only [Act.put, List.setIfInBounds_toArray, List.set_cons_zero, List.set_cons_succ]
  refine hr_take 3 (some 8) (.string b.row) rfl rfl (by kernel_rfl) (by kernel_rfl) (by kernel_rfl) rfl (fun W hW => by obtain ⟨⟨h1, h2, h3, h4⟩, h5, h6, h7, h8⟩ := hW; go_simp) hH ?_
  simp only [Act.put, List.setIfInBounds_toArray, List.set_cons_zero, List.set_cons_succ]
  refine hr_take 5 (some 10) (.pointer (some ⟨N, 1, none⟩)) rfl rfl (by kernel_rfl) (by kernel_rfl) (by kernel_rfl) rfl (fun W hW => by obtain ⟨⟨h1, h2, h3, h4⟩, h5, h6, h7, h8⟩ := hW; go_simp) hH ?_
  simp only [Act.put, List.setIfInBounds_toArray, List.set_cons_zero, List.set_cons_succ]
  refine hr_take 6 (some 11) (.string a.fam) rfl rfl (by kernel_rfl) (by kernel_rfl) (by kernel_rfl) rfl (fun W hW => by obtain ⟨⟨h1, h2, h3, h4⟩, h5, h6, h7, h8⟩ := hW; go_simp) hH ?_
  simp only [Act.put, List.setIfInBounds_toArray, List.set_cons_zero, List.set_cons_succ]
  refine hr_take 7 (some 12) (.pointer (some ⟨N + 1, 1, none⟩)) rfl rfl (by kernel_rfl) (by kernel_rfl) (by kernel_rfl) rfl (fun W hW => by obtain ⟨⟨h1, h2, h3, h4⟩, h5, h6, h7, h8⟩ := hW; go_simp) hH ?_
  simp only [Act.put, List.setIfInBounds_toArray, List.set_cons_zero, List.set_cons_succ]
  refine hr_take 8 (some 13) (.string b.fam) rfl rfl (by kernel_rfl) (by kernel_rfl) (by kernel_rfl) rfl (fun W hW => by obtain ⟨⟨h1, h2, h3, h4⟩, h5, h6, h7, h8⟩ := hW; go_simp) hH ?_
  simp only [Act.put, List.setIfInBounds_toArray, List.set_cons_zero, List.set_cons_succ]
  refine hr_take 10 (some 15) (.pointer (some ⟨N, 2, none⟩)) rfl rfl (by kernel_rfl) (by kernel_rfl) (by kernel_rfl) rfl (fun W hW => by obtain ⟨⟨h1, h2, h3, h4⟩, h5, h6, h7, h8⟩ := hW; go_simp) hH ?_
  simp only [Act.put, List.setIfInBounds_toArray, List.set_cons_zero, List.set_cons_succ]
  refine hr_take 11 (some 16) (.string a.qual) rfl rfl (by kernel_rfl) (by kernel_rfl) (by kernel_rfl) rfl (fun W hW => by obtain ⟨⟨h1, h2, h3, h4⟩, h5, h6, h7, h8⟩ := hW; go_simp) hH ?_
  simp only [Act.put, List.setIfInBounds_toArray, List.set_cons_zero, List.set_cons_succ]
  refine hr_take 12 (some 17) (.pointer (some ⟨N + 1, 2, none⟩)) rfl rfl (by kernel_rfl) (by kernel_rfl) (by kernel_rfl) rfl (fun W hW => by obtain ⟨⟨h1, h2, h3, h4⟩, h5, h6, h7, h8⟩ := hW; go_simp) hH ?_
  simp only [Act.put, List.setIfInBounds_toArray, List.set_cons_zero, List.set_cons_succ]
  refine hr_take 13 (some 18) (.string b.qual) rfl rfl (by kernel_rfl) (by kernel_rfl) (by kernel_rfl) rfl (fun W hW => by obtain ⟨⟨h1, h2, h3, h4⟩, h5, h6, h7, h8⟩ := hW; go_simp) hH ?_
  simp only [Act.put, List.setIfInBounds_toArray, List.set_cons_zero, List.set_cons_succ]
  refine hr_take 15 (some 20) (.pointer (some ⟨N + 1, 3, none⟩)) rfl rfl (by kernel_rfl) (by kernel_rfl) (by kernel_rfl) rfl (fun W hW => by obtain ⟨⟨h1, h2, h3, h4⟩, h5, h6, h7, h8⟩ := hW; go_simp) hH ?_
  simp only [Act.put, List.setIfInBounds_toArray, List.set_cons_zero, List.set_cons_succ]
  refine hr_take 16 (some 21) (.int .u64 b.time) rfl rfl (by kernel_rfl) (by kernel_rfl) (by kernel_rfl) rfl (fun W hW => by obtain ⟨⟨h1, h2, h3, h4⟩, h5, h6, h7, h8⟩ := hW; go_simp) hH ?_
  simp only [Act.put, List.setIfInBounds_toArray, List.set_cons_zero, List.set_cons_succ]
  refine hr_take 17 (some 22) (.pointer (some ⟨N, 3, none⟩)) rfl rfl (by kernel_rfl) (by kernel_rfl) (by kernel_rfl) rfl (fun W hW => by obtain ⟨⟨h1, h2, h3, h4⟩, h5, h6, h7, h8⟩ := hW; go_simp) hH ?_
  simp only [Act.put, List.setIfInBounds_toArray, List.set_cons_zero, List.set_cons_succ]
  refine hr_take 18 (some 23) (.int .u64 a.time) rfl rfl (by kernel_rfl) (by kernel_rfl) (by kernel_rfl) rfl (fun W hW => by obtain ⟨⟨h1, h2, h3, h4⟩, h5, h6, h7, h8⟩ := hW; go_simp) hH ?_
  simp only [Act.put, List.setIfInBounds_toArray, List.set_cons_zero, List.set_cons_succ]
  refine hr_call 4 (some 9) 30 #[.string a.row, .string b.row] rfl rfl (by kernel_rfl) rfl (by go_simp) (fun v w' => v = .int .i64 (cmpL (sb a.row) (sb b.row)) ∧ w' = wd) ((pcomps_any wd a.row b.row).mono (by
    rintro e w' ⟨rfl, hw⟩
    exact ⟨_, rfl, rfl, hw⟩)) ?_
  rintro v u ⟨rfl, hu⟩
  obtain rfl := hu.symm
  refine ⟨hH, ?_⟩
  simp only [Act.put, List.setIfInBounds_toArray, List.set_cons_zero, List.set_cons_succ]
  refine hr_call 9 (some 14) 30 #[.string a.fam, .string b.fam] rfl rfl (by kernel_rfl) rfl (by go_simp) (fun v w' => v = .int .i64 (cmpL (sb a.fam) (sb b.fam)) ∧ w' = wd) ((pcomps_any wd a.fam b.fam).mono (by
    rintro e w' ⟨rfl, hw⟩
    exact ⟨_, rfl, rfl, hw⟩)) ?_
  rintro v u ⟨rfl, hu⟩
  obtain rfl := hu.symm
  refine ⟨hH, ?_⟩
  simp only [Act.put, List.setIfInBounds_toArray, List.set_cons_zero, List.set_cons_succ]
  refine hr_call 14 (some 19) 30 #[.string a.qual, .string b.qual] rfl rfl (by kernel_rfl) rfl (by go_simp) (fun v w' => v = .int .i64 (cmpL (sb a.qual) (sb b.qual)) ∧ w' = wd) ((pcomps_any wd a.qual b.qual).mono (by
    rintro e w' ⟨rfl, hw⟩
    exact ⟨_, rfl, rfl, hw⟩)) ?_
  rintro v u ⟨rfl, hu⟩
  obtain rfl := hu.symm
  refine ⟨hH, ?_⟩
  simp only [Act.put, List.setIfInBounds_toArray, List.set_cons_zero, List.set_cons_succ]
  refine hr_call 19 (some 24) 31 #[.int .u64 b.time, .int .u64 a.time] rfl rfl (by kernel_rfl) rfl (by go_simp) (fun v w' => v = .int .i64 (cmpT a.time b.time) ∧ w' = wd) ((pcompt_any wd a.time b.time).mono (by
    rintro e w' ⟨rfl, hw⟩
    exact ⟨_, rfl, rfl, hw⟩)) ?_
  rintro v u ⟨rfl, hu⟩
  obtain rfl := hu.symm
  refine ⟨hH, ?_⟩
  simp only [Act.put, List.setIfInBounds_toArray, List.set_cons_zero, List.set_cons_succ]
  obtain ⟨w4, hw4⟩ : ∃ W, W = wd.alloc (Obj.cells #[.int .i64 (cmpL (sb a.row) (sb b.row)), .int .i64 (cmpL (sb a.fam) (sb b.fam)), .int .i64 (cmpL (sb a.qual) (sb b.qual)), .int .i64 (cmpT a.time b.time)] 3) := ⟨_, rfl⟩
  obtain ⟨g, hg⟩ : ∃ g, g = wd.heap.size := ⟨_, rfl⟩
  have BE : Below w2.heap.size w2 w4 := by rw [hw4]; exact BD.alloc BD.size _
  have hH4 := HS.out w4 BE
  have e4 : w4.heap[g]? = some (.cells #[.int .i64 (cmpL (sb a.row) (sb b.row)), .int .i64 (cmpL (sb a.fam) (sb b.fam)), .int .i64 (cmpL (sb a.qual) (sb b.qual)), .int .i64 (cmpT a.time b.time)] 3) := by rw [hw4, hg]; exact heap_alloc_new wd _
  refine hr_do 20 (some 25) (.slice (some ⟨g, 0, none⟩) 4 4) rfl rfl (by kernel_rfl) rfl (w' := w4) (by rw [hw4, hg]; go_simp) hH4 ?_
  simp only [Act.put, List.setIfInBounds_toArray, List.set_cons_zero, List.set_cons_succ]
  have BF : Below N w w4 := B2.trans (BE.mono (by omega))
  clear hw4 hg BE hH BD B2 z2
  refine hr_call 21 (some 26) 29 #[.slice (some ⟨g, 0, none⟩) 4 4] rfl rfl (by kernel_rfl) rfl (by go_simp) (fun v w' => v = .int .i64 (orL [cmpL (sb a.row) (sb b.row), cmpL (sb a.fam) (sb b.fam), cmpL (sb a.qual) (sb b.qual), cmpT a.time b.time]) ∧ w' = w4) ((por_any w4 g _ _ _ _ e4).mono (by
    rintro e w' ⟨rfl, hw⟩
    exact ⟨_, rfl, rfl, hw⟩)) ?_
  rintro v u ⟨rfl, hu⟩
  obtain rfl := hu.symm
  refine ⟨hH4, ?_⟩
  simp only [Act.put, List.setIfInBounds_toArray, List.set_cons_zero, List.set_cons_succ]
  refine hr_take 22 (some 4) (.int .i64 (orL [cmpL (sb a.row) (sb b.row), cmpL (sb a.fam) (sb b.fam), cmpL (sb a.qual) (sb b.qual), cmpT a.time b.time])) rfl rfl (by kernel_rfl) (by kernel_rfl) (by kernel_rfl) rfl (fun W hW => by go_simp) hH4 ?_
  simp only [Act.put, List.setIfInBounds_toArray, List.set_cons_zero, List.set_cons_succ]
  refine wpAnyH_done (by kernel_rfl) ?_ _
  refine NoPanic.normal ?_
  rw [show orL [cmpL (sb a.row) (sb b.row), cmpL (sb a.fam) (sb b.fam), cmpL (sb a.qual) (sb b.qual), cmpT a.time b.time] = cmpK a.kv b.kv from cmpK_or a.kv b.kv]
  go_wp2
  go_ret
  exact ⟨rfl, by rw [← HN.out]; exact BF⟩
end Go.Proofs.Ytepkjnklapamjaa
