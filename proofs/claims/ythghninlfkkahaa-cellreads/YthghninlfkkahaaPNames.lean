/-
  The program's namesOf, appendName, Right.
-/
import Derived.Test.YthghninlfkkahaaCEsc
namespace Go.Proofs.Ythghninlfkkahaa
open Go.RowKit

theorem toE (s : ByteArray) : s.toList.isEmpty = decide (s.size = 0) := by
  rw [ByteArray.toList_eq]
  unfold ByteArray.size
  cases h : s.data.toList with
  | nil =>
    have h2 := congrArg List.length h
    have h3 : s.data.size = 0 := by simpa using h2
    simp [h3]
  | cons a t =>
    have h2 := congrArg List.length h
    have h3 : s.data.size ≠ 0 := by
      intro h4
      rw [Array.length_toList, h4, List.length_cons] at h2
      omega
    exact (decide_eq_false h3).symm

/-- A key's cells, and its names. -/
def KA.cs (k : KA) : Array Value := #[.string k.row, .string k.fam, .string k.qual, .int .u64 k.time]
def KA.nv (k : KA) : Value := .agg #[.string k.row, .string k.fam, .string k.qual]

set_option maxRecDepth 100000 in
set_option maxHeartbeats 2000000 in
theorem pnames_any (w : World) (k : KA) :
    Calls Try.prog 15 #[k.val] w fun e w' => e = .returned k.nv ∧ Below w.heap.size w w' := by
  have B : Below w.heap.size w ((w.alloc (Obj.cells #[.string k.row, .string k.fam, .string k.qual, .int .u64 k.time] 26)).alloc (Obj.cells #[.string k.row, .string k.fam, .string k.qual] 37)) := ((Below.refl _ w).alloc (Nat.le_refl _) _).alloc (by simp) _
  unfold KA.val KA.nv
  go_enter Try.func15, Try.ntmps15
  go_wp2
  exact bodyPost_ret (v := .agg #[.string k.row, .string k.fam, .string k.qual]) (by simp [results, Try.results15, go_sem]) rfl ⟨rfl, B⟩

set_option maxHeartbeats 2000000 in
set_option maxRecDepth 100000 in
theorem pname_any (w : World) (base : Nat) (v : Value) (n : Nat) (xs : List Int) (s : ByteArray) (hown : w.ownsRow base 5 1 v n (bv xs)) (hbase : base ≤ w.heap.size) (hn : n ≤ 1000000) (hs : s.size ≤ 1000000) :
    Calls Try.prog 16 #[v, .string s] w fun e w' =>
      ∃ v', e = .returned v' ∧ w'.ownsRow base 5 1 v' (n + (nm (sb s)).length) (bv (xs ++ nm (sb s))) ∧ Below base w w' := by
  go_enter Try.func16, Try.ntmps16
  go_wp2_with fail
  go_loopw [0, 8] (fun b i wr => ∃ k : Nat, k ≤ s.size ∧ i = .int .i64 k ∧ wr.ownsRow base 5 1 b (n + (esc ((sb s).take k)).length) (bv (xs ++ esc ((sb s).take k))) ∧ Below base w wr) (fun _ i _ => s.size - (intOf i).toNat)
  case atStart => exact ⟨0, by omega, rfl, by simpa [esc] using hown, Below.refl _ _⟩
  case round =>
    clear hown
    obtain ⟨k, hk, rfl, O, B⟩ := hrel
    have hsz := B.size
    have hl : (esc ((sb s).take k)).length ≤ 2 * k := by
      have h1 := esc_len ((sb s).take k)
      have h2 : ((sb s).take k).length ≤ k := by simp; omega
      omega
    by_cases l1 : k < s.size
    · have i1 : (k : Int) < (s.size : Int) := by omega
      obtain ⟨x, hx⟩ : ∃ x : Nat, x = s[k].toNat := ⟨_, rfl⟩
      have hx8 : x < 256 := by rw [hx]; exact s[k].toNat_lt
      have r1 : ∀ W : World, (Instr.index 9 (.string s) (.int .i64 k)).run Try.prog W = .ok (.int .u8 x) W := fun W => by
        rw [run_index_string W _ s _ _ Try.underlying9, dif_pos ⟨by omega, i1⟩, hx]
        rfl
      have ht : Hid (esc ((sb s).take (k + 1)) = esc ((sb s).take k) ++ (if (x : Int) = 0 then [0, 255] else [(x : Int)])) := by
        show _ = _
        rw [sb_take s k l1, esc_append, ← hx]
        simp [esc]
      clear hx
      obtain ⟨p, hp⟩ : ∃ p, p = esc ((sb s).take k) := ⟨_, rfl⟩
      rw [← hp] at O hl ht
      clear hp
      by_cases hz : x = 0
      · subst hz
        go_wp2_with (first
          | (at_builtin; refine wpList_app rfl (.tmp 11) (.tmp 15) rfl base _ _ _ rfl (O.alloc _) _ 1 1 [0] rfl (Sl.one wr _ (by omega)) (by omega) (by simp; omega) ?_; intro v2 w2 O2 C2; have D2 : Below base w w2 := (B.alloc (by omega) _).trans C2; have s2 := D2.size; clear C2 O)
          | (at_builtin; refine wpList_app rfl (.tmp 21) (.tmp 22) rfl base _ _ _ rfl (O2.alloc _) _ 1 1 [255] rfl (Sl.one w2 _ (by omega)) (by omega) (by simp; omega) ?_; intro v3 w3 O3 C3; have D3 : Below base w w3 := (D2.alloc (by omega) _).trans C3; clear C3 O2))
        have O4 : w3.ownsRow base 5 1 v3 (n + (esc ((sb s).take (k + 1))).length) (bv (xs ++ esc ((sb s).take (k + 1)))) := by
          rw [ht.out]
          simpa [Nat.add_assoc] using O3
        go_roundw
        case rel => exact ⟨k + 1, by omega, by go_num, O4, D3⟩
        case measure => simp [intOf]; omega
      · have f1 : ((x : Int) == 0) = false := by simp; omega
        have hz' : ¬ (x : Int) = 0 := by omega
        go_wp2_with (at_builtin; refine wpList_app rfl (.tmp 11) (.tmp 15) rfl base _ _ _ rfl (O.alloc _) _ 1 1 [(x : Int)] rfl (Sl.one wr _ (by omega)) (by omega) (by simp; omega) ?_; intro v2 w2 O2 C2; have D2 : Below base w w2 := (B.alloc (by omega) _).trans C2; clear C2 O)
        have O4 : w2.ownsRow base 5 1 v2 (n + (esc ((sb s).take (k + 1))).length) (bv (xs ++ esc ((sb s).take (k + 1)))) := by
          rw [ht.out, if_neg hz']
          simpa [Nat.add_assoc] using O2
        go_roundw
        case rel => exact ⟨k + 1, by omega, by go_num, O4, D2⟩
        case measure => simp [intOf]; omega
    · have i1 : (s.size : Int) ≤ (k : Int) := by omega
      have ht : (sb s).take k = sb s := List.take_of_length_le (by rw [sb_len]; omega)
      rw [ht] at O hl
      clear ht
      go_wp2_with (at_builtin; refine wpList_app rfl (.tmp 25) (.tmp 26) rfl base _ _ _ rfl (O.alloc _) _ 2 2 [0, 1] rfl (Sl.new wr [0, 1] (by intro y hy; simp at hy; omega) (by simp [maxLen])) (by omega) (by simp; omega) ?_; intro v2 w2 O2 C2; have D2 : Below base w w2 := (B.alloc (by omega) _).trans C2; clear C2 O)
      have O3 : w2.ownsRow base 5 1 v2 (n + (nm (sb s)).length) (bv (xs ++ nm (sb s))) := by
        rw [nm_esc]
        simpa [Nat.add_assoc] using O2
      clear O2
      go_ret
      exact ⟨v2, rfl, O3, D2⟩

set_option maxRecDepth 100000 in
set_option maxHeartbeats 2000000 in
theorem pright_any (w : World) (k : KA) :
    Calls Try.prog 12 #[k.val] w fun e w' => e = .returned (.int .i64 k.kind) ∧ Below w.heap.size w w' := by
  have B0 : Below w.heap.size w (w.alloc (Obj.cells #[.string k.row, .string k.fam, .string k.qual, .int .u64 k.time] 26)) := (Below.refl _ w).alloc (Nat.le_refl _) _
  have K0 : ∀ i, (w.alloc (Obj.cells #[.string k.row, .string k.fam, .string k.qual, .int .u64 k.time] 26)).cell? ⟨w.heap.size, i, none⟩ = #[Value.string k.row, .string k.fam, .string k.qual, .int .u64 k.time][i]? := fun i => World.cell?_alloc_at _ _ _ _ rfl
  have no : Hid (∀ (_ : ¬ (1 ≤ k.row.size ∧ k.row.size ≤ 32 ∧ 1 ≤ k.fam.size ∧ k.fam.size ≤ 32 ∧ k.qual.size ≤ 32)), k.kind = 5) := fun h => by
    unfold KA.kind KA.isRight
    rw [decide_eq_false h]
    rfl
  have yes : Hid (∀ (_ : (1 ≤ k.row.size ∧ k.row.size ≤ 32 ∧ 1 ≤ k.fam.size ∧ k.fam.size ≤ 32 ∧ k.qual.size ≤ 32)), k.kind = 0) := fun h => by
    unfold KA.kind KA.isRight
    rw [decide_eq_true h]
    rfl
  obtain ⟨N, hN⟩ : ∃ N, N = w.heap.size := ⟨_, rfl⟩
  unfold KA.val
  go_enter Try.func12, Try.ntmps12
  go_wp2_with fail
  obtain ⟨w1, hw1⟩ : ∃ W, W = (w.alloc (Obj.cells #[.string k.row, .string k.fam, .string k.qual, .int .u64 k.time] 26)) := ⟨_, rfl⟩
  have z1 : w1.heap.size = w.heap.size + 1 := by rw [hw1]; simp
  rw [← hw1] at B0 K0 ⊢
  refine (pnames_any w1 k).mono ?_
  rintro e w2 ⟨rfl, C2⟩
  have B2 := B0.trans (C2.mono B0.size)
  have q0 : w2.cell? ⟨N, 0, none⟩ = some (.string k.row) := (C2.cell (by show N < _; omega)).trans ((hN ▸ K0 0 :))
  have q1 : w2.cell? ⟨N, 1, none⟩ = some (.string k.fam) := (C2.cell (by show N < _; omega)).trans ((hN ▸ K0 1 :))
  unfold KA.nv
  rw [← hN]
  have i0 : ∀ w, (Instr.index 37 (.agg #[.string k.row, .string k.fam, .string k.qual]) (.int .i64 0)).run Try.prog w = .ok (.string k.row) w := fun _ => by kernel_rfl
  have i1 : ∀ w, (Instr.index 37 (.agg #[.string k.row, .string k.fam, .string k.qual]) (.int .i64 1)).run Try.prog w = .ok (.string k.fam) w := fun _ => by kernel_rfl
  have i2 : ∀ w, (Instr.index 37 (.agg #[.string k.row, .string k.fam, .string k.qual]) (.int .i64 2)).run Try.prog w = .ok (.string k.qual) w := fun _ => by kernel_rfl
  clear hN z1 hw1 K0 B0 C2
  go_wp2_with fail
  go_loopw [4, 7] (fun s i wr => wr = w2 ∧ ∃ j : Nat, i = .int .i64 j ∧ j ≤ 3 ∧ (0 < j → k.row.size ≤ 32) ∧ (1 < j → k.fam.size ≤ 32) ∧ (2 < j → k.qual.size ≤ 32)) (fun _ i _ => 3 - (intOf i).toNat)
  case atStart => exact ⟨rfl, 0, rfl, by omega, by omega, by omega, by omega⟩
  case round =>
    obtain ⟨rfl, j, rfl, hj, h1, h2, h3⟩ := hrel
    obtain rfl | rfl | rfl | rfl : j = 0 ∨ j = 1 ∨ j = 2 ∨ j = 3 := by omega
    · by_cases l : 32 < k.row.size
      · have il : (32 : Int) < (k.row.size : Int) := by omega
        have hv : Hid (k.kind = 5) := no.out (by omega)
        go_wp2
        go_ret
        exact ⟨by rw [hv.out] <;> rfl, B2⟩
      · have il : (k.row.size : Int) ≤ 32 := by omega
        go_wp2
        go_roundw
        case rel => exact ⟨trivial, 1, rfl, by omega, by omega, by omega, by omega⟩
        case measure => simp [intOf]
    · by_cases l : 32 < k.fam.size
      · have il : (32 : Int) < (k.fam.size : Int) := by omega
        have hv : Hid (k.kind = 5) := no.out (by omega)
        go_wp2
        go_ret
        exact ⟨by rw [hv.out] <;> rfl, B2⟩
      · have il : (k.fam.size : Int) ≤ 32 := by omega
        go_wp2
        go_roundw
        case rel => exact ⟨trivial, 2, rfl, by omega, by omega, by omega, by omega⟩
        case measure => simp [intOf]
    · by_cases l : 32 < k.qual.size
      · have il : (32 : Int) < (k.qual.size : Int) := by omega
        have hv : Hid (k.kind = 5) := no.out (by omega)
        go_wp2
        go_ret
        exact ⟨by rw [hv.out] <;> rfl, B2⟩
      · have il : (k.qual.size : Int) ≤ 32 := by omega
        go_wp2
        go_roundw
        case rel => exact ⟨trivial, 3, rfl, by omega, by omega, by omega, by omega⟩
        case measure => simp [intOf]
    · by_cases r0 : k.row.size = 0
      · have e0 : k.row.toList.isEmpty = true := by rw [toE]; exact decide_eq_true r0
        have hv : Hid (k.kind = 5) := no.out (by omega)
        go_wp2
        go_ret
        exact ⟨by rw [hv.out] <;> rfl, B2⟩
      · have e0 : k.row.toList.isEmpty = false := by rw [toE]; exact decide_eq_false r0
        by_cases f0 : k.fam.size = 0
        · have e2 : k.fam.toList.isEmpty = true := by rw [toE]; exact decide_eq_true f0
          have hv : Hid (k.kind = 5) := no.out (by omega)
          go_wp2
          go_ret
          exact ⟨by rw [hv.out] <;> rfl, B2⟩
        · have e2 : k.fam.toList.isEmpty = false := by rw [toE]; exact decide_eq_false f0
          have hv : Hid (k.kind = 0) := yes.out (by omega)
          go_wp2
          go_ret
          exact ⟨by rw [hv.out] <;> rfl, B2⟩
end Go.Proofs.Ythghninlfkkahaa
