/-
  The program's namesOf, appendName, Right.
-/
import Derived.Test.YtbfcilfdeemnpaaCEsc
namespace Go.Proofs.Ytbfcilfdeemnpaa
open Go.RowKit

theorem toE (s : ByteArray) : s.toList.isEmpty = decide (s.size = 0) := by
  rw [ByteArray.toList_eq]
  unfold ByteArray.size
  cases h : s.data.toList with
  | nil =>
    have h2 := congrArg List.length h
    have h3 : s.data.size = 0 := by simpa using h2
    simp [h3]
  | cons a t =>
    have h2 := congrArg List.length h
    have h3 : s.data.size ≠ 0 := by
      intro h4
      rw [Array.length_toList, h4, List.length_cons] at h2
      omega
    exact (decide_eq_false h3).symm

/-- A key's cells, and its names. -/
def KA.cs (k : KA) : Array Value := #[.string k.row, .string k.fam, .string k.qual, .int .u64 k.time]
def KA.nv (k : KA) : Value := .agg #[.string k.row, .string k.fam, .string k.qual]

set_option maxRecDepth 100000 in
set_option maxHeartbeats 2000000 in
theorem pnames_any (w : World) (k : KA) :
    Calls Try.prog 77 #[k.val] w fun e w' => e = .returned k.nv ∧ Below w.heap.size w w' := by
  have B : Below w.heap.size w ((w.alloc (Obj.cells #[.string k.row, .string k.fam, .string k.qual, .int .u64 k.time] 24)).alloc (Obj.cells #[.string k.row, .string k.fam, .string k.qual] 100)) := ((Below.refl _ w).alloc (Nat.le_refl _) _).alloc (by simp) _
  unfold KA.val KA.nv
  go_enter Try.func77, Try.ntmps77
  go_wp2
  exact bodyPost_ret (v := .agg #[.string k.row, .string k.fam, .string k.qual]) (by simp [results, Try.results77, go_sem]) rfl ⟨rfl, B⟩

set_option maxRecDepth 100000 in
set_option maxHeartbeats 2000000 in
theorem pright_any (w : World) (k : KA) :
    Calls Try.prog 72 #[k.val] w fun e w' => e = .returned (.int .i64 k.kind) ∧ Below w.heap.size w w' := by
  have B0 : Below w.heap.size w (w.alloc (Obj.cells #[.string k.row, .string k.fam, .string k.qual, .int .u64 k.time] 24)) := (Below.refl _ w).alloc (Nat.le_refl _) _
  have K0 : ∀ i, (w.alloc (Obj.cells #[.string k.row, .string k.fam, .string k.qual, .int .u64 k.time] 24)).cell? ⟨w.heap.size, i, none⟩ = #[Value.string k.row, .string k.fam, .string k.qual, .int .u64 k.time][i]? := fun i => World.cell?_alloc_at _ _ _ _ rfl
  have no : Hid (∀ (_ : ¬ (1 ≤ k.row.size ∧ k.row.size ≤ 32 ∧ 1 ≤ k.fam.size ∧ k.fam.size ≤ 32 ∧ k.qual.size ≤ 32)), k.kind = 5) := fun h => by
    unfold KA.kind KA.isRight
    rw [decide_eq_false h]
    rfl
  have yes : Hid (∀ (_ : (1 ≤ k.row.size ∧ k.row.size ≤ 32 ∧ 1 ≤ k.fam.size ∧ k.fam.size ≤ 32 ∧ k.qual.size ≤ 32)), k.kind = 0) := fun h => by
    unfold KA.kind KA.isRight
    rw [decide_eq_true h]
    rfl
  obtain ⟨N, hN⟩ : ∃ N, N = w.heap.size := ⟨_, rfl⟩
  unfold KA.val
  go_enter Try.func72, Try.ntmps72
  go_wp2_with fail
  obtain ⟨w1, hw1⟩ : ∃ W, W = (w.alloc (Obj.cells #[.string k.row, .string k.fam, .string k.qual, .int .u64 k.time] 24)) := ⟨_, rfl⟩
  have z1 : w1.heap.size = w.heap.size + 1 := by rw [hw1]; simp
  rw [← hw1] at B0 K0 ⊢
  refine (pnames_any w1 k).mono ?_
  rintro e w2 ⟨rfl, C2⟩
  have B2 := B0.trans (C2.mono B0.size)
  have q0 : w2.cell? ⟨N, 0, none⟩ = some (.string k.row) := (C2.cell (by show N < _; omega)).trans ((hN ▸ K0 0 :))
  have q1 : w2.cell? ⟨N, 1, none⟩ = some (.string k.fam) := (C2.cell (by show N < _; omega)).trans ((hN ▸ K0 1 :))
  unfold KA.nv
  rw [← hN]
  have i0 : ∀ w, (Instr.index 100 (.agg #[.string k.row, .string k.fam, .string k.qual]) (.int .i64 0)).run Try.prog w = .ok (.string k.row) w := fun _ => by kernel_rfl
  have i1 : ∀ w, (Instr.index 100 (.agg #[.string k.row, .string k.fam, .string k.qual]) (.int .i64 1)).run Try.prog w = .ok (.string k.fam) w := fun _ => by kernel_rfl
  have i2 : ∀ w, (Instr.index 100 (.agg #[.string k.row, .string k.fam, .string k.qual]) (.int .i64 2)).run Try.prog w = .ok (.string k.qual) w := fun _ => by kernel_rfl
  clear hN z1 hw1 K0 B0 C2
  go_wp2_with fail
  go_loopw [4, 7] (fun s i wr => wr = w2 ∧ ∃ j : Nat, i = .int .i64 j ∧ j ≤ 3 ∧ (0 < j → k.row.size ≤ 32) ∧ (1 < j → k.fam.size ≤ 32) ∧ (2 < j → k.qual.size ≤ 32)) (fun _ i _ => 3 - (intOf i).toNat)
  case atStart => exact ⟨rfl, 0, rfl, by omega, by omega, by omega, by omega⟩
  case round =>
    obtain ⟨rfl, j, rfl, hj, h1, h2, h3⟩ := hrel
    obtain rfl | rfl | rfl | rfl : j = 0 ∨ j = 1 ∨ j = 2 ∨ j = 3 := by omega
    · by_cases l : 32 < k.row.size
      · have il : (32 : Int) < (k.row.size : Int) := by omega
        have hv : Hid (k.kind = 5) := no.out (by omega)
        go_wp2
        go_ret
        exact ⟨by rw [hv.out] <;> rfl, B2⟩
      · have il : (k.row.size : Int) ≤ 32 := by omega
        go_wp2
        go_roundw
        case rel => exact ⟨trivial, 1, rfl, by omega, by omega, by omega, by omega⟩
        case measure => simp [intOf]
    · by_cases l : 32 < k.fam.size
      · have il : (32 : Int) < (k.fam.size : Int) := by omega
        have hv : Hid (k.kind = 5) := no.out (by omega)
        go_wp2
        go_ret
        exact ⟨by rw [hv.out] <;> rfl, B2⟩
      · have il : (k.fam.size : Int) ≤ 32 := by omega
        go_wp2
        go_roundw
        case rel => exact ⟨trivial, 2, rfl, by omega, by omega, by omega, by omega⟩
        case measure => simp [intOf]
    · by_cases l : 32 < k.qual.size
      · have il : (32 : Int) < (k.qual.size : Int) := by omega
        have hv : Hid (k.kind = 5) := no.out (by omega)
        go_wp2
        go_ret
        exact ⟨by rw [hv.out] <;> rfl, B2⟩
      · have il : (k.qual.size : Int) ≤ 32 := by omega
        go_wp2
        go_roundw
        case rel => exact ⟨trivial, 3, rfl, by omega, by omega, by omega, by omega⟩
        case measure => simp [intOf]
    · by_cases r0 : k.row.size = 0
      · have e0 : k.row.toList.isEmpty = true := by rw [toE]; exact decide_eq_true r0
        have hv : Hid (k.kind = 5) := no.out (by omega)
        go_wp2
        go_ret
        exact ⟨by rw [hv.out] <;> rfl, B2⟩
      · have e0 : k.row.toList.isEmpty = false := by rw [toE]; exact decide_eq_false r0
        by_cases f0 : k.fam.size = 0
        · have e2 : k.fam.toList.isEmpty = true := by rw [toE]; exact decide_eq_true f0
          have hv : Hid (k.kind = 5) := no.out (by omega)
          go_wp2
          go_ret
          exact ⟨by rw [hv.out] <;> rfl, B2⟩
        · have e2 : k.fam.toList.isEmpty = false := by rw [toE]; exact decide_eq_false f0
          have hv : Hid (k.kind = 0) := yes.out (by omega)
          go_wp2
          go_ret
          exact ⟨by rw [hv.out] <;> rfl, B2⟩
end Go.Proofs.Ytbfcilfdeemnpaa
