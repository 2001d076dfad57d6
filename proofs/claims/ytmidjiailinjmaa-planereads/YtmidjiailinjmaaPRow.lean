/-
  The program's Row.
-/
import Derived.Test.YtmidjiailinjmaaPGat
import Derived.Test.YtmidjiailinjmaaPArr
namespace Go.Proofs.Ytmidjiailinjmaa
open Go.RowKit

/-- The number of a place: its parts, each with 2^20. -/
def num (X Y : Nat) : Nat := 2 * spr 22 X + spr 22 Y
theorem num_lt (X Y : Nat) : num X Y < 281474976710656 := by
  have h1 := spr_lt 22 X
  have h2 := spr_lt 22 Y
  unfold num
  simp only [show (4 : Nat) ^ 22 = 17592186044416 from rfl] at h1 h2
  omega
theorem num_or (X Y : Nat) : bits BinOp.or IntKind.u64 (IntKind.u64.wrap (((spr 22 X : Nat) : Int) * 2)) ((spr 22 Y : Nat) : Int) = ((num X Y : Nat) : Int) := by
  have h1 := spr_lt 22 X
  have h2 := spr_lt 22 Y
  simp only [show (4 : Nat) ^ 22 = 17592186044416 from rfl] at h1 h2
  have e : ((spr 22 X : Nat) : Int) * 2 = ((2 * spr 22 X : Nat) : Int) := by omega
  rw [e, IntKind.wrap_u64, Int.emod_eq_of_lt (by omega) (by omega)]
  unfold num
  rw [← spr_or]
  exact bits_or_u64_nat _ _ (by omega) (by omega)

set_option maxHeartbeats 2000000 in
set_option maxRecDepth 100000 in
theorem prow_bad (w : World) (a b : Nat) (s t : Bool) (m n : Int) (h : FV a s m) (k : FV b t n) (hp : (inP m && inP n) = false) :
    Calls Try.prog 8 #[.complex .f64 a b] w fun e w' => e = .returned (.tuple #[.string ⟨#[]⟩, .int .i64 1]) ∧ w' = w := by
  go_enter Try.func8, Try.ntmps8
  go_wp2_with fail
  refine (pright_any w a b s t m n h k).mono ?_
  rintro e w' ⟨rfl, hw⟩
  obtain rfl := hw.symm
  rw [hp]
  simp only [Bool.false_eq_true, if_false]
  clear hp
  go_wp2
  go_ret2
  exact ⟨rfl, rfl⟩

set_option maxHeartbeats 2000000 in
set_option maxRecDepth 100000 in
theorem prow_any (w : World) (a b : Nat) (s t : Bool) (m n : Int) (h : FV a s m) (k : FV b t n) (hp : (inP m && inP n) = true) :
    Calls Try.prog 8 #[.complex .f64 a b] w fun e w' => (∃ r, e = .returned (.tuple #[.string r, .int .i64 0]) ∧ sb r = 112 :: be 6 (num (m + 1048576).toNat (n + 1048576).toNat)) ∧ Below w.heap.size w w' := by
  obtain ⟨p1, p2⟩ := Bool.and_eq_true_iff.1 hp
  have q1 := of_decide_eq_true p1
  have q2 := of_decide_eq_true p2
  obtain ⟨M, hM⟩ : ∃ M, M = num (m + 1048576).toNat (n + 1048576).toNat := ⟨_, rfl⟩
  have hM2 : M < 281474976710656 := by rw [hM]; exact num_lt _ _
  have HO : Hid (bits BinOp.or IntKind.u64 (IntKind.u64.wrap (((spr 22 (m + 1048576).toNat : Nat) : Int) * 2)) ((spr 22 (n + 1048576).toNat : Nat) : Int) = (M : Int)) := by rw [hM]; exact num_or _ _
  rw [← hM]
  clear hM
  obtain ⟨x, hx⟩ : ∃ x, x = spr 22 (m + 1048576).toNat := ⟨_, rfl⟩
  obtain ⟨y, hy⟩ : ∃ y, y = spr 22 (n + 1048576).toNat := ⟨_, rfl⟩
  rw [← hx, ← hy] at HO
  have S1 : Hid (∀ W, Calls Try.prog 14 #[.float .f64 a] W fun e w' => e = .returned (.int .u64 x) ∧ w' = W) := fun W => by rw [hx]; exact pspread_any W a s m h q1.1 q1.2
  have S2 : Hid (∀ W, Calls Try.prog 14 #[.float .f64 b] W fun e w' => e = .returned (.int .u64 y) ∧ w' = W) := fun W => by rw [hy]; exact pspread_any W b t n k q2.1 q2.2
  clear hx hy q1 q2 p1 p2
  go_enter Try.func8, Try.ntmps8
  go_wp2_with fail
  refine (pright_any w a b s t m n h k).mono ?_
  rintro e w' ⟨rfl, hw⟩
  obtain rfl := hw.symm
  rw [hp]
  simp only [if_true]
  clear hp
  go_wp2_with fail
  refine (S1.out w).mono ?_
  rintro e w' ⟨rfl, hw⟩
  obtain rfl := hw.symm
  go_wp2_with fail
  refine (S2.out w).mono ?_
  rintro e w' ⟨rfl, hw⟩
  obtain rfl := hw.symm
  go_wp2_with fail
  rw [HO.out]
  clear HO S1 S2 h k
  obtain ⟨w1, hw1⟩ : ∃ W, W = w.alloc (Obj.cells #[.int .u8 112, .int .u8 0, .int .u8 0, .int .u8 0, .int .u8 0, .int .u8 0, .int .u8 0] 45) := ⟨_, rfl⟩
  rw [← hw1]
  have B1 : Below w.heap.size w w1 := by rw [hw1]; exact (Below.refl _ w).alloc (Nat.le_refl _) _
  have A1 : Arr w1 w.heap.size 45 (bv (rowA 0 M)) := by rw [hw1]; exact heap_alloc_new w _
  clear hw1
  obtain ⟨N, hN⟩ : ∃ N, N = w.heap.size := ⟨_, rfl⟩
  rw [← hN] at A1 B1 ⊢
  have HN : Hid (N = w.heap.size) := hN
  clear hN
  go_loopw [7, 22] (fun _ i wr => ∃ j : Nat, j ≤ 6 ∧ i = .int .i64 j ∧ Below N w wr ∧ Arr wr N 45 (bv (rowA j M))) (fun _ i _ => 6 - (intOf i).toNat)
  case atStart => exact ⟨0, by omega, rfl, B1, A1⟩
  case round =>
    obtain ⟨j, hj, rfl, B2, A2⟩ := hrel
    clear A1 B1
    by_cases l : j < 6
    · have il : (j : Int) < 6 := by omega
      have i1 : ((6 : Int) - j).toNat = 6 - j := by omega
      have i2 : 0 ≤ ((6 : Int) - j) := by omega
      have i3 : ((6 : Int) - j) < 7 := by omega
      have c3 := A2.cell (6 - j)
      rw [bv_get _ _ (by rw [rowA_len _ _ hj]; omega)] at c3
      have f3 := A2.free (6 - j)
      go_wp2
      go_roundw
      case rel =>
        have ev : (M : Int) / 2 ^ (8 * j) % 256 = ((M / 256 ^ j % 256 : Nat) : Int) := by
          rw [show (256 : Nat) ^ j = 2 ^ (8 * j) by rw [Nat.pow_mul]]
          push_cast
          rfl
        rw [ev]
        refine ⟨j + 1, by omega, by go_num, B2.setCell (Nat.le_refl _) _, ?_⟩
        have := A2.set (6 - j) (.int .u8 ((M / 256 ^ j % 256 : Nat) : Int))
        rw [bv_set, rowA_set j M l] at this
        exact this
      case measure => simp [intOf]; omega
    · obtain rfl : j = 6 := by omega
      have S3 : Sl wr (some ⟨N, 0, none⟩) 7 7 (rowA 6 M) := by
        refine ⟨rowA_len 6 M (by omega), by omega, by unfold maxLen; omega, fun h => by simp at h, fun a ha i hi => ?_, rowA_byte 6 M⟩
        obtain rfl := Option.some.inj ha
        rw [add_at', Nat.zero_add, A2.cell, bv_get _ _ (by rw [rowA_len _ _ (by omega)]; omega)]
      have hcv := conv_str S3
      have HS : Hid (sb (strOfNums (rowA 6 M)) = 112 :: be 6 M) := sb_str (rowA_byte 6 M)
      obtain ⟨r, hr⟩ : ∃ r, r = strOfNums (rowA 6 M) := ⟨_, rfl⟩
      rw [← hr] at hcv HS
      clear hr S3 A2
      go_wp2
      go_ret2
      exact ⟨⟨r, rfl, HS.out⟩, by rw [← HN.out]; exact B2⟩
end Go.Proofs.Ytmidjiailinjmaa
