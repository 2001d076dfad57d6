/-
  spread, gather.
-/
import Derived.Test.YtmidjiailinjmaaPPart
import Derived.Test.YtmidjiailinjmaaPBits
namespace Go.Proofs.Ytmidjiailinjmaa
open Go.RowKit

set_option maxHeartbeats 2000000 in
set_option maxRecDepth 100000 in
theorem pgather_any (w : World) (N : Nat) (hN : N < 18446744073709551616) :
    Calls Try.prog 10 #[.int .u64 N] w fun e w' => e = .returned (.float .f64 (fw ((gat 22 N : Nat) - 1048576))) ∧ w' = w := by
  obtain ⟨V, hV⟩ : ∃ V, V = fw ((gat 22 N : Nat) - 1048576) := ⟨_, rfl⟩
  rw [← hV]
  have HV : Hid (V = fw ((gat 22 N : Nat) - 1048576)) := hV
  clear hV
  go_enter Try.func10, Try.ntmps10
  go_wp2_with fail
  go_loopw [3, 4, 5] (fun x _ i wr => wr = w ∧ ∃ j : Nat, j ≤ 22 ∧ i = .int .i64 j ∧ x = .int .u64 (gat j N : Nat)) (fun _ _ i _ => 22 - (intOf i).toNat)
  case atStart => exact ⟨rfl, 0, by omega, rfl, rfl⟩
  case round =>
    obtain ⟨rfl, j, hj, rfl, rfl⟩ := hrel
    by_cases l : j < 22
    · have il : (j : Int) < 22 := by omega
      have HS : Hid (bits BinOp.or IntKind.u64 ((gat j N : Nat) : Int) (IntKind.u64.wrap (bits BinOp.and IntKind.u64 ((N : Int) / 2 ^ (2 * j)) 1 * 2 ^ j)) = ((gat (j + 1) N : Nat) : Int)) := gat_step N j hN l
      obtain ⟨G, hG⟩ : ∃ G, G = gat j N := ⟨_, rfl⟩
      rw [← hG] at HS ⊢
      clear hG
      go_wp2_with fail
      go_roundw
      case rel => exact ⟨trivial, j + 1, by omega, by go_num, by rw [HS.out]⟩
      case measure => simp [intOf]; omega
    · obtain rfl : j = 22 := by omega
      have hl := gat_lt 22 N
      obtain ⟨G, hG⟩ : ∃ G, G = gat 22 N := ⟨_, rfl⟩
      rw [← hG] at hl HV ⊢
      clear hG
      have c2 : FV 4697254411347427328 (decide ((1048576 : Int) < 0)) 1048576 := by rw [← fw_max]; exact fv _ (by decide)
      obtain ⟨r, hr, fr⟩ := (fv (G : Int) (by omega)).sub c2 (by omega)
      have hs : (if (G : Int) - 1048576 = 0 then decide ((G : Int) < 0) && !decide ((1048576 : Int) < 0) else decide ((G : Int) - 1048576 < 0)) = decide ((G : Int) - 1048576 < 0) := by
        by_cases c : (G : Int) - 1048576 = 0
        · rw [if_pos c, c, decide_eq_false (show ¬ (G : Int) < 0 by omega)]; rfl
        · rw [if_neg c]
      rw [hs] at fr
      have er : r = V := by rw [HV.out]; exact fr.fw
      rw [er] at hr
      have hop : ∀ t W, (binOp .sub t (.float .f64 (floatOfInt .f64 (G : Int))) (.float .f64 4697254411347427328)).run Try.prog W = .ok (.float .f64 V) W := fun t W => by
        rw [floatOfInt_fw _ (by omega)]
        exact run_float_arith W .sub t .f64 _ _ V hr
      clear hs fr er hr c2
      go_wp2_with (simp only [hop])
      go_ret
      exact ⟨rfl, rfl⟩

set_option maxHeartbeats 2000000 in
set_option maxRecDepth 100000 in
theorem pspread_any (w : World) (b : Nat) (s : Bool) (n : Int) (h : FV b s n) (h1 : -1048576 ≤ n) (h2 : n ≤ 1048576) :
    Calls Try.prog 14 #[.float .f64 b] w fun e w' => e = .returned (.int .u64 (spr 22 (n + 1048576).toNat : Nat)) ∧ w' = w := by
  obtain ⟨X, hX⟩ : ∃ X, X = (n + 1048576).toNat := ⟨_, rfl⟩
  have hX2 : (X : Int) = n + 1048576 := by omega
  have hX3 : X < 18446744073709551616 := by omega
  rw [← hX]
  obtain ⟨V, hV⟩ : ∃ V, V = spr 22 X := ⟨_, rfl⟩
  rw [← hV]
  have HV : Hid (V = spr 22 X) := hV
  clear hV
  have c2 : FV 4697254411347427328 (decide ((1048576 : Int) < 0)) 1048576 := by rw [← fw_max]; exact fv _ (by decide)
  obtain ⟨r, hr, fr⟩ := h.add c2 (by omega)
  have hop : ∀ t W, (binOp .add t (.float .f64 b) (.float .f64 4697254411347427328)).run Try.prog W = .ok (.float .f64 r) W := fun t W => run_float_arith W .add t .f64 _ _ r hr
  have hi := fr.toInt .u64 (by show (0 : Int) ≤ _; omega) (by show _ ≤ (18446744073709551615 : Int); omega)
  rw [← hX2] at hi
  have hcv : ∀ W, (convert 39 35 (.float .f64 r)).run Try.prog W = .ok (.int .u64 X) W := fun W => run_convert_float_int W 39 35 .f64 .u64 r X (by rw [Try.underlying39]; rfl) Try.underlying35 hi
  clear hi fr hr c2 h hX hX2 h1 h2
  go_enter Try.func14, Try.ntmps14
  go_wp2_with (simp only [hop, hcv])
  go_loopw [4, 5, 9] (fun x _ i wr => wr = w ∧ ∃ j : Nat, j ≤ 22 ∧ i = .int .i64 j ∧ x = .int .u64 (spr j X : Nat)) (fun _ _ i _ => 22 - (intOf i).toNat)
  case atStart => exact ⟨rfl, 0, by omega, rfl, rfl⟩
  case round =>
    obtain ⟨rfl, j, hj, rfl, rfl⟩ := hrel
    by_cases l : j < 22
    · have il : (j : Int) < 22 := by omega
      have HS : Hid (bits BinOp.or IntKind.u64 ((spr j X : Nat) : Int) (IntKind.u64.wrap (bits BinOp.and IntKind.u64 ((X : Int) / 2 ^ j) 1 * 2 ^ (2 * j))) = ((spr (j + 1) X : Nat) : Int)) := spr_step X j hX3 l
      obtain ⟨G, hG⟩ : ∃ G, G = spr j X := ⟨_, rfl⟩
      rw [← hG] at HS ⊢
      clear hG
      go_wp2_with fail
      go_roundw
      case rel => exact ⟨trivial, j + 1, by omega, by go_num, by rw [HS.out]⟩
      case measure => simp [intOf]; omega
    · obtain rfl : j = 22 := by omega
      rw [← HV.out]
      go_wp2_with fail
      go_ret
      exact ⟨rfl, rfl⟩
end Go.Proofs.Ytmidjiailinjmaa
