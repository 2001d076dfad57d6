/-
  How many are enough: the program's, the reference's.
-/
import Derived.Test.YtghemebgkhopnaaQuMath
namespace Go.Proofs.Ytghemebgkhopnaa
open Go.RowKit

theorem okF_t {f : Int} (h1 : 1 ≤ f) (h4 : f ≤ 4) : okF f = true := decide_eq_true ⟨h1, h4⟩
theorem okF_f {f : Int} (h : ¬ (1 ≤ f ∧ f ≤ 4)) : okF f = false := decide_eq_false h
theorem canBe_any (f : Int) (w : World) : Calls Try.prog 32 #[.int .i64 f] w fun e w' => e = .returned (.bool (okF f)) ∧ w' = w := by
  by_cases h1 : 1 ≤ f
  · by_cases h4 : f ≤ 4
    · rw [okF_t h1 h4]
      go_enter Try.func32, Try.ntmps32
      go_wp2
      go_ret
      exact ⟨rfl, rfl⟩
    · rw [okF_f (by omega)]
      go_enter Try.func32, Try.ntmps32
      go_wp2
      go_ret
      exact ⟨rfl, rfl⟩
  · rw [okF_f (by omega)]
    go_enter Try.func32, Try.ntmps32
    go_wp2
    go_ret
    exact ⟨rfl, rfl⟩
theorem nF_f {f : Int} (t : Int) (h : okF f = false) : nF f t = 0 := by unfold nF; rw [if_neg (by rw [h]; simp)]
theorem nF_t {f : Int} (t : Int) (h : okF f = true) : nF f t = t * f + 1 := by unfold nF; rw [if_pos h]
theorem okF_iff {f : Int} : okF f = true ↔ 1 ≤ f ∧ f ≤ 4 := decide_eq_true_iff
theorem ofF_any (f t : Int) (ht : t = 1 ∨ t = 2 ∨ t = 3) (w : World) : Calls Try.prog 31 #[.int .i64 f, .int .i64 t] w fun e w' => e = .returned (.int .i64 (nF f t)) ∧ w' = w := by
  have CB := canBe_any f w
  cases hk : okF f with
  | false =>
    rw [nF_f t hk]
    rw [hk] at CB
    clear hk ht
    go_enter Try.func31, Try.ntmps31
    go_wp2_with (go_at_call 32; refine CB.mono ?_; rintro e w' ⟨rfl, rfl⟩)
    go_ret
    exact ⟨rfl, rfl⟩
  | true =>
    rw [nF_t t hk]
    rw [hk] at CB
    obtain ⟨h1, h4⟩ := okF_iff.1 hk
    clear hk
    rcases ht with rfl | rfl | rfl
    all_goals
      go_enter Try.func31, Try.ntmps31
      go_wp2_with (go_at_call 32; refine CB.mono ?_; rintro e w' ⟨rfl, rfl⟩)
      go_ret
      exact ⟨by first | rfl | simp, rfl⟩
theorem n_any (f : Int) (w : World) : Calls Try.prog 9 #[.int .i64 f] w fun e w' => e = .returned (.int .i64 (nF f 3)) ∧ w' = w := by
  have C := ofF_any f 3 (by omega) w
  go_enter Try.func9, Try.ntmps9
  go_wp2_with (go_at_call 31; refine C.mono ?_; rintro e w' ⟨rfl, rfl⟩)
  go_ret
  exact ⟨rfl, rfl⟩
theorem most_any (f : Int) (w : World) : Calls Try.prog 11 #[.int .i64 f] w fun e w' => e = .returned (.int .i64 (nF f 2)) ∧ w' = w := by
  have C := ofF_any f 2 (by omega) w
  go_enter Try.func11, Try.ntmps11
  go_wp2_with (go_at_call 31; refine C.mono ?_; rintro e w' ⟨rfl, rfl⟩)
  go_ret
  exact ⟨rfl, rfl⟩
theorem weak_any (f : Int) (w : World) : Calls Try.prog 13 #[.int .i64 f] w fun e w' => e = .returned (.int .i64 (nF f 1)) ∧ w' = w := by
  have C := ofF_any f 1 (by omega) w
  go_enter Try.func13, Try.ntmps13
  go_wp2_with (go_at_call 31; refine C.mono ?_; rintro e w' ⟨rfl, rfl⟩)
  go_ret
  exact ⟨rfl, rfl⟩
theorem prF_f {f : Int} (v : Nat) (h : okF f = false) : prF v f = 0 := by unfold prF; rw [if_neg (by rw [h]; simp)]
theorem prF_t {f : Int} (v : Nat) (h : okF f = true) : prF v f = 1 + v % (3 * f + 1).toNat := by unfold prF; rw [if_pos h]
theorem prim_any (v : Nat) (f : Int) (hv : v < 18446744073709551616) (w : World) : Calls Try.prog 15 #[.int .u64 v, .int .i64 f] w fun e w' => e = .returned (.int .u64 (prF v f)) ∧ w' = w := by
  have CB := canBe_any f w
  cases hk : okF f with
  | false =>
    rw [prF_f v hk]
    rw [hk] at CB
    clear hk
    go_enter Try.func15, Try.ntmps15
    go_wp2_with (go_at_call 32; refine CB.mono ?_; rintro e w' ⟨rfl, rfl⟩)
    go_ret
    exact ⟨rfl, rfl⟩
  | true =>
    have CN := n_any f w
    rw [nF_t 3 hk] at CN
    obtain ⟨h1, h4⟩ := okF_iff.1 hk
    obtain ⟨m, rfl⟩ : ∃ m : Nat, f = m := ⟨f.toNat, by omega⟩
    have e : prF v m = 1 + v % (3 * m + 1) := by rw [prF_t v hk]; congr 1
    have e2 : (3 * (m : Int) + 1) = ((3 * m + 1 : Nat) : Int) := by omega
    rw [e]
    rw [hk] at CB
    rw [e2] at CN
    clear hk e e2
    obtain ⟨n, hn⟩ : ∃ n, n = 3 * m + 1 := ⟨_, rfl⟩
    have n1 : 1 ≤ n := by omega
    have n2 : n ≤ 13 := by omega
    rw [← hn] at CN ⊢
    have hm := Nat.mod_lt v n1
    have hmi : (v : Int) % (n : Int) = ((v % n : Nat) : Int) := (Int.natCast_emod v n).symm
    have hM : Hid ((v : Int) % (n : Int) = ((v % n : Nat) : Int)) := hmi
    have hb : 0 ≤ (v : Int) % (n : Int) ∧ (v : Int) % (n : Int) < 13 := by rw [hmi]; omega
    have i1 : (1 : Int) ≤ (n : Int) := by omega
    have i2 : (n : Int) ≤ 13 := by omega
    have i3 : (v : Int) < 18446744073709551616 := by omega
    clear hn hmi hm n1 n2 h1 h4 hv
    go_enter Try.func15, Try.ntmps15
    go_wp2_with (first
      | (go_at_call 32; refine CB.mono ?_; rintro e w' ⟨rfl, rfl⟩)
      | (go_at_call 9; refine CN.mono ?_; rintro e w' ⟨rfl, rfl⟩))
    go_ret
    refine ⟨?_, rfl⟩
    have := hM.out
    congr 2
end Go.Proofs.Ytghemebgkhopnaa
