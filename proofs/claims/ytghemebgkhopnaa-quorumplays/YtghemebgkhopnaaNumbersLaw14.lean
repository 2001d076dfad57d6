/-
  The laws QuorumNumbers, QuorumNils.
-/
import Derived.Test.YtghemebgkhopnaaQuAlive
import Derived.Test.YtghemebgkhopnaaQuEnough
import Derived.Test.YtghemebgkhopnaaQuProof
namespace Go.Proofs.Ytghemebgkhopnaa
open Go.RowKit

theorem rn_any (f : Int) (w : World) : Calls Try.prog 10 #[.int .i64 f] w fun e w' => e = .returned (.int .i64 (nF f 3)) ∧ w' = w := by
  by_cases h1 : 1 ≤ f
  · by_cases h4 : f ≤ 4
    · rw [nF_t 3 (okF_t h1 h4)]
      go_enter Try.func10, Try.ntmps10
      go_wp2
      go_ret
      exact ⟨by first | rfl | simp, rfl⟩
    · rw [nF_f 3 (okF_f (by omega))]
      have h5 : 4 < f := by omega
      go_enter Try.func10, Try.ntmps10
      go_wp2
      go_ret
      exact ⟨rfl, rfl⟩
  · rw [nF_f 3 (okF_f (by omega))]
    have h5 : f < 1 := by omega
    go_enter Try.func10, Try.ntmps10
    go_wp2
    go_ret
    exact ⟨rfl, rfl⟩
theorem rmost_any (f : Int) (w : World) : Calls Try.prog 12 #[.int .i64 f] w fun e w' => e = .returned (.int .i64 (nF f 2)) ∧ w' = w := by
  by_cases h1 : 1 ≤ f
  · by_cases h4 : f ≤ 4
    · rw [nF_t 2 (okF_t h1 h4)]
      go_enter Try.func12, Try.ntmps12
      go_wp2
      go_ret
      exact ⟨by first | rfl | simp, rfl⟩
    · rw [nF_f 2 (okF_f (by omega))]
      have h5 : 4 < f := by omega
      go_enter Try.func12, Try.ntmps12
      go_wp2
      go_ret
      exact ⟨rfl, rfl⟩
  · rw [nF_f 2 (okF_f (by omega))]
    have h5 : f < 1 := by omega
    go_enter Try.func12, Try.ntmps12
    go_wp2
    go_ret
    exact ⟨rfl, rfl⟩
theorem rweak_any (f : Int) (w : World) : Calls Try.prog 14 #[.int .i64 f] w fun e w' => e = .returned (.int .i64 (nF f 1)) ∧ w' = w := by
  by_cases h1 : 1 ≤ f
  · by_cases h4 : f ≤ 4
    · rw [nF_t 1 (okF_t h1 h4)]
      go_enter Try.func14, Try.ntmps14
      go_wp2
      go_ret
      exact ⟨by first | rfl | simp, rfl⟩
    · rw [nF_f 1 (okF_f (by omega))]
      have h5 : 4 < f := by omega
      go_enter Try.func14, Try.ntmps14
      go_wp2
      go_ret
      exact ⟨rfl, rfl⟩
  · rw [nF_f 1 (okF_f (by omega))]
    have h5 : f < 1 := by omega
    go_enter Try.func14, Try.ntmps14
    go_wp2
    go_ret
    exact ⟨rfl, rfl⟩
theorem rprim_any (v : Nat) (f : Int) (hv : v < 18446744073709551616) (w : World) : Calls Try.prog 16 #[.int .u64 v, .int .i64 f] w fun e w' => e = .returned (.int .u64 (prF v f)) ∧ w' = w := by
  have CN := rn_any f w
  cases hk : okF f with
  | false =>
    rw [prF_f v hk]
    rw [nF_f 3 hk] at CN
    clear hk
    go_enter Try.func16, Try.ntmps16
    go_wp2_with (go_at_call 10; refine CN.mono ?_; rintro e w' ⟨rfl, rfl⟩)
    go_ret
    exact ⟨rfl, rfl⟩
  | true =>
    rw [nF_t 3 hk] at CN
    obtain ⟨h1, h4⟩ := okF_iff.1 hk
    obtain ⟨m, rfl⟩ : ∃ m : Nat, f = m := ⟨f.toNat, by omega⟩
    have e : prF v m = 1 + v % (3 * m + 1) := by rw [prF_t v hk]; congr 1
    have e2 : (3 * (m : Int) + 1) = ((3 * m + 1 : Nat) : Int) := by omega
    rw [e]
    rw [e2] at CN
    clear hk e e2
    obtain ⟨n, hn⟩ : ∃ n, n = 3 * m + 1 := ⟨_, rfl⟩
    have n1 : 1 ≤ n := by omega
    have n2 : n ≤ 13 := by omega
    rw [← hn] at CN ⊢
    have hm := Nat.mod_lt v n1
    have hmi : (v : Int) % (n : Int) = ((v % n : Nat) : Int) := (Int.natCast_emod v n).symm
    have hM : Hid ((v : Int) % (n : Int) = ((v % n : Nat) : Int)) := hmi
    have hb : 0 ≤ (v : Int) % (n : Int) ∧ (v : Int) % (n : Int) < 13 := by rw [hmi]; omega
    have i1 : (1 : Int) ≤ (n : Int) := by omega
    have i2 : (n : Int) ≤ 13 := by omega
    have i3 : (v : Int) < 18446744073709551616 := by omega
    have i4 : ((n : Int) == 0) = false := by simp; omega
    clear hn hmi hm n1 n2 h1 h4 hv
    go_enter Try.func16, Try.ntmps16
    go_wp2_with (go_at_call 10; refine CN.mono ?_; rintro e w' ⟨rfl, rfl⟩)
    go_ret
    refine ⟨?_, rfl⟩
    have := hM.out
    congr 2
set_option maxRecDepth 100000 in
set_option maxHeartbeats 4000000 in
theorem quorumNumbers_any (w : World) (f v0 : Int) (_ : (Lit.int .i64 f).wf = true) (h2 : (Lit.int .u64 v0).wf = true) : Calls Try.prog 3 #[.int .i64 f, .int .u64 v0] w fun e w' => e = .returned (.bool true) ∧ Below w.heap.size w w' := by
  have hv0 : 0 ≤ v0 ∧ v0 < 18446744073709551616 := by
    simp [Lit.wf, IntKind.min, IntKind.max, IntKind.signed, IntKind.bits] at h2
    omega
  obtain ⟨v, rfl⟩ : ∃ v : Nat, v0 = v := ⟨v0.toNat, by omega⟩
  have hv : v < 18446744073709551616 := by omega
  clear h2 hv0
  have E1 := n_any f w
  have E2 := most_any f w
  have E3 := weak_any f w
  have E4 := prim_any v f hv w
  have F1 := rn_any f w
  have F2 := rmost_any f w
  have F3 := rweak_any f w
  have F4 := rprim_any v f hv w
  have CA := alive14 w
  generalize nF f 3 = a3 at E1 F1
  generalize nF f 2 = a2 at E2 F2
  generalize nF f 1 = a1 at E3 F3
  generalize prF v f = a4 at E4 F4
  have i1 : (a1 == a1) = true := by simp
  have i2 : (a2 == a2) = true := by simp
  have i3 : (a3 == a3) = true := by simp
  have i4 : ((a4 : Int) == (a4 : Int)) = true := by simp
  go_enter Try.func3, Try.ntmps3
  go_wp2_with (first
    | (go_at_call 9; refine E1.mono ?_; rintro e w' ⟨rfl, hw⟩; obtain rfl := hw.symm; clear hw)
    | (go_at_call 11; refine E2.mono ?_; rintro e w' ⟨rfl, hw⟩; obtain rfl := hw.symm; clear hw)
    | (go_at_call 13; refine E3.mono ?_; rintro e w' ⟨rfl, hw⟩; obtain rfl := hw.symm; clear hw)
    | (go_at_call 15; refine E4.mono ?_; rintro e w' ⟨rfl, hw⟩; obtain rfl := hw.symm; clear hw)
    | (go_at_call 10; refine F1.mono ?_; rintro e w' ⟨rfl, hw⟩; obtain rfl := hw.symm; clear hw)
    | (go_at_call 12; refine F2.mono ?_; rintro e w' ⟨rfl, hw⟩; obtain rfl := hw.symm; clear hw)
    | (go_at_call 14; refine F3.mono ?_; rintro e w' ⟨rfl, hw⟩; obtain rfl := hw.symm; clear hw)
    | (go_at_call 16; refine F4.mono ?_; rintro e w' ⟨rfl, hw⟩; obtain rfl := hw.symm; clear hw)
    | (go_at_call 17; refine CA.mono ?_; rintro e w1 ⟨rfl, C1⟩))
  go_ret
  exact ⟨rfl, C1⟩
set_option maxRecDepth 100000 in
set_option maxHeartbeats 4000000 in
theorem quorumNils_any (w : World) (fr : Int) (ao : Option Addr) (m cap : Nat) (xs : List Int) (n : Int) (_ : (Lit.int .u64 fr).wf = true) (_ : Sl w ao m cap xs) (_ : (Lit.int .i64 n).wf = true) : Calls Try.prog 8 #[.int .u64 fr, .slice ao m cap, .int .i64 n] w fun e w' => e = .returned (.bool true) ∧ Below w.heap.size w w' := by
  by_cases hm : 100 < m
  · have i1 : (100 : Int) < (m : Int) := by omega
    have CA := alive14 w
    clear hm
    go_enter Try.func8, Try.ntmps8
    go_wp2_with (go_at_call 17; refine CA.mono ?_; rintro e w1 ⟨rfl, C1⟩)
    go_ret
    exact ⟨rfl, C1⟩
  · have i1 : (m : Int) ≤ 100 := by omega
    have E1 := enough_nil w n
    have E2 := add_nil w fr none none ao 0 0 0 0 m cap
    clear hm
    go_enter Try.func8, Try.ntmps8
    go_wp2_with (go_at_call 23; refine E1.mono ?_; rintro e w' ⟨rfl, hw⟩; obtain rfl := hw.symm; clear hw)
    refine E2.mono ?_
    rintro x w1 ⟨rfl, C1⟩
    have E3 := count_nil w1 (.slice ao m cap)
    have E4 := proof_nil w1 (.slice ao m cap) n
    have CA := alive14 w1
    clear E1 E2
    go_wp2_with (first
      | (go_at_call 21; refine E3.mono ?_; rintro e w' ⟨rfl, hw⟩; obtain rfl := hw.symm; clear hw)
      | (go_at_call 27; refine E4.mono ?_; rintro e w' ⟨rfl, hw⟩; obtain rfl := hw.symm; clear hw)
      | (go_at_call 17; refine CA.mono ?_; rintro e w2 ⟨rfl, C2⟩))
    go_ret
    exact ⟨rfl, C1.trans (C2.mono C1.size)⟩
end Go.Proofs.Ytghemebgkhopnaa
