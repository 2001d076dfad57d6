/-
  The program's isValue, isWant, Writes, bytes.Equal.
-/
import Derived.Test.YtbfcilfdeemnpaaMB
import Derived.Test.YtbfcilfdeemnpaaMD
namespace Go.Proofs.Ytbfcilfdeemnpaa
open Go.RowKit

theorem pvalue_any (w : World) (ao : Option Addr) (n cap : Nat) :
    Calls Try.prog 73 #[.slice ao n cap] w fun e w' => e = .returned (.bool (decide (n ≤ 256))) ∧ w' = w := by
  by_cases l : n ≤ 256
  · have i : (n : Int) ≤ 256 := by omega
    rw [decide_eq_true l]
    go_enter Try.func73, Try.ntmps73
    go_wp2
    go_ret
    exact ⟨rfl, rfl⟩
  · have i : decide ((n : Int) ≤ 256) = false := by simp; omega
    rw [decide_eq_false l]
    go_enter Try.func73, Try.ntmps73
    go_wp2
    go_ret
    exact ⟨rfl, rfl⟩

theorem pwant_any (w : World) (ao : Option Addr) (n cap : Nat) (b : Bool) :
    Calls Try.prog 74 #[.slice ao n cap, .bool b] w fun e w' => e = .returned (.bool (decide (n ≤ 256 ∧ (b = true ∨ n = 0)))) ∧ w' = w := by
  by_cases l : n ≤ 256
  · have hv : decide (n ≤ 256) = true := decide_eq_true l
    cases b with
    | true =>
      rw [decide_eq_true ⟨l, .inl rfl⟩]
      go_enter Try.func74, Try.ntmps74
      go_wp2_with (go_at_call 73; refine (pvalue_any _ ao n cap).mono ?_; rintro e w' ⟨rfl, rfl⟩; rw [hv])
      go_ret
      exact ⟨rfl, rfl⟩
    | false =>
      by_cases z : n = 0
      · subst z
        rw [decide_eq_true ⟨by omega, .inr rfl⟩]
        go_enter Try.func74, Try.ntmps74
        go_wp2_with (go_at_call 73; refine (pvalue_any _ ao 0 cap).mono ?_; rintro e w' ⟨rfl, rfl⟩; rw [hv])
        go_ret
        exact ⟨rfl, rfl⟩
      · have i : ((n : Int) == 0) = false := by simp; omega
        rw [decide_eq_false (by simp; omega)]
        go_enter Try.func74, Try.ntmps74
        go_wp2_with (go_at_call 73; refine (pvalue_any _ ao n cap).mono ?_; rintro e w' ⟨rfl, rfl⟩; rw [hv])
        go_ret
        exact ⟨rfl, rfl⟩
  · have hv : decide (n ≤ 256) = false := decide_eq_false l
    rw [decide_eq_false (fun h => l h.1)]
    go_enter Try.func74, Try.ntmps74
    go_wp2_with (go_at_call 73; refine (pvalue_any _ ao n cap).mono ?_; rintro e w' ⟨rfl, rfl⟩; rw [hv])
    go_ret
    exact ⟨rfl, rfl⟩

theorem pequal_any (w : World) (ao bo : Option Addr) (n cap m cap2 : Nat) (xs ys : List Int) (h : Sl w ao n cap xs) (h2 : Sl w bo m cap2 ys) :
    Calls Try.prog 82 #[.slice ao n cap, .slice bo m cap2] w fun e w' => e = .returned (.bool (decide (xs = ys))) ∧ w' = w := by
  have c1 := conv_str h
  have c2 := conv_str h2
  by_cases e : xs = ys
  · subst e
    rw [decide_eq_true rfl]
    go_enter Try.func82, Try.ntmps82
    go_wp2
    go_ret
    exact ⟨rfl, rfl⟩
  · have i : ((strOfNums xs).toList == (strOfNums ys).toList) = false := toL_ne fun q => e (by rw [← sb_str h.byte, q, sb_str h2.byte])
    rw [decide_eq_false e]
    go_enter Try.func82, Try.ntmps82
    go_wp2
    go_ret
    exact ⟨rfl, rfl⟩

set_option maxRecDepth 100000 in
set_option maxHeartbeats 2000000 in
theorem pwrites_any (w : World) (o : OA) :
    Calls Try.prog 28 #[o.val] w fun e w' => e = .returned (.bool (decide (o.kind ≠ 7 ∧ o.kind ≠ 8))) ∧ Below w.heap.size w w' := by
  have B : Below w.heap.size w (w.alloc (Obj.cells o.cells.toArray 28)) := (Below.refl _ w).alloc (Nat.le_refl _) _
  unfold OA.cells at B
  unfold OA.val
  by_cases e7 : o.kind = 7
  · have i : (o.kind != 7) = false := by simp [e7]
    have hv : Hid (decide (o.kind ≠ 7 ∧ o.kind ≠ 8) = false) := decide_eq_false (by omega)
    clear e7
    go_enter Try.func28, Try.ntmps28
    go_wp2
    go_ret
    exact ⟨by rw [hv.out] <;> rfl, B⟩
  · have i : (o.kind != 7) = true := by simp [e7]
    by_cases e8 : o.kind = 8
    · have j : (o.kind != 8) = false := by simp [e8]
      have hv : Hid (decide (o.kind ≠ 7 ∧ o.kind ≠ 8) = false) := decide_eq_false (by omega)
      clear e7 e8
      go_enter Try.func28, Try.ntmps28
      go_wp2
      go_ret
      exact ⟨by rw [hv.out] <;> rfl, B⟩
    · have j : (o.kind != 8) = true := by simp [e8]
      have hv : Hid (decide (o.kind ≠ 7 ∧ o.kind ≠ 8) = true) := decide_eq_true ⟨e7, e8⟩
      clear e7 e8
      go_enter Try.func28, Try.ntmps28
      go_wp2
      go_ret
      exact ⟨by rw [hv.out] <;> rfl, B⟩
end Go.Proofs.Ytbfcilfdeemnpaa
