/-
  Texts in one: PVal.
-/
import Derived.Test.YtkjaapomaaakmaaGreatMessageBytesQ0
namespace Go.Proofs.YtkjaapomaaakmaaGreat
open Go.RowKit
theorem pwant_any (w : World) (ao : Option Addr) (n cap : Nat) (b : Bool) :
  Calls Tryz.prog 130 #[.slice ao n cap, .bool b] w fun e w' => e = .returned (.bool (decide (n ≤ 256 ∧ (b = true ∨ n = 0)))) ∧ w' = w := by
 by_cases l : n ≤ 256
 ·have hv : decide (n ≤ 256) = true := decide_eq_true l
  cases b with
  | true =>
   rw [decide_eq_true ⟨l, .inl rfl⟩]
   go_enter Tryz.func130, Tryz.ntmps130
   go_wp2_with (go_at_call 128; refine (pvalue_any _ ao n cap).mono ?_; rintro e w' ⟨rfl, rfl⟩; rw [hv])
   go_ret
   exact ⟨rfl, rfl⟩
  | false =>
   by_cases z : n = 0
   ·subst z
    rw [decide_eq_true ⟨by omega, .inr rfl⟩]
    go_enter Tryz.func130, Tryz.ntmps130
    go_wp2_with (go_at_call 128; refine (pvalue_any _ ao 0 cap).mono ?_; rintro e w' ⟨rfl, rfl⟩; rw [hv])
    go_ret
    exact ⟨rfl, rfl⟩
   ·have i : ((n : Int) == 0) = false := by simp; omega
    rw [decide_eq_false (by simp; omega)]
    go_enter Tryz.func130, Tryz.ntmps130
    go_wp2_with (go_at_call 128; refine (pvalue_any _ ao n cap).mono ?_; rintro e w' ⟨rfl, rfl⟩; rw [hv])
    go_ret
    exact ⟨rfl, rfl⟩
 ·have hv : decide (n ≤ 256) = false := decide_eq_false l
  rw [decide_eq_false (fun h => l h.1)]
  go_enter Tryz.func130, Tryz.ntmps130
  go_wp2_with (go_at_call 128; refine (pvalue_any _ ao n cap).mono ?_; rintro e w' ⟨rfl, rfl⟩; rw [hv])
  go_ret
  exact ⟨rfl, rfl⟩
theorem pequal_any (w : World) (ao bo : Option Addr) (n cap m cap2 : Nat) (xs ys : List Int) (h : Sl w ao n cap xs) (h2 : Sl w bo m cap2 ys) :
  Calls Tryz.prog 29 #[.slice ao n cap, .slice bo m cap2] w fun e w' => e = .returned (.bool (decide (xs = ys))) ∧ w' = w := by
 have c1 := conv_str h
 have c2 := conv_str h2
 by_cases e : xs = ys
 ·subst e
  rw [decide_eq_true rfl]
  go_enter Tryz.func29, Tryz.ntmps29
  go_wp2
  go_ret
  exact ⟨rfl, rfl⟩
 ·have i : ((strOfNums xs).toList == (strOfNums ys).toList) = false := toL_ne fun q => e (by rw [← sb_str h.byte, q, sb_str h2.byte])
  rw [decide_eq_false e]
  go_enter Tryz.func29, Tryz.ntmps29
  go_wp2
  go_ret
  exact ⟨rfl, rfl⟩
end Go.Proofs.YtkjaapomaaakmaaGreat
