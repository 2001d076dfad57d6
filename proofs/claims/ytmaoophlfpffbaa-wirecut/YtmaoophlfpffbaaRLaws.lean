/-
  Plain facts: what a reader tells of forms that were put, with whatever behind them.
-/
import Derived.Test.YtmaoophlfpffbaaRMore
import Derived.Test.YtmaoophlfpffbaaForms
import Derived.Test.YtmaoophlfpffbaaLaws
namespace Go.Proofs.Ytmaoophlfpffbaa
open Go.RowKit

theorem uintS_enc {k : Nat} (hk : k < 18446744073709551616) (xs : List Int) : uintS (enc k ++ xs) 0 = (k, xs, 0) := by
  unfold uintS
  rw [if_pos rfl, tk_enc hk xs]
  simp

theorem bytesS_put {xs : List Int} {n : Nat} (hl : xs.length = n) (hn : n < 18446744073709551616) (rest : List Int) (most : Int) :
    bytesS (enc n ++ (xs ++ rest)) 0 most = if most < 0 ∨ most < n then ([], [], 4) else (xs, rest, 0) := by
  unfold bytesS intS
  rw [uintS_enc hn]
  simp only [if_true]
  by_cases h : most < 0 ∨ most < (n : Int)
  · rw [if_pos h]; simp [h]
  · rw [if_neg h]
    simp only [h, if_false]
    rw [if_pos trivial, if_neg (by simp; omega)]
    rw [← hl]
    simp
theorem boolS_put (b : Bool) (rest : List Int) : boolS (enb b ++ rest) 0 = (b, rest, 0) := by
  cases b <;> simp [boolS, enb]
end Go.Proofs.Ytmaoophlfpffbaa
