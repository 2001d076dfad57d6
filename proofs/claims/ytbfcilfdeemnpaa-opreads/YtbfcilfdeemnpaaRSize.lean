/-
  How long the things are that the reference reads.
-/
import Derived.Test.YtbfcilfdeemnpaaRTakeM
namespace Go.Proofs.Ytbfcilfdeemnpaa
open Go.RowKit

theorem fst_uint (xs : List Int) (k : Int) : (uintT xs k).1 = (uintS xs k).1 := by
  unfold uintT uintS
  by_cases hk : k = 0
  · rw [if_pos hk, if_pos hk]
    by_cases ht : (tk 0 0 xs).2.2 = 0
    · rw [if_pos ht, if_pos ht]
    · rw [if_neg ht, if_neg ht]
  · rw [if_neg hk, if_neg hk]
theorem fst_int (most : Nat) (xs : List Int) (k : Int) : (intT xs k most).1 = (intS xs k most).1 := by
  have a := alike_uint xs k
  unfold intT intS
  by_cases h : (uintS xs k).2.2 = 0
  · rw [a.2 h, if_pos h, if_pos h]
    by_cases c : (most : Int) < 0 ∨ (most : Int) < (uintS xs k).1
    · rw [if_pos c, if_pos c]
    · rw [if_neg c, if_neg c]
  · rw [if_neg h, if_neg (by rw [a.1]; exact h)]
theorem fst_by (most : Nat) (xs : List Int) (k : Int) : (bytesT xs k most).1 = (bytesS xs k most).1 := by
  have a : (intT xs k most).2.2 = (intS xs k most).2.2 ∧ ((intS xs k most).2.2 = 0 → intT xs k most = intS xs k most) := alike_int most xs k
  unfold bytesT bytesS
  by_cases h : (intS xs k most).2.2 = 0
  · rw [a.2 h, if_pos h, if_pos h]
    by_cases c : (intS xs k most).2.1.length < (intS xs k most).1
    · rw [if_pos c, if_pos c]
    · rw [if_neg c, if_neg c]
  · rw [if_neg h, if_neg (by rw [a.1]; exact h)]
theorem intT_le (most : Nat) (xs : List Int) (k : Int) : (intT xs k most).1 ≤ most := by
  rw [fst_int]
  exact intS_le xs k most
theorem bytesT_le (most : Nat) (xs : List Int) (k : Int) : (bytesT xs k most).1.length ≤ most := by
  rw [fst_by]
  exact bytesS_le xs k most
theorem uintT_byt {xs : List Int} (h : Byt xs) (k : Int) : Byt (uintT xs k).2.1 := by
  unfold uintT
  split
  · split
    · exact fun x hx => h x (List.mem_of_mem_drop hx)
    · exact h
  · exact h
theorem intT_byt {xs : List Int} (h : Byt xs) (k most : Int) : Byt (intT xs k most).2.1 := by
  have h1 := uintT_byt h k
  unfold intT
  split
  · split
    · exact h1
    · exact h1
  · exact h1
theorem bytesT_byt {xs : List Int} (h : Byt xs) (k most : Int) : Byt (bytesT xs k most).2.1 := by
  have h1 := intT_byt h k most
  unfold bytesT
  split
  · split
    · exact h1
    · exact fun x hx => h1 x (List.mem_of_mem_drop hx)
  · exact h1
theorem txR_ok {xs : List Int} (h : Byt xs) {k : Int} : (txR 32 xs k).1.size ≤ 32 := by
  show (strOfNums (bytesT xs k ((32 : Nat) : Int)).1).size ≤ 32
  rw [fst_by]
  exact txT_ok h
theorem keyRT_ok {xs : List Int} (h : Byt xs) {k : Int} : (keyRT xs k).1.1.size ≤ 32 ∧ (keyRT xs k).1.2.1.size ≤ 32 ∧ (keyRT xs k).1.2.2.1.size ≤ 32 ∧ (keyRT xs k).1.2.2.2 < 18446744073709551616 :=
  ⟨txR_ok h, txR_ok (bytesT_byt h k 32), txR_ok (bytesT_byt (bytesT_byt h k 32) _ 32), uintT_lt (bytesT_byt (bytesT_byt (bytesT_byt h k 32) _ 32) _ 32)⟩
end Go.Proofs.Ytbfcilfdeemnpaa
