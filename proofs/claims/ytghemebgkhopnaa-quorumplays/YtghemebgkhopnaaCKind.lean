/-
  The reference's Right; Light.
-/
import Derived.Test.YtghemebgkhopnaaCKA
namespace Go.Proofs.Ytghemebgkhopnaa
open Go.RowKit

theorem toL_ne {s t : ByteArray} (h : s ≠ t) : (s.toList == t.toList) = false := by
  rw [beq_eq_false_iff_ne]
  intro e
  apply h
  rw [ByteArray.toList_eq, ByteArray.toList_eq] at e
  exact ByteArray.ext (Array.toList_inj.1 e)

/-- Is it right? -/
def KA.isRight (k : KA) : Bool := decide (1 ≤ k.row.size ∧ k.row.size ≤ 32 ∧ 1 ≤ k.fam.size ∧ k.fam.size ≤ 32 ∧ k.qual.size ≤ 32)
theorem KA.isRight_kv (k : KA) : k.isRight = decide k.kv.right := by
  unfold KA.isRight KV.right KA.kv
  simp only [sb_len]
def KA.kind (k : KA) : Int := if k.isRight then 0 else 5

/-- Are two keys of one column? -/
def KA.col (a b : KA) : Bool := decide (a.row = b.row ∧ a.fam = b.fam ∧ a.qual = b.qual)
end Go.Proofs.Ytghemebgkhopnaa
