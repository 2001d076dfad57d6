/-
  Texts as bytes: small facts.
-/
import Derived.Test.YtghemebgkhopnaaCMath
import Derived.Test.YtghemebgkhopnaaConv
import Derived.BigQuiet
namespace Go.Proofs.Ytghemebgkhopnaa
open Go.RowKit

theorem sb_at (s : ByteArray) (k : Nat) (h : k < s.size) : (sb s).drop k = (s[k].toNat : Int) :: (sb s).drop (k + 1) := by
  have hl : k < (sb s).length := by rw [sb_len]; exact h
  rw [List.drop_eq_getElem_cons hl]
  simp [sb, ByteArray.getElem_eq_getElem_data]
theorem cmpL_cons (a b : Int) (s t : List Int) : cmpL (a :: s) (b :: t) = if a = b then cmpL s t else if a < b then -1 else 1 := by rw [cmpL]
theorem sb_end (s : ByteArray) (k : Nat) (h : s.size ≤ k) : (sb s).drop k = [] := List.drop_eq_nil_of_le (by rw [sb_len]; exact h)

theorem belN {n : Nat} {a w : World} (h : Below n a w) (q : Nat) : Below n a (w.drewN q) := by
  have e0 : (w.drewN q).heap = w.heap := by simp
  exact ⟨by rw [← h.os]; rfl, by rw [← h.tape]; rfl, by rw [← h.output]; rfl, by rw [e0]; exact h.size, fun k hk => by rw [e0]; exact h.block k hk⟩
end Go.Proofs.Ytghemebgkhopnaa
