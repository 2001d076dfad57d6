/-
  Names' bytes: small facts.
-/
import Derived.Test.YtbfcilfdeemnpaaCRight
namespace Go.Proofs.Ytbfcilfdeemnpaa
open Go.RowKit

/-- A name's bytes without its end. -/
def esc : List Int → List Int
  | [] => []
  | c :: t => (if c = 0 then [0, 255] else [c]) ++ esc t
theorem esc_append : ∀ s t, esc (s ++ t) = esc s ++ esc t
  | [], t => rfl
  | c :: s, t => by simp [esc, esc_append s t]
theorem nm_esc : ∀ s, nm s = esc s ++ [0, 1]
  | [] => rfl
  | c :: t => by
    unfold nm esc
    rw [nm_esc t]
    split <;> simp
theorem esc_len : ∀ s, (esc s).length ≤ 2 * s.length
  | [] => by simp [esc]
  | c :: t => by
    have := esc_len t
    unfold esc
    rw [List.length_append, List.length_cons]
    split <;> simp <;> omega
theorem sb_take (s : ByteArray) (k : Nat) (h : k < s.size) : (sb s).take (k + 1) = (sb s).take k ++ [(s[k].toNat : Int)] := by
  have hl : k < (sb s).length := by rw [sb_len]; exact h
  rw [List.take_succ_eq_append_getElem hl]
  simp [sb, ByteArray.getElem_eq_getElem_data]

theorem sb_nil {s : ByteArray} (h : s.size = 0) : sb s = [] := List.eq_nil_of_length_eq_zero (by rw [sb_len]; exact h)
theorem empty_of {s : ByteArray} (h : s.size = 0) : s = ⟨#[]⟩ := by
  apply sb_inj
  rw [sb_nil h]
  rfl
end Go.Proofs.Ytbfcilfdeemnpaa
