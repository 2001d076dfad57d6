/-
  Texts in one: SeMath.
-/
import Derived.Test.YtlgafjalcpjelaaDoorSessionPlaysQ17
namespace Go.Proofs.YtlgafjalcpjelaaDoor
open Go.RowKit
theorem putE_cl (l : List EN) (c s : Nat) (r : RV) : (putE l c s r).1.map EN.cl = l.map EN.cl := by
  unfold putE
  cases hf : fnd l c with
  | none => rfl
  | some i =>
    obtain ⟨hi, hc⟩ := fnd_some hf
    simp only
    by_cases h1 : s ≤ (l[i]?.map EN.st).getD 0
    · rw [if_pos h1]
    · rw [if_neg h1]
      by_cases h2 : rightR r = true
      · rw [if_pos h2]
        simp only [List.map_set]
        have : (l.map EN.cl)[i]? = some c := by rw [List.getElem?_map, List.getElem?_eq_getElem hi]; simp [hc]
        apply List.ext_getElem?
        intro j
        by_cases e : i = j
        · subst e
          rw [List.getElem?_set_self (by simpa using hi), this]
        · rw [List.getElem?_set_ne e]
      · rw [if_neg h2]
end Go.Proofs.YtlgafjalcpjelaaDoor
