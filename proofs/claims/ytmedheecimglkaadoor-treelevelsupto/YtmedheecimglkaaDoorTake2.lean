/-
  The first bytes of a slice, as a slice.
-/
import Derived.Test.YtmedheecimglkaaDoorBase
namespace Go.Proofs.YtmedheecimglkaaDoor
open Go.RowKit

/-- The first k bytes. -/
theorem Sl.take {w : World} {ao : Option Addr} {n cap : Nat} {xs : List Int} (h : Sl w ao n cap xs) (k : Nat) (hk : k ≤ n) : Sl w ao k cap (xs.take k) := by
  have h1 := h.le
  have h2 := h.len
  refine ⟨by simp; omega, by omega, h.mx, fun hn => ?_, fun a ha i hi => ?_, h.byte.take k⟩
  · have := h.nil hn
    omega
  · rw [h.cell a ha i (by omega)]
    simp [List.getD, hi]

end Go.Proofs.YtmedheecimglkaaDoor
