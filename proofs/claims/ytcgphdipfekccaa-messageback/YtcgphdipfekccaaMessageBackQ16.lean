/-
  Texts in one: PRdQ.
-/
import Derived.Test.YtcgphdipfekccaaMessageBackQ13
import Derived.Test.YtcgphdipfekccaaMessageBackQ15
namespace Go.Proofs.Ytcgphdipfekccaa
open Go.RowKit
def zeroOA : OA := ⟨0, ⟨#[]⟩, ⟨#[]⟩, ⟨#[]⟩, 0, ⟨#[]⟩, noBs, noBs, false, none, 0, 0⟩
theorem zeroOA_ok (w : World) : zeroOA.ok w := ⟨by decide, by decide, by decide, by decide, by decide, by decide, Sl.nothing w, Sl.nothing w, Nat.le_refl _, Nat.zero_le _, fun _ => ⟨rfl, rfl⟩⟩
end Go.Proofs.Ytcgphdipfekccaa
