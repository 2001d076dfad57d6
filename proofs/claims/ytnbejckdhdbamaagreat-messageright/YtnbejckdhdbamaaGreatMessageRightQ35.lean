/-
  Texts in one: PRdR.
-/
import Derived.Test.YtnbejckdhdbamaaGreatMessageRightQ9
import Derived.Test.YtnbejckdhdbamaaGreatMessageRightQ33
import Derived.Test.YtnbejckdhdbamaaGreatMessageRightQ10
import Derived.Test.YtnbejckdhdbamaaGreatMessageRightQ26
import Derived.Test.YtnbejckdhdbamaaGreatMessageRightQ3
namespace Go.Proofs.YtnbejckdhdbamaaGreat
open Go.RowKit
theorem resTh_eq {xs : List Int} {r1 r2 : Nat × List Int × Int} {c : List CV × List Int × Int} {b : Bool × List Int × Int} (h1 : r1 = intS xs 0 100) (h2 : r2 = intS r1.2.1 r1.2.2 16) (h3 : c = repT cT r2.1 r2.2.1 r2.2.2) (h4 : b = boolS c.2.1 c.2.2) : resTh xs 0 = (⟨(r1.1 : Int), c.1, b.1⟩, b.2) := by
 have e1 : ((100 : Nat) : Int) = 100 := rfl
 have e2 : ((16 : Nat) : Int) = 16 := rfl
 subst h4 h3 h2 h1
 unfold resTh mapT
 simp only [andT, andD, intT', toR, e1, e2]
theorem sblk_own {ao : Option Addr} {n cap x : Nat} (h : sblk ao n x) : (Value.slice ao n cap).ownBlock = some x := by
 obtain ⟨a, rfl, _, rfl⟩ := h
 rfl
end Go.Proofs.YtnbejckdhdbamaaGreat
