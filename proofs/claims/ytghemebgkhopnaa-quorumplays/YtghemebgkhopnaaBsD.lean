/-
  A slice of bytes that comes in.
-/
import Derived.Test.YtghemebgkhopnaaBase
namespace Go.Proofs.Ytghemebgkhopnaa
open Go.RowKit

/-- A slice of bytes: where it lies, its length and capacity, its bytes. -/
structure Bs where
  ao : Option Addr
  n : Nat
  cap : Nat
  xs : List Int
def Bs.val (b : Bs) : Value := .slice b.ao b.n b.cap
def Bs.ok (b : Bs) (w : World) : Prop := Sl w b.ao b.n b.cap b.xs
end Go.Proofs.Ytghemebgkhopnaa
