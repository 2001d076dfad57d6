/-
  What a signed text says.
-/
import Derived.Test.YtghemebgkhopnaaBase
namespace Go.Proofs.Ytghemebgkhopnaa

/-- A signed text. -/
structure SV where
  fr : Nat
  b : List Int
  tag : List Int
end Go.Proofs.Ytghemebgkhopnaa
