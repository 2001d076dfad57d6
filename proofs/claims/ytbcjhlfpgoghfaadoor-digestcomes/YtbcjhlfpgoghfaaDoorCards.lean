/-
  DERIVED. GIVEN WITH THE SEED: THE CARDS: each row of YtbcjhlfpgoghfaaDoorRows.lean that lists a variable, with what it lists TIED to the program's text (the seventh form; the later family's looks); each row that meets fmt, with fmt's text TOLD by the authors' own Lean function (tested against real Go, not proved from fmt's source: count such statements apart). THE CARD IS WHAT COUNTS. Prove the row's statement (the work); the ties are given (YtbcjhlfpgoghfaaDoorTie.lean); close each card by the builder's one call (the guide's Derived/Test/ToyasCard.lean, 'card_holds'). Laid BY PROGRAM, IN A SANDBOX (cutbox-door.mjs). By AI agents, Wed Nov 11 2026. No macro, syntax, notation, axiom, sorry.
-/
import Derived.Test.YtbcjhlfpgoghfaaDoorRows
import GoSem.ClaimSeven
namespace Go.Proofs.YtbcjhlfpgoghfaaDoor
namespace Rows

/-- THE TIED CARD OF 'bulwarklaw02.DigestSums'. -/
def digestSumsCard : Claim7 := { stood := { row := digestSumsRow, standIns := [], harness := (true, "dbb2060fd5e77a67d20468e0ea18ee90c0b96339502a29f0eb7b00123d3ba9c8"), looks := false }, kinds := [], alts := [], laidByText := true, laidKinds := [.data, .data], laidTests := true, laidLooks := .later }
def DigestSumsCardSaid : Prop := Claim7.holds Tryd.pinned (.plain (OpenSpec.ofChange digestSumsSpec)) digestSumsCard

/-- THE TIED CARD OF 'bulwarklaw02.DigestMacs'. -/
def digestMacsCard : Claim7 := { stood := { row := digestMacsRow, standIns := [], harness := (true, "dbb2060fd5e77a67d20468e0ea18ee90c0b96339502a29f0eb7b00123d3ba9c8"), looks := false }, kinds := [], alts := [], laidByText := true, laidKinds := [.data, .data], laidTests := true, laidLooks := .later }
def DigestMacsCardSaid : Prop := Claim7.holds Tryd.pinned (.plain (OpenSpec.ofChange digestMacsSpec)) digestMacsCard

/-- THE TIED CARD OF 'bulwarklaw02.DigestComes'. -/
def digestComesCard : Claim7 := { stood := { row := digestComesRow, standIns := [], harness := (true, "dbb2060fd5e77a67d20468e0ea18ee90c0b96339502a29f0eb7b00123d3ba9c8"), looks := false }, kinds := [], alts := [], laidByText := true, laidKinds := [.data, .data], laidTests := true, laidLooks := .later }
def DigestComesCardSaid : Prop := Claim7.holds Tryd.pinned (.plain (OpenSpec.ofChange digestComesSpec)) digestComesCard

/-- THE SECOND FORM's CARD OF 'bulwarklaw02.DigestSums'. -/
def digestSumsUptoCard : Claim7 := { stood := { row := digestSumsUptoRow, standIns := [], harness := (true, "dbb2060fd5e77a67d20468e0ea18ee90c0b96339502a29f0eb7b00123d3ba9c8"), looks := false }, kinds := [], alts := [], laidByText := true, laidKinds := [.data, .data], laidTests := true, laidLooks := .later }
def DigestSumsUptoCardSaid : Prop := Claim7.holds Tryd.pinned (.plain (OpenSpec.upto digestSumsSpec)) digestSumsUptoCard

/-- THE SECOND FORM's CARD OF 'bulwarklaw02.DigestMacs'. -/
def digestMacsUptoCard : Claim7 := { stood := { row := digestMacsUptoRow, standIns := [], harness := (true, "dbb2060fd5e77a67d20468e0ea18ee90c0b96339502a29f0eb7b00123d3ba9c8"), looks := false }, kinds := [], alts := [], laidByText := true, laidKinds := [.data, .data], laidTests := true, laidLooks := .later }
def DigestMacsUptoCardSaid : Prop := Claim7.holds Tryd.pinned (.plain (OpenSpec.upto digestMacsSpec)) digestMacsUptoCard

/-- THE SECOND FORM's CARD OF 'bulwarklaw02.DigestComes'. -/
def digestComesUptoCard : Claim7 := { stood := { row := digestComesUptoRow, standIns := [], harness := (true, "dbb2060fd5e77a67d20468e0ea18ee90c0b96339502a29f0eb7b00123d3ba9c8"), looks := false }, kinds := [], alts := [], laidByText := true, laidKinds := [.data, .data], laidTests := true, laidLooks := .later }
def DigestComesUptoCardSaid : Prop := Claim7.holds Tryd.pinned (.plain (OpenSpec.upto digestComesSpec)) digestComesUptoCard
end Rows
end Go.Proofs.YtbcjhlfpgoghfaaDoor
