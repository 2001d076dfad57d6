/-
  DERIVED. GIVEN WITH THE SEED: THE CARDS: each row of YtdcebokfnbgkaaaDoorRows.lean that lists a variable, with what it lists TIED to the program's text (the seventh form; the later family's looks); each row that meets fmt, with fmt's text TOLD by the authors' own Lean function (tested against real Go, not proved from fmt's source: count such statements apart). THE CARD IS WHAT COUNTS. Prove the row's statement (the work); the ties are given (YtdcebokfnbgkaaaDoorTie.lean); close each card by the builder's one call (the guide's Derived/Test/ToyasCard.lean, 'card_holds'). Laid BY PROGRAM, IN A SANDBOX (cutbox-door.mjs). By AI agents, Wed Nov 11 2026. No macro, syntax, notation, axiom, sorry.
-/
import Derived.Test.YtdcebokfnbgkaaaDoorRows
import GoSem.ClaimSeven
namespace Go.Proofs.YtdcebokfnbgkaaaDoor
namespace Rows

/-- THE TIED CARD OF 'bulwarklaw16.ChoosePicks'. -/
def choosePicksCard : Claim7 := { stood := { row := choosePicksRow, standIns := [], harness := (true, "3cd8aa0c8faeb98137cd4efe9b76cb193ec1947d1de2fda81d1d9ebff665d8fb"), looks := false }, kinds := [], alts := [], laidByText := true, laidKinds := [.data, .data], laidTests := true, laidLooks := .later }
def ChoosePicksCardSaid : Prop := Claim7.holds Tryd.pinned (.plain (OpenSpec.ofChange choosePicksSpec)) choosePicksCard

/-- THE TIED CARD OF 'bulwarklaw16.ChooseKeeps'. -/
def chooseKeepsCard : Claim7 := { stood := { row := chooseKeepsRow, standIns := [], harness := (true, "3cd8aa0c8faeb98137cd4efe9b76cb193ec1947d1de2fda81d1d9ebff665d8fb"), looks := false }, kinds := [], alts := [], laidByText := true, laidKinds := [.data, .data], laidTests := true, laidLooks := .later }
def ChooseKeepsCardSaid : Prop := Claim7.holds Tryd.pinned (.plain (OpenSpec.ofChange chooseKeepsSpec)) chooseKeepsCard

/-- THE TIED CARD OF 'bulwarklaw16.ChooseWhole'. -/
def chooseWholeCard : Claim7 := { stood := { row := chooseWholeRow, standIns := [], harness := (true, "3cd8aa0c8faeb98137cd4efe9b76cb193ec1947d1de2fda81d1d9ebff665d8fb"), looks := false }, kinds := [], alts := [], laidByText := true, laidKinds := [.data, .data], laidTests := true, laidLooks := .later }
def ChooseWholeCardSaid : Prop := Claim7.holds Tryd.pinned (.plain (OpenSpec.ofChange chooseWholeSpec)) chooseWholeCard

/-- THE SECOND FORM's CARD OF 'bulwarklaw16.ChoosePicks'. -/
def choosePicksUptoCard : Claim7 := { stood := { row := choosePicksUptoRow, standIns := [], harness := (true, "3cd8aa0c8faeb98137cd4efe9b76cb193ec1947d1de2fda81d1d9ebff665d8fb"), looks := false }, kinds := [], alts := [], laidByText := true, laidKinds := [.data, .data], laidTests := true, laidLooks := .later }
def ChoosePicksUptoCardSaid : Prop := Claim7.holds Tryd.pinned (.plain (OpenSpec.upto choosePicksSpec)) choosePicksUptoCard

/-- THE SECOND FORM's CARD OF 'bulwarklaw16.ChooseKeeps'. -/
def chooseKeepsUptoCard : Claim7 := { stood := { row := chooseKeepsUptoRow, standIns := [], harness := (true, "3cd8aa0c8faeb98137cd4efe9b76cb193ec1947d1de2fda81d1d9ebff665d8fb"), looks := false }, kinds := [], alts := [], laidByText := true, laidKinds := [.data, .data], laidTests := true, laidLooks := .later }
def ChooseKeepsUptoCardSaid : Prop := Claim7.holds Tryd.pinned (.plain (OpenSpec.upto chooseKeepsSpec)) chooseKeepsUptoCard

/-- THE SECOND FORM's CARD OF 'bulwarklaw16.ChooseWhole'. -/
def chooseWholeUptoCard : Claim7 := { stood := { row := chooseWholeUptoRow, standIns := [], harness := (true, "3cd8aa0c8faeb98137cd4efe9b76cb193ec1947d1de2fda81d1d9ebff665d8fb"), looks := false }, kinds := [], alts := [], laidByText := true, laidKinds := [.data, .data], laidTests := true, laidLooks := .later }
def ChooseWholeUptoCardSaid : Prop := Claim7.holds Tryd.pinned (.plain (OpenSpec.upto chooseWholeSpec)) chooseWholeUptoCard
end Rows
end Go.Proofs.YtdcebokfnbgkaaaDoor
