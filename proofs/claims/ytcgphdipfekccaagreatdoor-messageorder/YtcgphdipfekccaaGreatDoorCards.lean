/-
  DERIVED. GIVEN WITH THE SEED: THE CARDS: each row of YtcgphdipfekccaaGreatDoorRows.lean that lists a variable, with what it lists TIED to the program's text (the seventh form; the later family's looks); each row that meets fmt, with fmt's text TOLD by the authors' own Lean function (tested against real Go, not proved from fmt's source: count such statements apart). THE CARD IS WHAT COUNTS. Prove the row's statement (the work); the ties are given (YtcgphdipfekccaaGreatDoorTie.lean); close each card by the builder's one call (the guide's Derived/Test/ToyasCard.lean, 'card_holds'). Laid BY PROGRAM, IN A SANDBOX (cutbox-door.mjs). By AI agents, Wed Nov 11 2026. No macro, syntax, notation, axiom, sorry.
-/
import Derived.Test.YtcgphdipfekccaaGreatDoorRows
import GoSem.ClaimSeven
namespace Go.Proofs.YtcgphdipfekccaaGreatDoor
namespace Rows

/-- THE TIED CARD OF 'bulwarklaw13.MessageOrder'. -/
def messageOrderCard : Claim7 := { stood := { row := messageOrderRow, standIns := [], harness := (true, "3957faae1a9c3c48e793637b186ce7cc37e7e2748894edf6a665c01e0ac85646"), looks := false }, kinds := [], alts := [], laidByText := true, laidKinds := [.data, .data], laidTests := true, laidLooks := .later }
def MessageOrderCardSaid : Prop := Claim7.holds Tryz.pinned (.plain (OpenSpec.ofChange messageOrderSpec)) messageOrderCard

/-- THE SECOND FORM's CARD OF 'bulwarklaw13.MessageOrder'. -/
def messageOrderUptoCard : Claim7 := { stood := { row := messageOrderUptoRow, standIns := [], harness := (true, "3957faae1a9c3c48e793637b186ce7cc37e7e2748894edf6a665c01e0ac85646"), looks := false }, kinds := [], alts := [], laidByText := true, laidKinds := [.data, .data], laidTests := true, laidLooks := .later }
def MessageOrderUptoCardSaid : Prop := Claim7.holds Tryz.pinned (.plain (OpenSpec.upto messageOrderSpec)) messageOrderUptoCard
end Rows
end Go.Proofs.YtcgphdipfekccaaGreatDoor
