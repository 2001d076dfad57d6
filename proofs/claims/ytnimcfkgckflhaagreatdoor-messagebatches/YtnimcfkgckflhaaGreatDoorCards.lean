/-
  DERIVED. GIVEN WITH THE SEED: THE CARDS: each row of YtnimcfkgckflhaaGreatDoorRows.lean that lists a variable, with what it lists TIED to the program's text (the seventh form; the later family's looks); each row that meets fmt, with fmt's text TOLD by the authors' own Lean function (tested against real Go, not proved from fmt's source: count such statements apart). THE CARD IS WHAT COUNTS. Prove the row's statement (the work); the ties are given (YtnimcfkgckflhaaGreatDoorTie.lean); close each card by the builder's one call (the guide's Derived/Test/ToyasCard.lean, 'card_holds'). Laid BY PROGRAM, IN A SANDBOX (cutbox-door.mjs). By AI agents, Wed Nov 11 2026. No macro, syntax, notation, axiom, sorry.
-/
import Derived.Test.YtnimcfkgckflhaaGreatDoorRows
import GoSem.ClaimSeven
namespace Go.Proofs.YtnimcfkgckflhaaGreatDoor
namespace Rows

/-- THE TIED CARD OF 'bulwarklaw13.MessageBatches'. -/
def messageBatchesCard : Claim7 := { stood := { row := messageBatchesRow, standIns := [], harness := (true, "32f622ae80fefc81a18c950ab1ac7392428681b98c1d34ba634620a9c1501820"), looks := false }, kinds := [], alts := [], laidByText := true, laidKinds := [.data, .data], laidTests := true, laidLooks := .later }
def MessageBatchesCardSaid : Prop := Claim7.holds Tryz.pinned (.plain (OpenSpec.ofChange messageBatchesSpec)) messageBatchesCard

/-- THE TIED CARD OF 'bulwarklaw13.MessageOrder'. -/
def messageOrderCard : Claim7 := { stood := { row := messageOrderRow, standIns := [], harness := (true, "32f622ae80fefc81a18c950ab1ac7392428681b98c1d34ba634620a9c1501820"), looks := false }, kinds := [], alts := [], laidByText := true, laidKinds := [.data, .data], laidTests := true, laidLooks := .later }
def MessageOrderCardSaid : Prop := Claim7.holds Tryz.pinned (.plain (OpenSpec.ofChange messageOrderSpec)) messageOrderCard

/-- THE SECOND FORM's CARD OF 'bulwarklaw13.MessageBatches'. -/
def messageBatchesUptoCard : Claim7 := { stood := { row := messageBatchesUptoRow, standIns := [], harness := (true, "32f622ae80fefc81a18c950ab1ac7392428681b98c1d34ba634620a9c1501820"), looks := false }, kinds := [], alts := [], laidByText := true, laidKinds := [.data, .data], laidTests := true, laidLooks := .later }
def MessageBatchesUptoCardSaid : Prop := Claim7.holds Tryz.pinned (.plain (OpenSpec.upto messageBatchesSpec)) messageBatchesUptoCard

/-- THE SECOND FORM's CARD OF 'bulwarklaw13.MessageOrder'. -/
def messageOrderUptoCard : Claim7 := { stood := { row := messageOrderUptoRow, standIns := [], harness := (true, "32f622ae80fefc81a18c950ab1ac7392428681b98c1d34ba634620a9c1501820"), looks := false }, kinds := [], alts := [], laidByText := true, laidKinds := [.data, .data], laidTests := true, laidLooks := .later }
def MessageOrderUptoCardSaid : Prop := Claim7.holds Tryz.pinned (.plain (OpenSpec.upto messageOrderSpec)) messageOrderUptoCard
end Rows
end Go.Proofs.YtnimcfkgckflhaaGreatDoor
