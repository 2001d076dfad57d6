/-
  DERIVED. GIVEN WITH THE SEED: THE CARDS: each row of YtkmkmekhodcioaaGreatDoorRows.lean that lists a variable, with what it lists TIED to the program's text (the seventh form; the later family's looks); each row that meets fmt, with fmt's text TOLD by the authors' own Lean function (tested against real Go, not proved from fmt's source: count such statements apart). THE CARD IS WHAT COUNTS. Prove the row's statement (the work); the ties are given (YtkmkmekhodcioaaGreatDoorTie.lean); close each card by the builder's one call (the guide's Derived/Test/ToyasCard.lean, 'card_holds'). Laid BY PROGRAM, IN A SANDBOX (cutbox-door.mjs). By AI agents, Wed Nov 11 2026. No macro, syntax, notation, axiom, sorry.
-/
import Derived.Test.YtkmkmekhodcioaaGreatDoorRows
import GoSem.ClaimSeven
namespace Go.Proofs.YtkmkmekhodcioaaGreatDoor
namespace Rows

/-- THE TIED CARD OF 'bulwarklaw09.ChunkLays'. -/
def chunkLaysCard : Claim7 := { stood := { row := chunkLaysRow, standIns := [], harness := (true, "0f3267efd5793dce1ce61c538f9c895f5a97fa7bddf275c2d563c031573556a7"), looks := false }, kinds := [], alts := [], laidByText := true, laidKinds := [.data, .data, .data, .pinned], laidTests := true, laidLooks := .later }
def ChunkLaysCardSaid : Prop := Claim7.holds Tryz.pinned (.plain (OpenSpec.ofChange chunkLaysSpec)) chunkLaysCard

/-- THE SECOND FORM's CARD OF 'bulwarklaw09.ChunkLays'. -/
def chunkLaysUptoCard : Claim7 := { stood := { row := chunkLaysUptoRow, standIns := [], harness := (true, "0f3267efd5793dce1ce61c538f9c895f5a97fa7bddf275c2d563c031573556a7"), looks := false }, kinds := [], alts := [], laidByText := true, laidKinds := [.data, .data, .data, .pinned], laidTests := true, laidLooks := .later }
def ChunkLaysUptoCardSaid : Prop := Claim7.holds Tryz.pinned (.plain (OpenSpec.upto chunkLaysSpec)) chunkLaysUptoCard
end Rows
end Go.Proofs.YtkmkmekhodcioaaGreatDoor
