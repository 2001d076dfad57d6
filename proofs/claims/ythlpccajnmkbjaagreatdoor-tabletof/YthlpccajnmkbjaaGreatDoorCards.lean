/-
  DERIVED. GIVEN WITH THE SEED: THE CARDS: each row of YthlpccajnmkbjaaGreatDoorRows.lean that lists a variable, with what it lists TIED to the program's text (the seventh form; the later family's looks); each row that meets fmt, with fmt's text TOLD by the authors' own Lean function (tested against real Go, not proved from fmt's source: count such statements apart). THE CARD IS WHAT COUNTS. Prove the row's statement (the work); the ties are given (YthlpccajnmkbjaaGreatDoorTie.lean); close each card by the builder's one call (the guide's Derived/Test/ToyasCard.lean, 'card_holds'). Laid BY PROGRAM, IN A SANDBOX (cutbox-door.mjs). By AI agents, Wed Nov 11 2026. No macro, syntax, notation, axiom, sorry.
-/
import Derived.Test.YthlpccajnmkbjaaGreatDoorRows
import GoSem.ClaimSeven
namespace Go.Proofs.YthlpccajnmkbjaaGreatDoor
namespace Rows

/-- THE TIED CARD OF 'bulwarklaw10.TabletPlays'. -/
def tabletPlaysCard : Claim7 := { stood := { row := tabletPlaysRow, standIns := [], harness := (true, "6cbf9a41006a720341f4447aba0e1494d7586b8541df5919ee6bc0949c441f4e"), looks := false }, kinds := [], alts := [], laidByText := true, laidKinds := [.data, .data, .data, .pinned], laidTests := true, laidLooks := .later }
def TabletPlaysCardSaid : Prop := Claim7.holds Tryz.pinned (.plain (OpenSpec.ofChange tabletPlaysSpec)) tabletPlaysCard

/-- THE TIED CARD OF 'bulwarklaw10.TabletOf'. -/
def tabletOfCard : Claim7 := { stood := { row := tabletOfRow, standIns := [], harness := (true, "6cbf9a41006a720341f4447aba0e1494d7586b8541df5919ee6bc0949c441f4e"), looks := false }, kinds := [], alts := [], laidByText := true, laidKinds := [.data, .data, .data, .pinned], laidTests := true, laidLooks := .later }
def TabletOfCardSaid : Prop := Claim7.holds Tryz.pinned (.plain (OpenSpec.ofChange tabletOfSpec)) tabletOfCard

/-- THE TIED CARD OF 'bulwarklaw10.TabletAsks'. -/
def tabletAsksCard : Claim7 := { stood := { row := tabletAsksRow, standIns := [], harness := (true, "6cbf9a41006a720341f4447aba0e1494d7586b8541df5919ee6bc0949c441f4e"), looks := false }, kinds := [], alts := [], laidByText := true, laidKinds := [.data, .data, .data, .pinned], laidTests := true, laidLooks := .later }
def TabletAsksCardSaid : Prop := Claim7.holds Tryz.pinned (.plain (OpenSpec.ofChange tabletAsksSpec)) tabletAsksCard

/-- THE TIED CARD OF 'bulwarklaw10.TabletKeeps'. -/
def tabletKeepsCard : Claim7 := { stood := { row := tabletKeepsRow, standIns := [], harness := (true, "6cbf9a41006a720341f4447aba0e1494d7586b8541df5919ee6bc0949c441f4e"), looks := false }, kinds := [], alts := [], laidByText := true, laidKinds := [.data, .data, .data, .pinned], laidTests := true, laidLooks := .later }
def TabletKeepsCardSaid : Prop := Claim7.holds Tryz.pinned (.plain (OpenSpec.ofChange tabletKeepsSpec)) tabletKeepsCard

/-- THE TIED CARD OF 'bulwarklaw10.TabletReads'. -/
def tabletReadsCard : Claim7 := { stood := { row := tabletReadsRow, standIns := [], harness := (true, "6cbf9a41006a720341f4447aba0e1494d7586b8541df5919ee6bc0949c441f4e"), looks := false }, kinds := [], alts := [], laidByText := true, laidKinds := [.data, .data, .data, .pinned], laidTests := true, laidLooks := .later }
def TabletReadsCardSaid : Prop := Claim7.holds Tryz.pinned (.plain (OpenSpec.ofChange tabletReadsSpec)) tabletReadsCard

/-- THE TIED CARD OF 'bulwarklaw10.TabletBatch'. -/
def tabletBatchCard : Claim7 := { stood := { row := tabletBatchRow, standIns := [], harness := (true, "6cbf9a41006a720341f4447aba0e1494d7586b8541df5919ee6bc0949c441f4e"), looks := false }, kinds := [], alts := [], laidByText := true, laidKinds := [.data, .data, .data, .pinned], laidTests := true, laidLooks := .later }
def TabletBatchCardSaid : Prop := Claim7.holds Tryz.pinned (.plain (OpenSpec.ofChange tabletBatchSpec)) tabletBatchCard

/-- THE SECOND FORM's CARD OF 'bulwarklaw10.TabletPlays'. -/
def tabletPlaysUptoCard : Claim7 := { stood := { row := tabletPlaysUptoRow, standIns := [], harness := (true, "6cbf9a41006a720341f4447aba0e1494d7586b8541df5919ee6bc0949c441f4e"), looks := false }, kinds := [], alts := [], laidByText := true, laidKinds := [.data, .data, .data, .pinned], laidTests := true, laidLooks := .later }
def TabletPlaysUptoCardSaid : Prop := Claim7.holds Tryz.pinned (.plain (OpenSpec.upto tabletPlaysSpec)) tabletPlaysUptoCard

/-- THE SECOND FORM's CARD OF 'bulwarklaw10.TabletOf'. -/
def tabletOfUptoCard : Claim7 := { stood := { row := tabletOfUptoRow, standIns := [], harness := (true, "6cbf9a41006a720341f4447aba0e1494d7586b8541df5919ee6bc0949c441f4e"), looks := false }, kinds := [], alts := [], laidByText := true, laidKinds := [.data, .data, .data, .pinned], laidTests := true, laidLooks := .later }
def TabletOfUptoCardSaid : Prop := Claim7.holds Tryz.pinned (.plain (OpenSpec.upto tabletOfSpec)) tabletOfUptoCard

/-- THE SECOND FORM's CARD OF 'bulwarklaw10.TabletAsks'. -/
def tabletAsksUptoCard : Claim7 := { stood := { row := tabletAsksUptoRow, standIns := [], harness := (true, "6cbf9a41006a720341f4447aba0e1494d7586b8541df5919ee6bc0949c441f4e"), looks := false }, kinds := [], alts := [], laidByText := true, laidKinds := [.data, .data, .data, .pinned], laidTests := true, laidLooks := .later }
def TabletAsksUptoCardSaid : Prop := Claim7.holds Tryz.pinned (.plain (OpenSpec.upto tabletAsksSpec)) tabletAsksUptoCard

/-- THE SECOND FORM's CARD OF 'bulwarklaw10.TabletKeeps'. -/
def tabletKeepsUptoCard : Claim7 := { stood := { row := tabletKeepsUptoRow, standIns := [], harness := (true, "6cbf9a41006a720341f4447aba0e1494d7586b8541df5919ee6bc0949c441f4e"), looks := false }, kinds := [], alts := [], laidByText := true, laidKinds := [.data, .data, .data, .pinned], laidTests := true, laidLooks := .later }
def TabletKeepsUptoCardSaid : Prop := Claim7.holds Tryz.pinned (.plain (OpenSpec.upto tabletKeepsSpec)) tabletKeepsUptoCard

/-- THE SECOND FORM's CARD OF 'bulwarklaw10.TabletReads'. -/
def tabletReadsUptoCard : Claim7 := { stood := { row := tabletReadsUptoRow, standIns := [], harness := (true, "6cbf9a41006a720341f4447aba0e1494d7586b8541df5919ee6bc0949c441f4e"), looks := false }, kinds := [], alts := [], laidByText := true, laidKinds := [.data, .data, .data, .pinned], laidTests := true, laidLooks := .later }
def TabletReadsUptoCardSaid : Prop := Claim7.holds Tryz.pinned (.plain (OpenSpec.upto tabletReadsSpec)) tabletReadsUptoCard

/-- THE SECOND FORM's CARD OF 'bulwarklaw10.TabletBatch'. -/
def tabletBatchUptoCard : Claim7 := { stood := { row := tabletBatchUptoRow, standIns := [], harness := (true, "6cbf9a41006a720341f4447aba0e1494d7586b8541df5919ee6bc0949c441f4e"), looks := false }, kinds := [], alts := [], laidByText := true, laidKinds := [.data, .data, .data, .pinned], laidTests := true, laidLooks := .later }
def TabletBatchUptoCardSaid : Prop := Claim7.holds Tryz.pinned (.plain (OpenSpec.upto tabletBatchSpec)) tabletBatchUptoCard
end Rows
end Go.Proofs.YthlpccajnmkbjaaGreatDoor
