/-
  DERIVED. GIVEN WITH THE SEED: THE CARDS: each row of YtnicnfjickknjaaGreatDoorRows.lean that lists a variable, with what it lists TIED to the program's text (the seventh form; the later family's looks); each row that meets fmt, with fmt's text TOLD by the authors' own Lean function (tested against real Go, not proved from fmt's source: count such statements apart). THE CARD IS WHAT COUNTS. Prove the row's statement (the work); the ties are given (YtnicnfjickknjaaGreatDoorTie.lean); close each card by the builder's one call (the guide's Derived/Test/ToyasCard.lean, 'card_holds'). Laid BY PROGRAM, IN A SANDBOX (cutbox-door.mjs). By AI agents, Wed Nov 11 2026. No macro, syntax, notation, axiom, sorry.
-/
import Derived.Test.YtnicnfjickknjaaGreatDoorRows
import GoSem.ClaimSeven
namespace Go.Proofs.YtnicnfjickknjaaGreatDoor
namespace Rows

/-- THE TIED CARD OF 'bulwarklaw10.TabletItems'. -/
def tabletItemsCard : Claim7 := { stood := { row := tabletItemsRow, standIns := [], harness := (true, "b610e8465228a93baea1791810480241c5ab51e63655e1474229a4566b6c8867"), looks := false }, kinds := [], alts := [], laidByText := true, laidKinds := [.data, .data, .data, .pinned], laidTests := true, laidLooks := .later }
def TabletItemsCardSaid : Prop := Claim7.holds Tryz.pinned (.plain (OpenSpec.ofChange tabletItemsSpec)) tabletItemsCard

/-- THE TIED CARD OF 'bulwarklaw10.TabletAsks'. -/
def tabletAsksCard : Claim7 := { stood := { row := tabletAsksRow, standIns := [], harness := (true, "b610e8465228a93baea1791810480241c5ab51e63655e1474229a4566b6c8867"), looks := false }, kinds := [], alts := [], laidByText := true, laidKinds := [.data, .data, .data, .pinned], laidTests := true, laidLooks := .later }
def TabletAsksCardSaid : Prop := Claim7.holds Tryz.pinned (.plain (OpenSpec.ofChange tabletAsksSpec)) tabletAsksCard

/-- THE TIED CARD OF 'bulwarklaw10.TabletReads'. -/
def tabletReadsCard : Claim7 := { stood := { row := tabletReadsRow, standIns := [], harness := (true, "b610e8465228a93baea1791810480241c5ab51e63655e1474229a4566b6c8867"), looks := false }, kinds := [], alts := [], laidByText := true, laidKinds := [.data, .data, .data, .pinned], laidTests := true, laidLooks := .later }
def TabletReadsCardSaid : Prop := Claim7.holds Tryz.pinned (.plain (OpenSpec.ofChange tabletReadsSpec)) tabletReadsCard

/-- THE TIED CARD OF 'bulwarklaw10.TabletBatch'. -/
def tabletBatchCard : Claim7 := { stood := { row := tabletBatchRow, standIns := [], harness := (true, "b610e8465228a93baea1791810480241c5ab51e63655e1474229a4566b6c8867"), looks := false }, kinds := [], alts := [], laidByText := true, laidKinds := [.data, .data, .data, .pinned], laidTests := true, laidLooks := .later }
def TabletBatchCardSaid : Prop := Claim7.holds Tryz.pinned (.plain (OpenSpec.ofChange tabletBatchSpec)) tabletBatchCard

/-- THE TIED CARD OF 'bulwarklaw10.TabletNils'. -/
def tabletNilsCard : Claim7 := { stood := { row := tabletNilsRow, standIns := [], harness := (true, "b610e8465228a93baea1791810480241c5ab51e63655e1474229a4566b6c8867"), looks := false }, kinds := [], alts := [], laidByText := true, laidKinds := [.data, .data, .data, .pinned], laidTests := true, laidLooks := .later }
def TabletNilsCardSaid : Prop := Claim7.holds Tryz.pinned (.plain (OpenSpec.ofChange tabletNilsSpec)) tabletNilsCard

/-- THE SECOND FORM's CARD OF 'bulwarklaw10.TabletItems'. -/
def tabletItemsUptoCard : Claim7 := { stood := { row := tabletItemsUptoRow, standIns := [], harness := (true, "b610e8465228a93baea1791810480241c5ab51e63655e1474229a4566b6c8867"), looks := false }, kinds := [], alts := [], laidByText := true, laidKinds := [.data, .data, .data, .pinned], laidTests := true, laidLooks := .later }
def TabletItemsUptoCardSaid : Prop := Claim7.holds Tryz.pinned (.plain (OpenSpec.upto tabletItemsSpec)) tabletItemsUptoCard

/-- THE SECOND FORM's CARD OF 'bulwarklaw10.TabletAsks'. -/
def tabletAsksUptoCard : Claim7 := { stood := { row := tabletAsksUptoRow, standIns := [], harness := (true, "b610e8465228a93baea1791810480241c5ab51e63655e1474229a4566b6c8867"), looks := false }, kinds := [], alts := [], laidByText := true, laidKinds := [.data, .data, .data, .pinned], laidTests := true, laidLooks := .later }
def TabletAsksUptoCardSaid : Prop := Claim7.holds Tryz.pinned (.plain (OpenSpec.upto tabletAsksSpec)) tabletAsksUptoCard

/-- THE SECOND FORM's CARD OF 'bulwarklaw10.TabletReads'. -/
def tabletReadsUptoCard : Claim7 := { stood := { row := tabletReadsUptoRow, standIns := [], harness := (true, "b610e8465228a93baea1791810480241c5ab51e63655e1474229a4566b6c8867"), looks := false }, kinds := [], alts := [], laidByText := true, laidKinds := [.data, .data, .data, .pinned], laidTests := true, laidLooks := .later }
def TabletReadsUptoCardSaid : Prop := Claim7.holds Tryz.pinned (.plain (OpenSpec.upto tabletReadsSpec)) tabletReadsUptoCard

/-- THE SECOND FORM's CARD OF 'bulwarklaw10.TabletBatch'. -/
def tabletBatchUptoCard : Claim7 := { stood := { row := tabletBatchUptoRow, standIns := [], harness := (true, "b610e8465228a93baea1791810480241c5ab51e63655e1474229a4566b6c8867"), looks := false }, kinds := [], alts := [], laidByText := true, laidKinds := [.data, .data, .data, .pinned], laidTests := true, laidLooks := .later }
def TabletBatchUptoCardSaid : Prop := Claim7.holds Tryz.pinned (.plain (OpenSpec.upto tabletBatchSpec)) tabletBatchUptoCard

/-- THE SECOND FORM's CARD OF 'bulwarklaw10.TabletNils'. -/
def tabletNilsUptoCard : Claim7 := { stood := { row := tabletNilsUptoRow, standIns := [], harness := (true, "b610e8465228a93baea1791810480241c5ab51e63655e1474229a4566b6c8867"), looks := false }, kinds := [], alts := [], laidByText := true, laidKinds := [.data, .data, .data, .pinned], laidTests := true, laidLooks := .later }
def TabletNilsUptoCardSaid : Prop := Claim7.holds Tryz.pinned (.plain (OpenSpec.upto tabletNilsSpec)) tabletNilsUptoCard
end Rows
end Go.Proofs.YtnicnfjickknjaaGreatDoor
