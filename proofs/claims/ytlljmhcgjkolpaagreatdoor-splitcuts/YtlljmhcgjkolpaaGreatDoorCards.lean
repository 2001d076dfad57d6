/-
  DERIVED. GIVEN WITH THE SEED: THE CARDS: each row of YtlljmhcgjkolpaaGreatDoorRows.lean that lists a variable, with what it lists TIED to the program's text (the seventh form; the later family's looks); each row that meets fmt, with fmt's text TOLD by the authors' own Lean function (tested against real Go, not proved from fmt's source: count such statements apart). THE CARD IS WHAT COUNTS. Prove the row's statement (the work); the ties are given (YtlljmhcgjkolpaaGreatDoorTie.lean); close each card by the builder's one call (the guide's Derived/Test/ToyasCard.lean, 'card_holds'). Laid BY PROGRAM, IN A SANDBOX (cutbox-door.mjs). By AI agents, Wed Nov 11 2026. No macro, syntax, notation, axiom, sorry.
-/
import Derived.Test.YtlljmhcgjkolpaaGreatDoorRows
import GoSem.ClaimSeven
namespace Go.Proofs.YtlljmhcgjkolpaaGreatDoor
namespace Rows

/-- THE TIED CARD OF 'bulwarklaw10.TabletFull'. -/
def tabletFullCard : Claim7 := { stood := { row := tabletFullRow, standIns := [], harness := (true, "0c8358244331ed1a5035ee7f5f2d0bfc2e1cdb949dcb94a17c7aeccb2c290472"), looks := false }, kinds := [], alts := [], laidByText := true, laidKinds := [.data, .data, .data, .pinned], laidTests := true, laidLooks := .later }
def TabletFullCardSaid : Prop := Claim7.holds Tryz.pinned (.plain (OpenSpec.ofChange tabletFullSpec)) tabletFullCard

/-- THE TIED CARD OF 'bulwarklaw11.SplitCuts'. -/
def splitCutsCard : Claim7 := { stood := { row := splitCutsRow, standIns := [], harness := (true, "0c8358244331ed1a5035ee7f5f2d0bfc2e1cdb949dcb94a17c7aeccb2c290472"), looks := false }, kinds := [], alts := [], laidByText := true, laidKinds := [.data, .data, .data, .pinned], laidTests := true, laidLooks := .later }
def SplitCutsCardSaid : Prop := Claim7.holds Tryz.pinned (.plain (OpenSpec.ofChange splitCutsSpec)) splitCutsCard

/-- THE TIED CARD OF 'bulwarklaw11.SplitMerges'. -/
def splitMergesCard : Claim7 := { stood := { row := splitMergesRow, standIns := [], harness := (true, "0c8358244331ed1a5035ee7f5f2d0bfc2e1cdb949dcb94a17c7aeccb2c290472"), looks := false }, kinds := [], alts := [], laidByText := true, laidKinds := [.data, .data, .data, .pinned], laidTests := true, laidLooks := .later }
def SplitMergesCardSaid : Prop := Claim7.holds Tryz.pinned (.plain (OpenSpec.ofChange splitMergesSpec)) splitMergesCard

/-- THE TIED CARD OF 'bulwarklaw11.SplitBack'. -/
def splitBackCard : Claim7 := { stood := { row := splitBackRow, standIns := [], harness := (true, "0c8358244331ed1a5035ee7f5f2d0bfc2e1cdb949dcb94a17c7aeccb2c290472"), looks := false }, kinds := [], alts := [], laidByText := true, laidKinds := [.data, .data, .data, .pinned], laidTests := true, laidLooks := .later }
def SplitBackCardSaid : Prop := Claim7.holds Tryz.pinned (.plain (OpenSpec.ofChange splitBackSpec)) splitBackCard

/-- THE TIED CARD OF 'bulwarklaw11.SplitSame'. -/
def splitSameCard : Claim7 := { stood := { row := splitSameRow, standIns := [], harness := (true, "0c8358244331ed1a5035ee7f5f2d0bfc2e1cdb949dcb94a17c7aeccb2c290472"), looks := false }, kinds := [], alts := [], laidByText := true, laidKinds := [.data, .data, .data, .pinned], laidTests := true, laidLooks := .later }
def SplitSameCardSaid : Prop := Claim7.holds Tryz.pinned (.plain (OpenSpec.ofChange splitSameSpec)) splitSameCard

/-- THE TIED CARD OF 'bulwarklaw11.SplitHalf'. -/
def splitHalfCard : Claim7 := { stood := { row := splitHalfRow, standIns := [], harness := (true, "0c8358244331ed1a5035ee7f5f2d0bfc2e1cdb949dcb94a17c7aeccb2c290472"), looks := false }, kinds := [], alts := [], laidByText := true, laidKinds := [.data, .data, .data, .pinned], laidTests := true, laidLooks := .later }
def SplitHalfCardSaid : Prop := Claim7.holds Tryz.pinned (.plain (OpenSpec.ofChange splitHalfSpec)) splitHalfCard

/-- THE SECOND FORM's CARD OF 'bulwarklaw10.TabletFull'. -/
def tabletFullUptoCard : Claim7 := { stood := { row := tabletFullUptoRow, standIns := [], harness := (true, "0c8358244331ed1a5035ee7f5f2d0bfc2e1cdb949dcb94a17c7aeccb2c290472"), looks := false }, kinds := [], alts := [], laidByText := true, laidKinds := [.data, .data, .data, .pinned], laidTests := true, laidLooks := .later }
def TabletFullUptoCardSaid : Prop := Claim7.holds Tryz.pinned (.plain (OpenSpec.upto tabletFullSpec)) tabletFullUptoCard

/-- THE SECOND FORM's CARD OF 'bulwarklaw11.SplitCuts'. -/
def splitCutsUptoCard : Claim7 := { stood := { row := splitCutsUptoRow, standIns := [], harness := (true, "0c8358244331ed1a5035ee7f5f2d0bfc2e1cdb949dcb94a17c7aeccb2c290472"), looks := false }, kinds := [], alts := [], laidByText := true, laidKinds := [.data, .data, .data, .pinned], laidTests := true, laidLooks := .later }
def SplitCutsUptoCardSaid : Prop := Claim7.holds Tryz.pinned (.plain (OpenSpec.upto splitCutsSpec)) splitCutsUptoCard

/-- THE SECOND FORM's CARD OF 'bulwarklaw11.SplitMerges'. -/
def splitMergesUptoCard : Claim7 := { stood := { row := splitMergesUptoRow, standIns := [], harness := (true, "0c8358244331ed1a5035ee7f5f2d0bfc2e1cdb949dcb94a17c7aeccb2c290472"), looks := false }, kinds := [], alts := [], laidByText := true, laidKinds := [.data, .data, .data, .pinned], laidTests := true, laidLooks := .later }
def SplitMergesUptoCardSaid : Prop := Claim7.holds Tryz.pinned (.plain (OpenSpec.upto splitMergesSpec)) splitMergesUptoCard

/-- THE SECOND FORM's CARD OF 'bulwarklaw11.SplitBack'. -/
def splitBackUptoCard : Claim7 := { stood := { row := splitBackUptoRow, standIns := [], harness := (true, "0c8358244331ed1a5035ee7f5f2d0bfc2e1cdb949dcb94a17c7aeccb2c290472"), looks := false }, kinds := [], alts := [], laidByText := true, laidKinds := [.data, .data, .data, .pinned], laidTests := true, laidLooks := .later }
def SplitBackUptoCardSaid : Prop := Claim7.holds Tryz.pinned (.plain (OpenSpec.upto splitBackSpec)) splitBackUptoCard

/-- THE SECOND FORM's CARD OF 'bulwarklaw11.SplitSame'. -/
def splitSameUptoCard : Claim7 := { stood := { row := splitSameUptoRow, standIns := [], harness := (true, "0c8358244331ed1a5035ee7f5f2d0bfc2e1cdb949dcb94a17c7aeccb2c290472"), looks := false }, kinds := [], alts := [], laidByText := true, laidKinds := [.data, .data, .data, .pinned], laidTests := true, laidLooks := .later }
def SplitSameUptoCardSaid : Prop := Claim7.holds Tryz.pinned (.plain (OpenSpec.upto splitSameSpec)) splitSameUptoCard

/-- THE SECOND FORM's CARD OF 'bulwarklaw11.SplitHalf'. -/
def splitHalfUptoCard : Claim7 := { stood := { row := splitHalfUptoRow, standIns := [], harness := (true, "0c8358244331ed1a5035ee7f5f2d0bfc2e1cdb949dcb94a17c7aeccb2c290472"), looks := false }, kinds := [], alts := [], laidByText := true, laidKinds := [.data, .data, .data, .pinned], laidTests := true, laidLooks := .later }
def SplitHalfUptoCardSaid : Prop := Claim7.holds Tryz.pinned (.plain (OpenSpec.upto splitHalfSpec)) splitHalfUptoCard
end Rows
end Go.Proofs.YtlljmhcgjkolpaaGreatDoor
