/-
  DERIVED. GIVEN WITH THE SEED: THE CARDS: each row of YtoagkffokfbpfaaDoorRows.lean that lists a variable, with what it lists TIED to the program's text (the seventh form; the later family's looks); each row that meets fmt, with fmt's text TOLD by the authors' own Lean function (tested against real Go, not proved from fmt's source: count such statements apart). THE CARD IS WHAT COUNTS. Prove the row's statement (the work); the ties are given (YtoagkffokfbpfaaDoorTie.lean); close each card by the builder's one call (the guide's Derived/Test/ToyasCard.lean, 'card_holds'). Laid BY PROGRAM, IN A SANDBOX (cutbox-door.mjs). By AI agents, Wed Nov 11 2026. No macro, syntax, notation, axiom, sorry.
-/
import Derived.Test.YtoagkffokfbpfaaDoorRows
import GoSem.ClaimSeven
namespace Go.Proofs.YtoagkffokfbpfaaDoor
namespace Rows

/-- THE TIED CARD OF 'bulwarklaw12.SessionPlays'. -/
def sessionPlaysCard : Claim7 := { stood := { row := sessionPlaysRow, standIns := [], harness := (true, "e9071539df5cd0e2c805bf9a82367a6ec5f60c00c2c9f664507aac97b2f22ee0"), looks := false }, kinds := [], alts := [], laidByText := true, laidKinds := [.data, .data], laidTests := true, laidLooks := .later }
def SessionPlaysCardSaid : Prop := Claim7.holds Tryd.pinned (.plain (OpenSpec.ofChange sessionPlaysSpec)) sessionPlaysCard

/-- THE TIED CARD OF 'bulwarklaw12.SessionBack'. -/
def sessionBackCard : Claim7 := { stood := { row := sessionBackRow, standIns := [], harness := (true, "e9071539df5cd0e2c805bf9a82367a6ec5f60c00c2c9f664507aac97b2f22ee0"), looks := false }, kinds := [], alts := [], laidByText := true, laidKinds := [.data, .data], laidTests := true, laidLooks := .later }
def SessionBackCardSaid : Prop := Claim7.holds Tryd.pinned (.plain (OpenSpec.ofChange sessionBackSpec)) sessionBackCard

/-- THE TIED CARD OF 'bulwarklaw12.SessionNils'. -/
def sessionNilsCard : Claim7 := { stood := { row := sessionNilsRow, standIns := [], harness := (true, "e9071539df5cd0e2c805bf9a82367a6ec5f60c00c2c9f664507aac97b2f22ee0"), looks := false }, kinds := [], alts := [], laidByText := true, laidKinds := [.data, .data], laidTests := true, laidLooks := .later }
def SessionNilsCardSaid : Prop := Claim7.holds Tryd.pinned (.plain (OpenSpec.ofChange sessionNilsSpec)) sessionNilsCard

/-- THE TIED CARD OF 'bulwarklaw12.SessionOrder'. -/
def sessionOrderCard : Claim7 := { stood := { row := sessionOrderRow, standIns := [], harness := (true, "e9071539df5cd0e2c805bf9a82367a6ec5f60c00c2c9f664507aac97b2f22ee0"), looks := false }, kinds := [], alts := [], laidByText := true, laidKinds := [.data, .data], laidTests := true, laidLooks := .later }
def SessionOrderCardSaid : Prop := Claim7.holds Tryd.pinned (.plain (OpenSpec.ofChange sessionOrderSpec)) sessionOrderCard

/-- THE SECOND FORM's CARD OF 'bulwarklaw12.SessionPlays'. -/
def sessionPlaysUptoCard : Claim7 := { stood := { row := sessionPlaysUptoRow, standIns := [], harness := (true, "e9071539df5cd0e2c805bf9a82367a6ec5f60c00c2c9f664507aac97b2f22ee0"), looks := false }, kinds := [], alts := [], laidByText := true, laidKinds := [.data, .data], laidTests := true, laidLooks := .later }
def SessionPlaysUptoCardSaid : Prop := Claim7.holds Tryd.pinned (.plain (OpenSpec.upto sessionPlaysSpec)) sessionPlaysUptoCard

/-- THE SECOND FORM's CARD OF 'bulwarklaw12.SessionBack'. -/
def sessionBackUptoCard : Claim7 := { stood := { row := sessionBackUptoRow, standIns := [], harness := (true, "e9071539df5cd0e2c805bf9a82367a6ec5f60c00c2c9f664507aac97b2f22ee0"), looks := false }, kinds := [], alts := [], laidByText := true, laidKinds := [.data, .data], laidTests := true, laidLooks := .later }
def SessionBackUptoCardSaid : Prop := Claim7.holds Tryd.pinned (.plain (OpenSpec.upto sessionBackSpec)) sessionBackUptoCard

/-- THE SECOND FORM's CARD OF 'bulwarklaw12.SessionNils'. -/
def sessionNilsUptoCard : Claim7 := { stood := { row := sessionNilsUptoRow, standIns := [], harness := (true, "e9071539df5cd0e2c805bf9a82367a6ec5f60c00c2c9f664507aac97b2f22ee0"), looks := false }, kinds := [], alts := [], laidByText := true, laidKinds := [.data, .data], laidTests := true, laidLooks := .later }
def SessionNilsUptoCardSaid : Prop := Claim7.holds Tryd.pinned (.plain (OpenSpec.upto sessionNilsSpec)) sessionNilsUptoCard

/-- THE SECOND FORM's CARD OF 'bulwarklaw12.SessionOrder'. -/
def sessionOrderUptoCard : Claim7 := { stood := { row := sessionOrderUptoRow, standIns := [], harness := (true, "e9071539df5cd0e2c805bf9a82367a6ec5f60c00c2c9f664507aac97b2f22ee0"), looks := false }, kinds := [], alts := [], laidByText := true, laidKinds := [.data, .data], laidTests := true, laidLooks := .later }
def SessionOrderUptoCardSaid : Prop := Claim7.holds Tryd.pinned (.plain (OpenSpec.upto sessionOrderSpec)) sessionOrderUptoCard
end Rows
end Go.Proofs.YtoagkffokfbpfaaDoor
