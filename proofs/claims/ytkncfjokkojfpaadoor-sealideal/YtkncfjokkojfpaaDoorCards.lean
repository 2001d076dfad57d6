/-
  DERIVED. GIVEN WITH THE SEED: THE CARDS: each row of YtkncfjokkojfpaaDoorRows.lean that lists a variable, with what it lists TIED to the program's text (the seventh form; the later family's looks); each row that meets fmt, with fmt's text TOLD by the authors' own Lean function (tested against real Go, not proved from fmt's source: count such statements apart). THE CARD IS WHAT COUNTS. Prove the row's statement (the work); the ties are given (YtkncfjokkojfpaaDoorTie.lean); close each card by the builder's one call (the guide's Derived/Test/ToyasCard.lean, 'card_holds'). Laid BY PROGRAM, IN A SANDBOX (cutbox-door.mjs). By AI agents, Wed Nov 11 2026. No macro, syntax, notation, axiom, sorry.
-/
import Derived.Test.YtkncfjokkojfpaaDoorRows
import GoSem.ClaimSeven
namespace Go.Proofs.YtkncfjokkojfpaaDoor
namespace Rows

/-- THE TIED CARD OF 'bulwarklaw03.SealKeys'. -/
def sealKeysCard : Claim7 := { stood := { row := sealKeysRow, standIns := [], harness := (true, "b054c303349e397ada8bde4229f34308b4da8ca227cf870fc1bb28bc765006fd"), looks := false }, kinds := [], alts := [], laidByText := true, laidKinds := [.data, .data], laidTests := true, laidLooks := .later }
def SealKeysCardSaid : Prop := Claim7.holds Tryd.pinned (.plain (OpenSpec.ofChange sealKeysSpec)) sealKeysCard

/-- THE TIED CARD OF 'bulwarklaw03.SealPlays'. -/
def sealPlaysCard : Claim7 := { stood := { row := sealPlaysRow, standIns := [], harness := (true, "b054c303349e397ada8bde4229f34308b4da8ca227cf870fc1bb28bc765006fd"), looks := false }, kinds := [], alts := [], laidByText := true, laidKinds := [.data, .data], laidTests := true, laidLooks := .later }
def SealPlaysCardSaid : Prop := Claim7.holds Tryd.pinned (.plain (OpenSpec.ofChange sealPlaysSpec)) sealPlaysCard

/-- THE TIED CARD OF 'bulwarklaw03.SealIdeal'. -/
def sealIdealCard : Claim7 := { stood := { row := sealIdealRow, standIns := [], harness := (true, "b054c303349e397ada8bde4229f34308b4da8ca227cf870fc1bb28bc765006fd"), looks := false }, kinds := [], alts := [], laidByText := true, laidKinds := [.data, .data], laidTests := true, laidLooks := .later }
def SealIdealCardSaid : Prop := Claim7.holds Tryd.pinned (.plain (OpenSpec.ofChange sealIdealSpec)) sealIdealCard

/-- THE TIED CARD OF 'bulwarklaw03.SealKnown'. -/
def sealKnownCard : Claim7 := { stood := { row := sealKnownRow, standIns := [], harness := (true, "b054c303349e397ada8bde4229f34308b4da8ca227cf870fc1bb28bc765006fd"), looks := false }, kinds := [], alts := [], laidByText := true, laidKinds := [.data, .data], laidTests := true, laidLooks := .later }
def SealKnownCardSaid : Prop := Claim7.holds Tryd.pinned (.plain (OpenSpec.ofChange sealKnownSpec)) sealKnownCard

/-- THE TIED CARD OF 'bulwarklaw03.SealTurned'. -/
def sealTurnedCard : Claim7 := { stood := { row := sealTurnedRow, standIns := [], harness := (true, "b054c303349e397ada8bde4229f34308b4da8ca227cf870fc1bb28bc765006fd"), looks := false }, kinds := [], alts := [], laidByText := true, laidKinds := [.data, .data], laidTests := true, laidLooks := .later }
def SealTurnedCardSaid : Prop := Claim7.holds Tryd.pinned (.plain (OpenSpec.ofChange sealTurnedSpec)) sealTurnedCard

/-- THE TIED CARD OF 'bulwarklaw03.SealNils'. -/
def sealNilsCard : Claim7 := { stood := { row := sealNilsRow, standIns := [], harness := (true, "b054c303349e397ada8bde4229f34308b4da8ca227cf870fc1bb28bc765006fd"), looks := false }, kinds := [], alts := [], laidByText := true, laidKinds := [.data, .data], laidTests := true, laidLooks := .later }
def SealNilsCardSaid : Prop := Claim7.holds Tryd.pinned (.plain (OpenSpec.ofChange sealNilsSpec)) sealNilsCard

/-- THE SECOND FORM's CARD OF 'bulwarklaw03.SealKeys'. -/
def sealKeysUptoCard : Claim7 := { stood := { row := sealKeysUptoRow, standIns := [], harness := (true, "b054c303349e397ada8bde4229f34308b4da8ca227cf870fc1bb28bc765006fd"), looks := false }, kinds := [], alts := [], laidByText := true, laidKinds := [.data, .data], laidTests := true, laidLooks := .later }
def SealKeysUptoCardSaid : Prop := Claim7.holds Tryd.pinned (.plain (OpenSpec.upto sealKeysSpec)) sealKeysUptoCard

/-- THE SECOND FORM's CARD OF 'bulwarklaw03.SealPlays'. -/
def sealPlaysUptoCard : Claim7 := { stood := { row := sealPlaysUptoRow, standIns := [], harness := (true, "b054c303349e397ada8bde4229f34308b4da8ca227cf870fc1bb28bc765006fd"), looks := false }, kinds := [], alts := [], laidByText := true, laidKinds := [.data, .data], laidTests := true, laidLooks := .later }
def SealPlaysUptoCardSaid : Prop := Claim7.holds Tryd.pinned (.plain (OpenSpec.upto sealPlaysSpec)) sealPlaysUptoCard

/-- THE SECOND FORM's CARD OF 'bulwarklaw03.SealIdeal'. -/
def sealIdealUptoCard : Claim7 := { stood := { row := sealIdealUptoRow, standIns := [], harness := (true, "b054c303349e397ada8bde4229f34308b4da8ca227cf870fc1bb28bc765006fd"), looks := false }, kinds := [], alts := [], laidByText := true, laidKinds := [.data, .data], laidTests := true, laidLooks := .later }
def SealIdealUptoCardSaid : Prop := Claim7.holds Tryd.pinned (.plain (OpenSpec.upto sealIdealSpec)) sealIdealUptoCard

/-- THE SECOND FORM's CARD OF 'bulwarklaw03.SealKnown'. -/
def sealKnownUptoCard : Claim7 := { stood := { row := sealKnownUptoRow, standIns := [], harness := (true, "b054c303349e397ada8bde4229f34308b4da8ca227cf870fc1bb28bc765006fd"), looks := false }, kinds := [], alts := [], laidByText := true, laidKinds := [.data, .data], laidTests := true, laidLooks := .later }
def SealKnownUptoCardSaid : Prop := Claim7.holds Tryd.pinned (.plain (OpenSpec.upto sealKnownSpec)) sealKnownUptoCard

/-- THE SECOND FORM's CARD OF 'bulwarklaw03.SealTurned'. -/
def sealTurnedUptoCard : Claim7 := { stood := { row := sealTurnedUptoRow, standIns := [], harness := (true, "b054c303349e397ada8bde4229f34308b4da8ca227cf870fc1bb28bc765006fd"), looks := false }, kinds := [], alts := [], laidByText := true, laidKinds := [.data, .data], laidTests := true, laidLooks := .later }
def SealTurnedUptoCardSaid : Prop := Claim7.holds Tryd.pinned (.plain (OpenSpec.upto sealTurnedSpec)) sealTurnedUptoCard

/-- THE SECOND FORM's CARD OF 'bulwarklaw03.SealNils'. -/
def sealNilsUptoCard : Claim7 := { stood := { row := sealNilsUptoRow, standIns := [], harness := (true, "b054c303349e397ada8bde4229f34308b4da8ca227cf870fc1bb28bc765006fd"), looks := false }, kinds := [], alts := [], laidByText := true, laidKinds := [.data, .data], laidTests := true, laidLooks := .later }
def SealNilsUptoCardSaid : Prop := Claim7.holds Tryd.pinned (.plain (OpenSpec.upto sealNilsSpec)) sealNilsUptoCard
end Rows
end Go.Proofs.YtkncfjokkojfpaaDoor
