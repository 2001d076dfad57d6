/-
  No cell of these rows narrows 'for every input' (looked for: loops, veiled, ifaces, maps, wideKeys, modest, calm, conditions, laid).
  DERIVED. THE GIVEN ROWS OF THIS SEAT. 6 by the template 'for every input the law returns true; each argument reads behind the call as it read before'; 0 by the template 'total and deterministic' (their statements: YtepkjnklapamjaaTotals.lean).
  GIVEN WITH THE SEED: the statements are not yours to turn. If you find one false, say at which input.
  Laid BY PROGRAM, IN A SANDBOX (cutbox-rows.mjs): the forced cells as the released guide's own fill.sh prints them over the translation 8d4f0982cbe8d292… (all of the seat's roots in one cut). By AI agents, Wed Nov 11 2026. No macro, syntax, notation, axiom, sorry.
-/
import Derived.Test.YtepkjnklapamjaaChecked
import GoSem.Claim
import GoSem.ClaimJoined
import GoSem.ClaimMapViews
import Derived.JoinedTies
import Derived.KernelRfl
namespace Go.Proofs.Ytepkjnklapamjaa
/- THE CELL 'sum', in the pinned program and in every row, IS THE sha256 OF THE DUMP (.gsa) THAT YtepkjnklapamjaaProg.lean LOADS. Nothing in Lean hashes anything: it is a label: what it is worth is what the hold of that sum in a sandbox is worth. -/
noncomputable def Try.pinned : Pinned := { name := "ytepkjnklapamjaa", sum := "8d4f0982cbe8d292309e365a4ba340bbd4d3fc18ed14ebdc94131420766d7aac", checked := Try.checked }
namespace Rows
def none {H : Type} : Left H := { results := [], args := [] }

/-- 'bulwarklaw04.CellBytes': WHATEVER THE INPUT: true; the input reads as it did. -/
def cellBytesSpec : ChangeSpec := { name := "cellBytes", fn := fun _ => fun
  | [d] => { results := [.lit (.bool true)], args := [d] }
  | _ => none }
def cellBytesRow : OpenClaim := { program := "ytepkjnklapamjaa", sum := "8d4f0982cbe8d292309e365a4ba340bbd4d3fc18ed14ebdc94131420766d7aac", func := "bulwark/bulwarklaw04.CellBytes", spec := "cellBytes", unfollowed := true, recurses := true, apart := false }
def CellBytesSaid : Prop := cellBytesRow.holds Try.pinned (OpenSpec.ofChange cellBytesSpec)

/-- ITS FALSE NEIGHBOUR: 'it returns false'. Refute it at one input. -/
def cellBytesWrong : ChangeSpec := { name := "cellBytes", fn := fun _ => fun
  | [d] => { results := [.lit (.bool false)], args := [d] }
  | _ => none }
def CellBytesWrongFalsely : Prop := cellBytesRow.holds Try.pinned (OpenSpec.ofChange cellBytesWrong)

/-- 'bulwarklaw04.CellOrder': WHATEVER THE INPUT: true; the input reads as it did. -/
def cellOrderSpec : ChangeSpec := { name := "cellOrder", fn := fun _ => fun
  | [d1, d2] => { results := [.lit (.bool true)], args := [d1, d2] }
  | _ => none }
def cellOrderRow : OpenClaim := { program := "ytepkjnklapamjaa", sum := "8d4f0982cbe8d292309e365a4ba340bbd4d3fc18ed14ebdc94131420766d7aac", func := "bulwark/bulwarklaw04.CellOrder", spec := "cellOrder", unfollowed := true, recurses := true, apart := false }
def CellOrderSaid : Prop := cellOrderRow.holds Try.pinned (OpenSpec.ofChange cellOrderSpec)

/-- ITS FALSE NEIGHBOUR: 'it returns false'. Refute it at one input. -/
def cellOrderWrong : ChangeSpec := { name := "cellOrder", fn := fun _ => fun
  | [d1, d2] => { results := [.lit (.bool false)], args := [d1, d2] }
  | _ => none }
def CellOrderWrongFalsely : Prop := cellOrderRow.holds Try.pinned (OpenSpec.ofChange cellOrderWrong)

/-- 'bulwarklaw04.CellRows': WHATEVER THE INPUT: true; the input reads as it did. -/
def cellRowsSpec : ChangeSpec := { name := "cellRows", fn := fun _ => fun
  | [d1, d2] => { results := [.lit (.bool true)], args := [d1, d2] }
  | _ => none }
def cellRowsRow : OpenClaim := { program := "ytepkjnklapamjaa", sum := "8d4f0982cbe8d292309e365a4ba340bbd4d3fc18ed14ebdc94131420766d7aac", func := "bulwark/bulwarklaw04.CellRows", spec := "cellRows", inPlace := ["internal/bytealg.MakeNoZero"], unfollowed := true, recurses := true, apart := false }
def CellRowsSaid : Prop := cellRowsRow.holds Try.pinned (OpenSpec.ofChange cellRowsSpec)

/-- ITS FALSE NEIGHBOUR: 'it returns false'. Refute it at one input. -/
def cellRowsWrong : ChangeSpec := { name := "cellRows", fn := fun _ => fun
  | [d1, d2] => { results := [.lit (.bool false)], args := [d1, d2] }
  | _ => none }
def CellRowsWrongFalsely : Prop := cellRowsRow.holds Try.pinned (OpenSpec.ofChange cellRowsWrong)

/-- 'bulwarklaw04.CellStands': WHATEVER THE INPUT: true; the input reads as it did. -/
def cellStandsSpec : ChangeSpec := { name := "cellStands", fn := fun _ => fun
  | [d1, d2] => { results := [.lit (.bool true)], args := [d1, d2] }
  | _ => none }
def cellStandsRow : OpenClaim := { program := "ytepkjnklapamjaa", sum := "8d4f0982cbe8d292309e365a4ba340bbd4d3fc18ed14ebdc94131420766d7aac", func := "bulwark/bulwarklaw04.CellStands", spec := "cellStands", unfollowed := true, recurses := true, apart := false }
def CellStandsSaid : Prop := cellStandsRow.holds Try.pinned (OpenSpec.ofChange cellStandsSpec)

/-- ITS FALSE NEIGHBOUR: 'it returns false'. Refute it at one input. -/
def cellStandsWrong : ChangeSpec := { name := "cellStands", fn := fun _ => fun
  | [d1, d2] => { results := [.lit (.bool false)], args := [d1, d2] }
  | _ => none }
def CellStandsWrongFalsely : Prop := cellStandsRow.holds Try.pinned (OpenSpec.ofChange cellStandsWrong)

/-- 'bulwarklaw04.CellBetween': WHATEVER THE INPUT: true; the input reads as it did. -/
def cellBetweenSpec : ChangeSpec := { name := "cellBetween", fn := fun _ => fun
  | [d1, d2, d3] => { results := [.lit (.bool true)], args := [d1, d2, d3] }
  | _ => none }
def cellBetweenRow : OpenClaim := { program := "ytepkjnklapamjaa", sum := "8d4f0982cbe8d292309e365a4ba340bbd4d3fc18ed14ebdc94131420766d7aac", func := "bulwark/bulwarklaw04.CellBetween", spec := "cellBetween", inPlace := ["internal/bytealg.MakeNoZero"], unfollowed := true, recurses := true, apart := false }
def CellBetweenSaid : Prop := cellBetweenRow.holds Try.pinned (OpenSpec.ofChange cellBetweenSpec)

/-- ITS FALSE NEIGHBOUR: 'it returns false'. Refute it at one input. -/
def cellBetweenWrong : ChangeSpec := { name := "cellBetween", fn := fun _ => fun
  | [d1, d2, d3] => { results := [.lit (.bool false)], args := [d1, d2, d3] }
  | _ => none }
def CellBetweenWrongFalsely : Prop := cellBetweenRow.holds Try.pinned (OpenSpec.ofChange cellBetweenWrong)

/-- 'bulwarklaw04.CellColumns': WHATEVER THE INPUT: true; the input reads as it did. -/
def cellColumnsSpec : ChangeSpec := { name := "cellColumns", fn := fun _ => fun
  | [d1, d2, d3] => { results := [.lit (.bool true)], args := [d1, d2, d3] }
  | _ => none }
def cellColumnsRow : OpenClaim := { program := "ytepkjnklapamjaa", sum := "8d4f0982cbe8d292309e365a4ba340bbd4d3fc18ed14ebdc94131420766d7aac", func := "bulwark/bulwarklaw04.CellColumns", spec := "cellColumns", unfollowed := true, recurses := true, apart := false }
def CellColumnsSaid : Prop := cellColumnsRow.holds Try.pinned (OpenSpec.ofChange cellColumnsSpec)

/-- ITS FALSE NEIGHBOUR: 'it returns false'. Refute it at one input. -/
def cellColumnsWrong : ChangeSpec := { name := "cellColumns", fn := fun _ => fun
  | [d1, d2, d3] => { results := [.lit (.bool false)], args := [d1, d2, d3] }
  | _ => none }
def CellColumnsWrongFalsely : Prop := cellColumnsRow.holds Try.pinned (OpenSpec.ofChange cellColumnsWrong)

/- THE SECOND FORM. 'bulk': how many values and letters a reading holds, each counted each time it is reached (what is shared counts as often as it is met; a slice's spare places count too). A statement '..UptoSaid' is the law's where the arguments, and the package variables that the reading takes, are together of bulk at most 1048576: NARROWER than '..Said'. Prove '..Said' where nothing that the law and all that it calls make is longer than what came in: it says more and counts as full. Else prove '..UptoSaid'. A law counts once. -/
mutual
def uptoBulk {H : Type} : DataW H → Nat
  | .lit (.string bytes) => bytes.length + 1
  | .lit _ => 1
  | .nil => 1
  | .ptr d => uptoBulk d + 1
  | .slice elems spare => uptoBulkAll elems + uptoBulkAll spare + 1
  | .agg parts => uptoBulkAll parts + 1
  | .iface _ d => uptoBulk d + 1
  | .map entries => uptoBulkEntries entries + 1
  | .held _ => 1
def uptoBulkAll {H : Type} : List (DataW H) → Nat
  | [] => 0
  | d :: r => uptoBulk d + uptoBulkAll r
def uptoBulkEntries {H : Type} : List (Lit × DataW H) → Nat
  | [] => 0
  | x :: r => uptoBulkEntry x + uptoBulkEntries r
def uptoBulkEntry {H : Type} : Lit × DataW H → Nat
  | (.string bytes, d) => bytes.length + uptoBulk d + 1
  | (_, d) => uptoBulk d + 1
 end
def uptoSmall : (H : Type) → List (DataW H) → Bool := fun _ ds => decide (uptoBulkAll ds ≤ 1048576)
def OpenSpec.upto (s : _root_.Go.ChangeSpec) : _root_.Go.OpenSpec := { _root_.Go.OpenSpec.ofChange s with cond := some uptoSmall }

/-- 'bulwarklaw04.CellBytes', WHERE WHAT IT READS IS OF BULK AT MOST 1048576: true; the input reads as it did. -/
def cellBytesUptoRow : OpenClaim := { program := "ytepkjnklapamjaa", sum := "8d4f0982cbe8d292309e365a4ba340bbd4d3fc18ed14ebdc94131420766d7aac", func := "bulwark/bulwarklaw04.CellBytes", spec := "cellBytes", unfollowed := true, recurses := true, apart := false, narrowed := true }
def CellBytesUptoSaid : Prop := cellBytesUptoRow.holds Try.pinned (OpenSpec.upto cellBytesSpec)

/-- 'bulwarklaw04.CellOrder', WHERE WHAT IT READS IS OF BULK AT MOST 1048576: true; the input reads as it did. -/
def cellOrderUptoRow : OpenClaim := { program := "ytepkjnklapamjaa", sum := "8d4f0982cbe8d292309e365a4ba340bbd4d3fc18ed14ebdc94131420766d7aac", func := "bulwark/bulwarklaw04.CellOrder", spec := "cellOrder", unfollowed := true, recurses := true, apart := false, narrowed := true }
def CellOrderUptoSaid : Prop := cellOrderUptoRow.holds Try.pinned (OpenSpec.upto cellOrderSpec)

/-- 'bulwarklaw04.CellRows', WHERE WHAT IT READS IS OF BULK AT MOST 1048576: true; the input reads as it did. -/
def cellRowsUptoRow : OpenClaim := { program := "ytepkjnklapamjaa", sum := "8d4f0982cbe8d292309e365a4ba340bbd4d3fc18ed14ebdc94131420766d7aac", func := "bulwark/bulwarklaw04.CellRows", spec := "cellRows", inPlace := ["internal/bytealg.MakeNoZero"], unfollowed := true, recurses := true, apart := false, narrowed := true }
def CellRowsUptoSaid : Prop := cellRowsUptoRow.holds Try.pinned (OpenSpec.upto cellRowsSpec)

/-- 'bulwarklaw04.CellStands', WHERE WHAT IT READS IS OF BULK AT MOST 1048576: true; the input reads as it did. -/
def cellStandsUptoRow : OpenClaim := { program := "ytepkjnklapamjaa", sum := "8d4f0982cbe8d292309e365a4ba340bbd4d3fc18ed14ebdc94131420766d7aac", func := "bulwark/bulwarklaw04.CellStands", spec := "cellStands", unfollowed := true, recurses := true, apart := false, narrowed := true }
def CellStandsUptoSaid : Prop := cellStandsUptoRow.holds Try.pinned (OpenSpec.upto cellStandsSpec)

/-- 'bulwarklaw04.CellBetween', WHERE WHAT IT READS IS OF BULK AT MOST 1048576: true; the input reads as it did. -/
def cellBetweenUptoRow : OpenClaim := { program := "ytepkjnklapamjaa", sum := "8d4f0982cbe8d292309e365a4ba340bbd4d3fc18ed14ebdc94131420766d7aac", func := "bulwark/bulwarklaw04.CellBetween", spec := "cellBetween", inPlace := ["internal/bytealg.MakeNoZero"], unfollowed := true, recurses := true, apart := false, narrowed := true }
def CellBetweenUptoSaid : Prop := cellBetweenUptoRow.holds Try.pinned (OpenSpec.upto cellBetweenSpec)

/-- 'bulwarklaw04.CellColumns', WHERE WHAT IT READS IS OF BULK AT MOST 1048576: true; the input reads as it did. -/
def cellColumnsUptoRow : OpenClaim := { program := "ytepkjnklapamjaa", sum := "8d4f0982cbe8d292309e365a4ba340bbd4d3fc18ed14ebdc94131420766d7aac", func := "bulwark/bulwarklaw04.CellColumns", spec := "cellColumns", unfollowed := true, recurses := true, apart := false, narrowed := true }
def CellColumnsUptoSaid : Prop := cellColumnsUptoRow.holds Try.pinned (OpenSpec.upto cellColumnsSpec)

end Rows
end Go.Proofs.Ytepkjnklapamjaa
