/-
  NARROWER THAN 'FOR EVERY INPUT', by the rows' own cells (each row's printed sentence says how): OpBytes: loops · OpBack: loops · OpBatch: loops.
  DERIVED. THE GIVEN ROWS OF THIS SEAT. 6 by the template 'for every input the law returns true; each argument reads behind the call as it read before'; 0 by the template 'total and deterministic' (their statements: YtbfcilfdeemnpaaTotals.lean).
  GIVEN WITH THE SEED: the statements are not yours to turn. If you find one false, say at which input.
  Laid BY PROGRAM, IN A SANDBOX (cutbox-rows.mjs): the forced cells as the released guide's own fill.sh prints them over the translation e2b63509b7355e66… (all of the seat's roots in one cut). By AI agents, Wed Nov 11 2026. No macro, syntax, notation, axiom, sorry.
-/
import Derived.Test.YtbfcilfdeemnpaaChecked
import GoSem.Claim
import GoSem.ClaimJoined
import GoSem.ClaimMapViews
import Derived.JoinedTies
import Derived.KernelRfl
namespace Go.Proofs.Ytbfcilfdeemnpaa
/- THE CELL 'sum', in the pinned program and in every row, IS THE sha256 OF THE DUMP (.gsa) THAT YtbfcilfdeemnpaaProg.lean LOADS. Nothing in Lean hashes anything: it is a label: what it is worth is what the hold of that sum in a sandbox is worth. -/
noncomputable def Try.pinned : Pinned := { name := "ytbfcilfdeemnpaa", sum := "e2b63509b7355e661d2ffc1954d7c9a0119b0aa49417ca7193ed5699041d8b7b", checked := Try.checked }
namespace Rows
def none {H : Type} : Left H := { results := [], args := [] }

/-- 'bulwarklaw06.OpBytes': WHATEVER THE INPUT: true; the input reads as it did. -/
def opBytesSpec : ChangeSpec := { name := "opBytes", fn := fun _ => fun
  | [d] => { results := [.lit (.bool true)], args := [d] }
  | _ => none }
def opBytesRow : OpenClaim := { program := "ytbfcilfdeemnpaa", sum := "e2b63509b7355e661d2ffc1954d7c9a0119b0aa49417ca7193ed5699041d8b7b", func := "bulwark/bulwarklaw06.OpBytes", spec := "opBytes", unfollowed := true, recurses := true, loops := true, apart := false }
def OpBytesSaid : Prop := opBytesRow.holds Try.pinned (OpenSpec.ofChange opBytesSpec)

/-- ITS FALSE NEIGHBOUR: 'it returns false'. Refute it at one input. -/
def opBytesWrong : ChangeSpec := { name := "opBytes", fn := fun _ => fun
  | [d] => { results := [.lit (.bool false)], args := [d] }
  | _ => none }
def OpBytesWrongFalsely : Prop := opBytesRow.holds Try.pinned (OpenSpec.ofChange opBytesWrong)

/-- 'bulwarklaw06.OpReads': WHATEVER THE INPUT: true; the input reads as it did. -/
def opReadsSpec : ChangeSpec := { name := "opReads", fn := fun _ => fun
  | [d] => { results := [.lit (.bool true)], args := [d] }
  | _ => none }
def opReadsRow : OpenClaim := { program := "ytbfcilfdeemnpaa", sum := "e2b63509b7355e661d2ffc1954d7c9a0119b0aa49417ca7193ed5699041d8b7b", func := "bulwark/bulwarklaw06.OpReads", spec := "opReads", unfollowed := true, recurses := true, apart := false }
def OpReadsSaid : Prop := opReadsRow.holds Try.pinned (OpenSpec.ofChange opReadsSpec)

/-- ITS FALSE NEIGHBOUR: 'it returns false'. Refute it at one input. -/
def opReadsWrong : ChangeSpec := { name := "opReads", fn := fun _ => fun
  | [d] => { results := [.lit (.bool false)], args := [d] }
  | _ => none }
def OpReadsWrongFalsely : Prop := opReadsRow.holds Try.pinned (OpenSpec.ofChange opReadsWrong)

/-- 'bulwarklaw06.OpResults': WHATEVER THE INPUT: true; the input reads as it did. -/
def opResultsSpec : ChangeSpec := { name := "opResults", fn := fun _ => fun
  | [d] => { results := [.lit (.bool true)], args := [d] }
  | _ => none }
def opResultsRow : OpenClaim := { program := "ytbfcilfdeemnpaa", sum := "e2b63509b7355e661d2ffc1954d7c9a0119b0aa49417ca7193ed5699041d8b7b", func := "bulwark/bulwarklaw06.OpResults", spec := "opResults", unfollowed := true, recurses := true, apart := false }
def OpResultsSaid : Prop := opResultsRow.holds Try.pinned (OpenSpec.ofChange opResultsSpec)

/-- ITS FALSE NEIGHBOUR: 'it returns false'. Refute it at one input. -/
def opResultsWrong : ChangeSpec := { name := "opResults", fn := fun _ => fun
  | [d] => { results := [.lit (.bool false)], args := [d] }
  | _ => none }
def OpResultsWrongFalsely : Prop := opResultsRow.holds Try.pinned (OpenSpec.ofChange opResultsWrong)

/-- 'bulwarklaw06.OpBack': WHATEVER THE INPUT: true; the input reads as it did. -/
def opBackSpec : ChangeSpec := { name := "opBack", fn := fun _ => fun
  | [d1, d2] => { results := [.lit (.bool true)], args := [d1, d2] }
  | _ => none }
def opBackRow : OpenClaim := { program := "ytbfcilfdeemnpaa", sum := "e2b63509b7355e661d2ffc1954d7c9a0119b0aa49417ca7193ed5699041d8b7b", func := "bulwark/bulwarklaw06.OpBack", spec := "opBack", unfollowed := true, recurses := true, loops := true, apart := false }
def OpBackSaid : Prop := opBackRow.holds Try.pinned (OpenSpec.ofChange opBackSpec)

/-- ITS FALSE NEIGHBOUR: 'it returns false'. Refute it at one input. -/
def opBackWrong : ChangeSpec := { name := "opBack", fn := fun _ => fun
  | [d1, d2] => { results := [.lit (.bool false)], args := [d1, d2] }
  | _ => none }
def OpBackWrongFalsely : Prop := opBackRow.holds Try.pinned (OpenSpec.ofChange opBackWrong)

/-- 'bulwarklaw06.OpOne': WHATEVER THE INPUT: true; the input reads as it did. -/
def opOneSpec : ChangeSpec := { name := "opOne", fn := fun _ => fun
  | [d1, d2] => { results := [.lit (.bool true)], args := [d1, d2] }
  | _ => none }
def opOneRow : OpenClaim := { program := "ytbfcilfdeemnpaa", sum := "e2b63509b7355e661d2ffc1954d7c9a0119b0aa49417ca7193ed5699041d8b7b", func := "bulwark/bulwarklaw06.OpOne", spec := "opOne", unfollowed := true, recurses := true, apart := false }
def OpOneSaid : Prop := opOneRow.holds Try.pinned (OpenSpec.ofChange opOneSpec)

/-- ITS FALSE NEIGHBOUR: 'it returns false'. Refute it at one input. -/
def opOneWrong : ChangeSpec := { name := "opOne", fn := fun _ => fun
  | [d1, d2] => { results := [.lit (.bool false)], args := [d1, d2] }
  | _ => none }
def OpOneWrongFalsely : Prop := opOneRow.holds Try.pinned (OpenSpec.ofChange opOneWrong)

/-- 'bulwarklaw06.OpBatch': WHATEVER THE INPUT: true; the input reads as it did. -/
def opBatchSpec : ChangeSpec := { name := "opBatch", fn := fun _ => fun
  | [d1, d2] => { results := [.lit (.bool true)], args := [d1, d2] }
  | _ => none }
def opBatchRow : OpenClaim := { program := "ytbfcilfdeemnpaa", sum := "e2b63509b7355e661d2ffc1954d7c9a0119b0aa49417ca7193ed5699041d8b7b", func := "bulwark/bulwarklaw06.OpBatch", spec := "opBatch", unfollowed := true, recurses := true, loops := true, apart := false }
def OpBatchSaid : Prop := opBatchRow.holds Try.pinned (OpenSpec.ofChange opBatchSpec)

/-- ITS FALSE NEIGHBOUR: 'it returns false'. Refute it at one input. -/
def opBatchWrong : ChangeSpec := { name := "opBatch", fn := fun _ => fun
  | [d1, d2] => { results := [.lit (.bool false)], args := [d1, d2] }
  | _ => none }
def OpBatchWrongFalsely : Prop := opBatchRow.holds Try.pinned (OpenSpec.ofChange opBatchWrong)

/- THE SECOND FORM. 'bulk': how many values and letters a reading holds, each counted each time it is reached (what is shared counts as often as it is met; a slice's spare places count too). A statement '..UptoSaid' is the law's where the arguments, and the package variables that the reading takes, are together of bulk at most 1048576: NARROWER than '..Said'. Prove '..Said' where nothing that the law and all that it calls make is longer than what came in: it says more and counts as full. Else prove '..UptoSaid'. A law counts once. -/
mutual
def uptoBulk {H : Type} : DataW H → Nat
  | .lit (.string bytes) => bytes.length + 1
  | .lit _ => 1
  | .nil => 1
  | .ptr d => uptoBulk d + 1
  | .slice elems spare => uptoBulkAll elems + uptoBulkAll spare + 1
  | .agg parts => uptoBulkAll parts + 1
  | .iface _ d => uptoBulk d + 1
  | .map entries => uptoBulkEntries entries + 1
  | .held _ => 1
def uptoBulkAll {H : Type} : List (DataW H) → Nat
  | [] => 0
  | d :: r => uptoBulk d + uptoBulkAll r
def uptoBulkEntries {H : Type} : List (Lit × DataW H) → Nat
  | [] => 0
  | x :: r => uptoBulkEntry x + uptoBulkEntries r
def uptoBulkEntry {H : Type} : Lit × DataW H → Nat
  | (.string bytes, d) => bytes.length + uptoBulk d + 1
  | (_, d) => uptoBulk d + 1
 end
def uptoSmall : (H : Type) → List (DataW H) → Bool := fun _ ds => decide (uptoBulkAll ds ≤ 1048576)
def OpenSpec.upto (s : _root_.Go.ChangeSpec) : _root_.Go.OpenSpec := { _root_.Go.OpenSpec.ofChange s with cond := some uptoSmall }

/-- 'bulwarklaw06.OpBytes', WHERE WHAT IT READS IS OF BULK AT MOST 1048576: true; the input reads as it did. -/
def opBytesUptoRow : OpenClaim := { program := "ytbfcilfdeemnpaa", sum := "e2b63509b7355e661d2ffc1954d7c9a0119b0aa49417ca7193ed5699041d8b7b", func := "bulwark/bulwarklaw06.OpBytes", spec := "opBytes", unfollowed := true, recurses := true, loops := true, apart := false, narrowed := true }
def OpBytesUptoSaid : Prop := opBytesUptoRow.holds Try.pinned (OpenSpec.upto opBytesSpec)

/-- 'bulwarklaw06.OpReads', WHERE WHAT IT READS IS OF BULK AT MOST 1048576: true; the input reads as it did. -/
def opReadsUptoRow : OpenClaim := { program := "ytbfcilfdeemnpaa", sum := "e2b63509b7355e661d2ffc1954d7c9a0119b0aa49417ca7193ed5699041d8b7b", func := "bulwark/bulwarklaw06.OpReads", spec := "opReads", unfollowed := true, recurses := true, apart := false, narrowed := true }
def OpReadsUptoSaid : Prop := opReadsUptoRow.holds Try.pinned (OpenSpec.upto opReadsSpec)

/-- 'bulwarklaw06.OpResults', WHERE WHAT IT READS IS OF BULK AT MOST 1048576: true; the input reads as it did. -/
def opResultsUptoRow : OpenClaim := { program := "ytbfcilfdeemnpaa", sum := "e2b63509b7355e661d2ffc1954d7c9a0119b0aa49417ca7193ed5699041d8b7b", func := "bulwark/bulwarklaw06.OpResults", spec := "opResults", unfollowed := true, recurses := true, apart := false, narrowed := true }
def OpResultsUptoSaid : Prop := opResultsUptoRow.holds Try.pinned (OpenSpec.upto opResultsSpec)

/-- 'bulwarklaw06.OpBack', WHERE WHAT IT READS IS OF BULK AT MOST 1048576: true; the input reads as it did. -/
def opBackUptoRow : OpenClaim := { program := "ytbfcilfdeemnpaa", sum := "e2b63509b7355e661d2ffc1954d7c9a0119b0aa49417ca7193ed5699041d8b7b", func := "bulwark/bulwarklaw06.OpBack", spec := "opBack", unfollowed := true, recurses := true, loops := true, apart := false, narrowed := true }
def OpBackUptoSaid : Prop := opBackUptoRow.holds Try.pinned (OpenSpec.upto opBackSpec)

/-- 'bulwarklaw06.OpOne', WHERE WHAT IT READS IS OF BULK AT MOST 1048576: true; the input reads as it did. -/
def opOneUptoRow : OpenClaim := { program := "ytbfcilfdeemnpaa", sum := "e2b63509b7355e661d2ffc1954d7c9a0119b0aa49417ca7193ed5699041d8b7b", func := "bulwark/bulwarklaw06.OpOne", spec := "opOne", unfollowed := true, recurses := true, apart := false, narrowed := true }
def OpOneUptoSaid : Prop := opOneUptoRow.holds Try.pinned (OpenSpec.upto opOneSpec)

/-- 'bulwarklaw06.OpBatch', WHERE WHAT IT READS IS OF BULK AT MOST 1048576: true; the input reads as it did. -/
def opBatchUptoRow : OpenClaim := { program := "ytbfcilfdeemnpaa", sum := "e2b63509b7355e661d2ffc1954d7c9a0119b0aa49417ca7193ed5699041d8b7b", func := "bulwark/bulwarklaw06.OpBatch", spec := "opBatch", unfollowed := true, recurses := true, loops := true, apart := false, narrowed := true }
def OpBatchUptoSaid : Prop := opBatchUptoRow.holds Try.pinned (OpenSpec.upto opBatchSpec)

end Rows
end Go.Proofs.Ytbfcilfdeemnpaa
