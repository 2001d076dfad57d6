/-
  NARROWER THAN 'FOR EVERY INPUT', by the rows' own cells (each row's printed sentence says how): TabletFull: loops, laid · SplitCuts: laid · SplitMerges: laid · SplitBack: laid · SplitSame: loops, laid · SplitHalf: laid.
  DERIVED. THE GIVEN ROWS OF THIS SEAT. 6 by the template 'for every input the law returns true; each argument reads behind the call as it read before'; 0 by the template 'total and deterministic' (their statements: YtlljmhcgjkolpaaGreatDoorTotals.lean).
  GIVEN WITH THE SEED: the statements are not yours to turn. If you find one false, say at which input.
  Laid BY PROGRAM, IN A SANDBOX (cutbox-rows.mjs): the forced cells as the released guide's own fill.sh prints them over the translation ede2c1ad3a3bbb64… (all of the seat's roots in one cut). By AI agents, Wed Nov 11 2026. No macro, syntax, notation, axiom, sorry.
-/
import Derived.Test.YtlljmhcgjkolpaaGreatDoorChecked
import GoSem.PinnedTables
import GoSem.Claim
import GoSem.ClaimJoined
import GoSem.ClaimMapViews
import Derived.JoinedTies
import Derived.KernelRfl
namespace Go.Proofs.YtlljmhcgjkolpaaGreatDoor
/- THE CELL 'sum', in the pinned program and in every row, IS THE sha256 OF THE DUMP (.gsa) THAT YtlljmhcgjkolpaaGreatDoorProg.lean LOADS. Nothing in Lean hashes anything: it is a label: what it is worth is what the hold of that sum in a sandbox is worth. -/
noncomputable def Tryz.pinned : Pinned := { name := "ytlljmhcgjkolpaagreatdoor", sum := "ede2c1ad3a3bbb64ad37a677824ce5e309866d0fa1dec4ec4c005ae278a7dd94", checked := Tryz.checked }
namespace Rows
def none {H : Type} : Left H := { results := [], args := [] }

/- WHAT THE LISTED PACKAGE-LEVEL VARIABLES READ AS WHEN THE CALL BEGINS. Each datum BY PROGRAM (the guide's laid-datum.mjs) off the statement by which the dump's own 'gosem.cut.vars' lays the variable. In a bare row this is a premise. The card (YtlljmhcgjkolpaaGreatDoorCards.lean) ties it to the program's text. -/
def laid_unicode_utf8_acceptRanges {H : Type} : DataW H := .agg [.agg [.lit (.int .u8 128), .lit (.int .u8 191)], .agg [.lit (.int .u8 160), .lit (.int .u8 191)], .agg [.lit (.int .u8 128), .lit (.int .u8 159)], .agg [.lit (.int .u8 144), .lit (.int .u8 191)], .agg [.lit (.int .u8 128), .lit (.int .u8 143)], .agg [.lit (.int .u8 0), .lit (.int .u8 0)], .agg [.lit (.int .u8 0), .lit (.int .u8 0)], .agg [.lit (.int .u8 0), .lit (.int .u8 0)], .agg [.lit (.int .u8 0), .lit (.int .u8 0)], .agg [.lit (.int .u8 0), .lit (.int .u8 0)], .agg [.lit (.int .u8 0), .lit (.int .u8 0)], .agg [.lit (.int .u8 0), .lit (.int .u8 0)], .agg [.lit (.int .u8 0), .lit (.int .u8 0)], .agg [.lit (.int .u8 0), .lit (.int .u8 0)], .agg [.lit (.int .u8 0), .lit (.int .u8 0)], .agg [.lit (.int .u8 0), .lit (.int .u8 0)]]
def laid_bulwark_digest_firstWords {H : Type} : DataW H := .agg [.lit (.int .u32 1779033703), .lit (.int .u32 3144134277), .lit (.int .u32 1013904242), .lit (.int .u32 2773480762), .lit (.int .u32 1359893119), .lit (.int .u32 2600822924), .lit (.int .u32 528734635), .lit (.int .u32 1541459225)]
def laid_bulwark_digest_roundWords {H : Type} : DataW H := .agg [.lit (.int .u32 1116352408), .lit (.int .u32 1899447441), .lit (.int .u32 3049323471), .lit (.int .u32 3921009573), .lit (.int .u32 961987163), .lit (.int .u32 1508970993), .lit (.int .u32 2453635748), .lit (.int .u32 2870763221), .lit (.int .u32 3624381080), .lit (.int .u32 310598401), .lit (.int .u32 607225278), .lit (.int .u32 1426881987), .lit (.int .u32 1925078388), .lit (.int .u32 2162078206), .lit (.int .u32 2614888103), .lit (.int .u32 3248222580), .lit (.int .u32 3835390401), .lit (.int .u32 4022224774), .lit (.int .u32 264347078), .lit (.int .u32 604807628), .lit (.int .u32 770255983), .lit (.int .u32 1249150122), .lit (.int .u32 1555081692), .lit (.int .u32 1996064986), .lit (.int .u32 2554220882), .lit (.int .u32 2821834349), .lit (.int .u32 2952996808), .lit (.int .u32 3210313671), .lit (.int .u32 3336571891), .lit (.int .u32 3584528711), .lit (.int .u32 113926993), .lit (.int .u32 338241895), .lit (.int .u32 666307205), .lit (.int .u32 773529912), .lit (.int .u32 1294757372), .lit (.int .u32 1396182291), .lit (.int .u32 1695183700), .lit (.int .u32 1986661051), .lit (.int .u32 2177026350), .lit (.int .u32 2456956037), .lit (.int .u32 2730485921), .lit (.int .u32 2820302411), .lit (.int .u32 3259730800), .lit (.int .u32 3345764771), .lit (.int .u32 3516065817), .lit (.int .u32 3600352804), .lit (.int .u32 4094571909), .lit (.int .u32 275423344), .lit (.int .u32 430227734), .lit (.int .u32 506948616), .lit (.int .u32 659060556), .lit (.int .u32 883997877), .lit (.int .u32 958139571), .lit (.int .u32 1322822218), .lit (.int .u32 1537002063), .lit (.int .u32 1747873779), .lit (.int .u32 1955562222), .lit (.int .u32 2024104815), .lit (.int .u32 2227730452), .lit (.int .u32 2361852424), .lit (.int .u32 2428436474), .lit (.int .u32 2756734187), .lit (.int .u32 3204031479), .lit (.int .u32 3329325298)]
/-- One of Go's own tables, pinned by name: the form's constant. -/
def laid_unicode_utf8_first : DataW Unit := Go.Pinned.utf8First

/-- 'bulwarklaw10.TabletFull': WHATEVER THE INPUT: true; the input reads as it did. -/
def tabletFullSpec : ChangeSpec := { name := "tabletFull", fn := fun _ => fun
  | [d1, d2, d3] => { results := [.lit (.bool true)], args := [d1, d2, d3] }
  | _ => none }
def tabletFullRow : OpenClaim := { program := "ytlljmhcgjkolpaagreatdoor", sum := "ede2c1ad3a3bbb64ad37a677824ce5e309866d0fa1dec4ec4c005ae278a7dd94", func := "bulwark/bulwarklaw10.TabletFull", spec := "tabletFull", inPlace := ["internal/bytealg.MakeNoZero", "internal/bytealg.Compare", "internal/bytealg.IndexByteString", "internal/bytealg.IndexString"], unfollowed := true, recurses := true, named := ["bulwark/digest.roundWords", "bulwark/digest.firstWords", "unicode/utf8.first", "unicode/utf8.acceptRanges", "internal/bytealg.MaxLen"], loops := true, plainKeys := false, apart := false, laid := [("unicode/utf8.acceptRanges", laid_unicode_utf8_acceptRanges), ("bulwark/digest.firstWords", laid_bulwark_digest_firstWords), ("bulwark/digest.roundWords", laid_bulwark_digest_roundWords), ("unicode/utf8.first", laid_unicode_utf8_first)] }
def TabletFullSaid : Prop := tabletFullRow.holds Tryz.pinned (OpenSpec.ofChange tabletFullSpec)

/-- ITS FALSE NEIGHBOUR: 'it returns false'. Refute it at one input. -/
def tabletFullWrong : ChangeSpec := { name := "tabletFull", fn := fun _ => fun
  | [d1, d2, d3] => { results := [.lit (.bool false)], args := [d1, d2, d3] }
  | _ => none }
def TabletFullWrongFalsely : Prop := tabletFullRow.holds Tryz.pinned (OpenSpec.ofChange tabletFullWrong)

/-- 'bulwarklaw11.SplitCuts': WHATEVER THE INPUT: true; the input reads as it did. -/
def splitCutsSpec : ChangeSpec := { name := "splitCuts", fn := fun _ => fun
  | [d1, d2, d3, d4] => { results := [.lit (.bool true)], args := [d1, d2, d3, d4] }
  | _ => none }
def splitCutsRow : OpenClaim := { program := "ytlljmhcgjkolpaagreatdoor", sum := "ede2c1ad3a3bbb64ad37a677824ce5e309866d0fa1dec4ec4c005ae278a7dd94", func := "bulwark/bulwarklaw11.SplitCuts", spec := "splitCuts", inPlace := ["internal/bytealg.IndexByteString", "internal/bytealg.IndexString", "internal/bytealg.Compare", "internal/bytealg.MakeNoZero"], unfollowed := true, recurses := true, named := ["bulwark/digest.roundWords", "bulwark/digest.firstWords", "unicode/utf8.first", "unicode/utf8.acceptRanges", "internal/bytealg.MaxLen"], plainKeys := false, apart := false, laid := [("unicode/utf8.acceptRanges", laid_unicode_utf8_acceptRanges), ("bulwark/digest.firstWords", laid_bulwark_digest_firstWords), ("bulwark/digest.roundWords", laid_bulwark_digest_roundWords), ("unicode/utf8.first", laid_unicode_utf8_first)] }
def SplitCutsSaid : Prop := splitCutsRow.holds Tryz.pinned (OpenSpec.ofChange splitCutsSpec)

/-- ITS FALSE NEIGHBOUR: 'it returns false'. Refute it at one input. -/
def splitCutsWrong : ChangeSpec := { name := "splitCuts", fn := fun _ => fun
  | [d1, d2, d3, d4] => { results := [.lit (.bool false)], args := [d1, d2, d3, d4] }
  | _ => none }
def SplitCutsWrongFalsely : Prop := splitCutsRow.holds Tryz.pinned (OpenSpec.ofChange splitCutsWrong)

/-- 'bulwarklaw11.SplitMerges': WHATEVER THE INPUT: true; the input reads as it did. -/
def splitMergesSpec : ChangeSpec := { name := "splitMerges", fn := fun _ => fun
  | [d1, d2, d3, d4, d5, d6] => { results := [.lit (.bool true)], args := [d1, d2, d3, d4, d5, d6] }
  | _ => none }
def splitMergesRow : OpenClaim := { program := "ytlljmhcgjkolpaagreatdoor", sum := "ede2c1ad3a3bbb64ad37a677824ce5e309866d0fa1dec4ec4c005ae278a7dd94", func := "bulwark/bulwarklaw11.SplitMerges", spec := "splitMerges", inPlace := ["internal/bytealg.IndexByteString", "internal/bytealg.IndexString", "internal/bytealg.Compare", "internal/bytealg.MakeNoZero"], unfollowed := true, recurses := true, named := ["bulwark/digest.roundWords", "bulwark/digest.firstWords", "unicode/utf8.first", "unicode/utf8.acceptRanges", "internal/bytealg.MaxLen"], plainKeys := false, apart := false, laid := [("unicode/utf8.acceptRanges", laid_unicode_utf8_acceptRanges), ("bulwark/digest.firstWords", laid_bulwark_digest_firstWords), ("bulwark/digest.roundWords", laid_bulwark_digest_roundWords), ("unicode/utf8.first", laid_unicode_utf8_first)] }
def SplitMergesSaid : Prop := splitMergesRow.holds Tryz.pinned (OpenSpec.ofChange splitMergesSpec)

/-- ITS FALSE NEIGHBOUR: 'it returns false'. Refute it at one input. -/
def splitMergesWrong : ChangeSpec := { name := "splitMerges", fn := fun _ => fun
  | [d1, d2, d3, d4, d5, d6] => { results := [.lit (.bool false)], args := [d1, d2, d3, d4, d5, d6] }
  | _ => none }
def SplitMergesWrongFalsely : Prop := splitMergesRow.holds Tryz.pinned (OpenSpec.ofChange splitMergesWrong)

/-- 'bulwarklaw11.SplitBack': WHATEVER THE INPUT: true; the input reads as it did. -/
def splitBackSpec : ChangeSpec := { name := "splitBack", fn := fun _ => fun
  | [d1, d2, d3, d4] => { results := [.lit (.bool true)], args := [d1, d2, d3, d4] }
  | _ => none }
def splitBackRow : OpenClaim := { program := "ytlljmhcgjkolpaagreatdoor", sum := "ede2c1ad3a3bbb64ad37a677824ce5e309866d0fa1dec4ec4c005ae278a7dd94", func := "bulwark/bulwarklaw11.SplitBack", spec := "splitBack", inPlace := ["internal/bytealg.IndexByteString", "internal/bytealg.IndexString", "internal/bytealg.Compare", "internal/bytealg.MakeNoZero"], unfollowed := true, recurses := true, named := ["bulwark/digest.roundWords", "bulwark/digest.firstWords", "unicode/utf8.first", "unicode/utf8.acceptRanges", "internal/bytealg.MaxLen"], plainKeys := false, apart := false, laid := [("unicode/utf8.acceptRanges", laid_unicode_utf8_acceptRanges), ("bulwark/digest.firstWords", laid_bulwark_digest_firstWords), ("bulwark/digest.roundWords", laid_bulwark_digest_roundWords), ("unicode/utf8.first", laid_unicode_utf8_first)] }
def SplitBackSaid : Prop := splitBackRow.holds Tryz.pinned (OpenSpec.ofChange splitBackSpec)

/-- ITS FALSE NEIGHBOUR: 'it returns false'. Refute it at one input. -/
def splitBackWrong : ChangeSpec := { name := "splitBack", fn := fun _ => fun
  | [d1, d2, d3, d4] => { results := [.lit (.bool false)], args := [d1, d2, d3, d4] }
  | _ => none }
def SplitBackWrongFalsely : Prop := splitBackRow.holds Tryz.pinned (OpenSpec.ofChange splitBackWrong)

/-- 'bulwarklaw11.SplitSame': WHATEVER THE INPUT: true; the input reads as it did. -/
def splitSameSpec : ChangeSpec := { name := "splitSame", fn := fun _ => fun
  | [d1, d2, d3, d4, d5] => { results := [.lit (.bool true)], args := [d1, d2, d3, d4, d5] }
  | _ => none }
def splitSameRow : OpenClaim := { program := "ytlljmhcgjkolpaagreatdoor", sum := "ede2c1ad3a3bbb64ad37a677824ce5e309866d0fa1dec4ec4c005ae278a7dd94", func := "bulwark/bulwarklaw11.SplitSame", spec := "splitSame", inPlace := ["internal/bytealg.IndexByteString", "internal/bytealg.IndexString", "internal/bytealg.Compare", "internal/bytealg.MakeNoZero"], unfollowed := true, recurses := true, named := ["bulwark/digest.roundWords", "bulwark/digest.firstWords", "unicode/utf8.first", "unicode/utf8.acceptRanges", "internal/bytealg.MaxLen"], loops := true, plainKeys := false, apart := false, laid := [("unicode/utf8.acceptRanges", laid_unicode_utf8_acceptRanges), ("bulwark/digest.firstWords", laid_bulwark_digest_firstWords), ("bulwark/digest.roundWords", laid_bulwark_digest_roundWords), ("unicode/utf8.first", laid_unicode_utf8_first)] }
def SplitSameSaid : Prop := splitSameRow.holds Tryz.pinned (OpenSpec.ofChange splitSameSpec)

/-- ITS FALSE NEIGHBOUR: 'it returns false'. Refute it at one input. -/
def splitSameWrong : ChangeSpec := { name := "splitSame", fn := fun _ => fun
  | [d1, d2, d3, d4, d5] => { results := [.lit (.bool false)], args := [d1, d2, d3, d4, d5] }
  | _ => none }
def SplitSameWrongFalsely : Prop := splitSameRow.holds Tryz.pinned (OpenSpec.ofChange splitSameWrong)

/-- 'bulwarklaw11.SplitHalf': WHATEVER THE INPUT: true; the input reads as it did. -/
def splitHalfSpec : ChangeSpec := { name := "splitHalf", fn := fun _ => fun
  | [d] => { results := [.lit (.bool true)], args := [d] }
  | _ => none }
def splitHalfRow : OpenClaim := { program := "ytlljmhcgjkolpaagreatdoor", sum := "ede2c1ad3a3bbb64ad37a677824ce5e309866d0fa1dec4ec4c005ae278a7dd94", func := "bulwark/bulwarklaw11.SplitHalf", spec := "splitHalf", inPlace := ["internal/bytealg.IndexByteString", "internal/bytealg.IndexString", "internal/bytealg.Compare", "internal/bytealg.MakeNoZero"], unfollowed := true, recurses := true, named := ["bulwark/digest.roundWords", "bulwark/digest.firstWords", "unicode/utf8.first", "unicode/utf8.acceptRanges", "internal/bytealg.MaxLen"], plainKeys := false, apart := false, laid := [("unicode/utf8.acceptRanges", laid_unicode_utf8_acceptRanges), ("bulwark/digest.firstWords", laid_bulwark_digest_firstWords), ("bulwark/digest.roundWords", laid_bulwark_digest_roundWords), ("unicode/utf8.first", laid_unicode_utf8_first)] }
def SplitHalfSaid : Prop := splitHalfRow.holds Tryz.pinned (OpenSpec.ofChange splitHalfSpec)

/-- ITS FALSE NEIGHBOUR: 'it returns false'. Refute it at one input. -/
def splitHalfWrong : ChangeSpec := { name := "splitHalf", fn := fun _ => fun
  | [d] => { results := [.lit (.bool false)], args := [d] }
  | _ => none }
def SplitHalfWrongFalsely : Prop := splitHalfRow.holds Tryz.pinned (OpenSpec.ofChange splitHalfWrong)

/- THE SECOND FORM. 'bulk': how many values and letters a reading holds, each counted each time it is reached (what is shared counts as often as it is met; a slice's spare places count too). A statement '..UptoSaid' is the law's where the arguments, and the package variables that the reading takes, are together of bulk at most 1048576: NARROWER than '..Said'. Prove '..Said' where nothing that the law and all that it calls make is longer than what came in: it says more and counts as full. Else prove '..UptoSaid'. A law counts once. -/
mutual
def uptoBulk {H : Type} : DataW H → Nat
  | .lit (.string bytes) => bytes.length + 1
  | .lit _ => 1
  | .nil => 1
  | .ptr d => uptoBulk d + 1
  | .slice elems spare => uptoBulkAll elems + uptoBulkAll spare + 1
  | .agg parts => uptoBulkAll parts + 1
  | .iface _ d => uptoBulk d + 1
  | .map entries => uptoBulkEntries entries + 1
  | .held _ => 1
def uptoBulkAll {H : Type} : List (DataW H) → Nat
  | [] => 0
  | d :: r => uptoBulk d + uptoBulkAll r
def uptoBulkEntries {H : Type} : List (Lit × DataW H) → Nat
  | [] => 0
  | x :: r => uptoBulkEntry x + uptoBulkEntries r
def uptoBulkEntry {H : Type} : Lit × DataW H → Nat
  | (.string bytes, d) => bytes.length + uptoBulk d + 1
  | (_, d) => uptoBulk d + 1
 end
def uptoSmall : (H : Type) → List (DataW H) → Bool := fun _ ds => decide (uptoBulkAll ds ≤ 1048576)
def OpenSpec.upto (s : _root_.Go.ChangeSpec) : _root_.Go.OpenSpec := { _root_.Go.OpenSpec.ofChange s with cond := some uptoSmall }

/-- 'bulwarklaw10.TabletFull', WHERE WHAT IT READS IS OF BULK AT MOST 1048576: true; the input reads as it did. -/
def tabletFullUptoRow : OpenClaim := { program := "ytlljmhcgjkolpaagreatdoor", sum := "ede2c1ad3a3bbb64ad37a677824ce5e309866d0fa1dec4ec4c005ae278a7dd94", func := "bulwark/bulwarklaw10.TabletFull", spec := "tabletFull", inPlace := ["internal/bytealg.MakeNoZero", "internal/bytealg.Compare", "internal/bytealg.IndexByteString", "internal/bytealg.IndexString"], unfollowed := true, recurses := true, named := ["bulwark/digest.roundWords", "bulwark/digest.firstWords", "unicode/utf8.first", "unicode/utf8.acceptRanges", "internal/bytealg.MaxLen"], loops := true, plainKeys := false, apart := false, laid := [("unicode/utf8.acceptRanges", laid_unicode_utf8_acceptRanges), ("bulwark/digest.firstWords", laid_bulwark_digest_firstWords), ("bulwark/digest.roundWords", laid_bulwark_digest_roundWords), ("unicode/utf8.first", laid_unicode_utf8_first)], narrowed := true }
def TabletFullUptoSaid : Prop := tabletFullUptoRow.holds Tryz.pinned (OpenSpec.upto tabletFullSpec)

/-- 'bulwarklaw11.SplitCuts', WHERE WHAT IT READS IS OF BULK AT MOST 1048576: true; the input reads as it did. -/
def splitCutsUptoRow : OpenClaim := { program := "ytlljmhcgjkolpaagreatdoor", sum := "ede2c1ad3a3bbb64ad37a677824ce5e309866d0fa1dec4ec4c005ae278a7dd94", func := "bulwark/bulwarklaw11.SplitCuts", spec := "splitCuts", inPlace := ["internal/bytealg.IndexByteString", "internal/bytealg.IndexString", "internal/bytealg.Compare", "internal/bytealg.MakeNoZero"], unfollowed := true, recurses := true, named := ["bulwark/digest.roundWords", "bulwark/digest.firstWords", "unicode/utf8.first", "unicode/utf8.acceptRanges", "internal/bytealg.MaxLen"], plainKeys := false, apart := false, laid := [("unicode/utf8.acceptRanges", laid_unicode_utf8_acceptRanges), ("bulwark/digest.firstWords", laid_bulwark_digest_firstWords), ("bulwark/digest.roundWords", laid_bulwark_digest_roundWords), ("unicode/utf8.first", laid_unicode_utf8_first)], narrowed := true }
def SplitCutsUptoSaid : Prop := splitCutsUptoRow.holds Tryz.pinned (OpenSpec.upto splitCutsSpec)

/-- 'bulwarklaw11.SplitMerges', WHERE WHAT IT READS IS OF BULK AT MOST 1048576: true; the input reads as it did. -/
def splitMergesUptoRow : OpenClaim := { program := "ytlljmhcgjkolpaagreatdoor", sum := "ede2c1ad3a3bbb64ad37a677824ce5e309866d0fa1dec4ec4c005ae278a7dd94", func := "bulwark/bulwarklaw11.SplitMerges", spec := "splitMerges", inPlace := ["internal/bytealg.IndexByteString", "internal/bytealg.IndexString", "internal/bytealg.Compare", "internal/bytealg.MakeNoZero"], unfollowed := true, recurses := true, named := ["bulwark/digest.roundWords", "bulwark/digest.firstWords", "unicode/utf8.first", "unicode/utf8.acceptRanges", "internal/bytealg.MaxLen"], plainKeys := false, apart := false, laid := [("unicode/utf8.acceptRanges", laid_unicode_utf8_acceptRanges), ("bulwark/digest.firstWords", laid_bulwark_digest_firstWords), ("bulwark/digest.roundWords", laid_bulwark_digest_roundWords), ("unicode/utf8.first", laid_unicode_utf8_first)], narrowed := true }
def SplitMergesUptoSaid : Prop := splitMergesUptoRow.holds Tryz.pinned (OpenSpec.upto splitMergesSpec)

/-- 'bulwarklaw11.SplitBack', WHERE WHAT IT READS IS OF BULK AT MOST 1048576: true; the input reads as it did. -/
def splitBackUptoRow : OpenClaim := { program := "ytlljmhcgjkolpaagreatdoor", sum := "ede2c1ad3a3bbb64ad37a677824ce5e309866d0fa1dec4ec4c005ae278a7dd94", func := "bulwark/bulwarklaw11.SplitBack", spec := "splitBack", inPlace := ["internal/bytealg.IndexByteString", "internal/bytealg.IndexString", "internal/bytealg.Compare", "internal/bytealg.MakeNoZero"], unfollowed := true, recurses := true, named := ["bulwark/digest.roundWords", "bulwark/digest.firstWords", "unicode/utf8.first", "unicode/utf8.acceptRanges", "internal/bytealg.MaxLen"], plainKeys := false, apart := false, laid := [("unicode/utf8.acceptRanges", laid_unicode_utf8_acceptRanges), ("bulwark/digest.firstWords", laid_bulwark_digest_firstWords), ("bulwark/digest.roundWords", laid_bulwark_digest_roundWords), ("unicode/utf8.first", laid_unicode_utf8_first)], narrowed := true }
def SplitBackUptoSaid : Prop := splitBackUptoRow.holds Tryz.pinned (OpenSpec.upto splitBackSpec)

/-- 'bulwarklaw11.SplitSame', WHERE WHAT IT READS IS OF BULK AT MOST 1048576: true; the input reads as it did. -/
def splitSameUptoRow : OpenClaim := { program := "ytlljmhcgjkolpaagreatdoor", sum := "ede2c1ad3a3bbb64ad37a677824ce5e309866d0fa1dec4ec4c005ae278a7dd94", func := "bulwark/bulwarklaw11.SplitSame", spec := "splitSame", inPlace := ["internal/bytealg.IndexByteString", "internal/bytealg.IndexString", "internal/bytealg.Compare", "internal/bytealg.MakeNoZero"], unfollowed := true, recurses := true, named := ["bulwark/digest.roundWords", "bulwark/digest.firstWords", "unicode/utf8.first", "unicode/utf8.acceptRanges", "internal/bytealg.MaxLen"], loops := true, plainKeys := false, apart := false, laid := [("unicode/utf8.acceptRanges", laid_unicode_utf8_acceptRanges), ("bulwark/digest.firstWords", laid_bulwark_digest_firstWords), ("bulwark/digest.roundWords", laid_bulwark_digest_roundWords), ("unicode/utf8.first", laid_unicode_utf8_first)], narrowed := true }
def SplitSameUptoSaid : Prop := splitSameUptoRow.holds Tryz.pinned (OpenSpec.upto splitSameSpec)

/-- 'bulwarklaw11.SplitHalf', WHERE WHAT IT READS IS OF BULK AT MOST 1048576: true; the input reads as it did. -/
def splitHalfUptoRow : OpenClaim := { program := "ytlljmhcgjkolpaagreatdoor", sum := "ede2c1ad3a3bbb64ad37a677824ce5e309866d0fa1dec4ec4c005ae278a7dd94", func := "bulwark/bulwarklaw11.SplitHalf", spec := "splitHalf", inPlace := ["internal/bytealg.IndexByteString", "internal/bytealg.IndexString", "internal/bytealg.Compare", "internal/bytealg.MakeNoZero"], unfollowed := true, recurses := true, named := ["bulwark/digest.roundWords", "bulwark/digest.firstWords", "unicode/utf8.first", "unicode/utf8.acceptRanges", "internal/bytealg.MaxLen"], plainKeys := false, apart := false, laid := [("unicode/utf8.acceptRanges", laid_unicode_utf8_acceptRanges), ("bulwark/digest.firstWords", laid_bulwark_digest_firstWords), ("bulwark/digest.roundWords", laid_bulwark_digest_roundWords), ("unicode/utf8.first", laid_unicode_utf8_first)], narrowed := true }
def SplitHalfUptoSaid : Prop := splitHalfUptoRow.holds Tryz.pinned (OpenSpec.upto splitHalfSpec)

end Rows
end Go.Proofs.YtlljmhcgjkolpaaGreatDoor
