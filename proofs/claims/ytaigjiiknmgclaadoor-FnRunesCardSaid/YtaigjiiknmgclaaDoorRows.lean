/-
  NARROWER THAN 'FOR EVERY INPUT', by the rows' own cells (each row's printed sentence says how): FnRunes: laid · FnComplete: laid · FnExactDecodeAt: laid · FnExactRunesOf: laid · FnExactCutRunes: laid · FnExactIsText: laid · FnExactCompleteLength: laid.
  DERIVED. THE GIVEN ROWS OF THIS SEAT. 7 by the template 'for every input the law returns true; each argument reads behind the call as it read before'; 0 by the template 'total and deterministic' (their statements: YtaigjiiknmgclaaDoorTotals.lean).
  GIVEN WITH THE SEED: the statements are not yours to turn. If you find one false, say at which input.
  Laid BY PROGRAM, IN A SANDBOX (cutbox-rows.mjs): the forced cells as the released guide's own fill.sh prints them over the translation 67a99d61a5bdc495… (all of the seat's roots in one cut). By AI agents, Wed Nov 11 2026. No macro, syntax, notation, axiom, sorry.
-/
import Derived.Test.YtaigjiiknmgclaaDoorChecked
import GoSem.PinnedTables
import GoSem.Claim
import GoSem.ClaimJoined
import GoSem.ClaimMapViews
import Derived.JoinedTies
import Derived.KernelRfl
namespace Go.Proofs.YtaigjiiknmgclaaDoor
/- THE CELL 'sum', in the pinned program and in every row, IS THE sha256 OF THE DUMP (.gsa) THAT YtaigjiiknmgclaaDoorProg.lean LOADS. Nothing in Lean hashes anything: it is a label: what it is worth is what the hold of that sum in a sandbox is worth. -/
noncomputable def Tryd.pinned : Pinned := { name := "ytaigjiiknmgclaadoor", sum := "67a99d61a5bdc49544dc02fd6bfaced44ef8187eb79054ff0d4bc397100b21c0", checked := Tryd.checked }
namespace Rows
def none {H : Type} : Left H := { results := [], args := [] }

/- WHAT THE LISTED PACKAGE-LEVEL VARIABLES READ AS WHEN THE CALL BEGINS. Each datum BY PROGRAM (the guide's laid-datum.mjs) off the statement by which the dump's own 'gosem.cut.vars' lays the variable. In a bare row this is a premise. The card (YtaigjiiknmgclaaDoorCards.lean) ties it to the program's text. -/
def laid_unicode_utf8_acceptRanges {H : Type} : DataW H := .agg [.agg [.lit (.int .u8 128), .lit (.int .u8 191)], .agg [.lit (.int .u8 160), .lit (.int .u8 191)], .agg [.lit (.int .u8 128), .lit (.int .u8 159)], .agg [.lit (.int .u8 144), .lit (.int .u8 191)], .agg [.lit (.int .u8 128), .lit (.int .u8 143)], .agg [.lit (.int .u8 0), .lit (.int .u8 0)], .agg [.lit (.int .u8 0), .lit (.int .u8 0)], .agg [.lit (.int .u8 0), .lit (.int .u8 0)], .agg [.lit (.int .u8 0), .lit (.int .u8 0)], .agg [.lit (.int .u8 0), .lit (.int .u8 0)], .agg [.lit (.int .u8 0), .lit (.int .u8 0)], .agg [.lit (.int .u8 0), .lit (.int .u8 0)], .agg [.lit (.int .u8 0), .lit (.int .u8 0)], .agg [.lit (.int .u8 0), .lit (.int .u8 0)], .agg [.lit (.int .u8 0), .lit (.int .u8 0)], .agg [.lit (.int .u8 0), .lit (.int .u8 0)]]
/-- One of Go's own tables, pinned by name: the form's constant. -/
def laid_unicode_utf8_first : DataW Unit := Go.Pinned.utf8First

/-- 'laws.FnRunes': WHATEVER THE INPUT: true; the input reads as it did. -/
def fnRunesSpec : ChangeSpec := { name := "fnRunes", fn := fun _ => fun
  | [d] => { results := [.lit (.bool true)], args := [d] }
  | _ => none }
def fnRunesRow : OpenClaim := { program := "ytaigjiiknmgclaadoor", sum := "67a99d61a5bdc49544dc02fd6bfaced44ef8187eb79054ff0d4bc397100b21c0", func := "loop.example/g00819/laws.FnRunes", spec := "fnRunes", inPlace := ["internal/abi.NoEscape", "internal/bytealg.MakeNoZero"], unfollowed := true, recurses := true, named := ["unicode/utf8.first", "unicode/utf8.acceptRanges"], apart := false, laid := [("unicode/utf8.acceptRanges", laid_unicode_utf8_acceptRanges), ("unicode/utf8.first", laid_unicode_utf8_first)] }
def FnRunesSaid : Prop := fnRunesRow.holds Tryd.pinned (OpenSpec.ofChange fnRunesSpec)

/-- ITS FALSE NEIGHBOUR: 'it returns false'. Refute it at one input. -/
def fnRunesWrong : ChangeSpec := { name := "fnRunes", fn := fun _ => fun
  | [d] => { results := [.lit (.bool false)], args := [d] }
  | _ => none }
def FnRunesWrongFalsely : Prop := fnRunesRow.holds Tryd.pinned (OpenSpec.ofChange fnRunesWrong)

/-- 'laws.FnComplete': WHATEVER THE INPUT: true; the input reads as it did. -/
def fnCompleteSpec : ChangeSpec := { name := "fnComplete", fn := fun _ => fun
  | [d] => { results := [.lit (.bool true)], args := [d] }
  | _ => none }
def fnCompleteRow : OpenClaim := { program := "ytaigjiiknmgclaadoor", sum := "67a99d61a5bdc49544dc02fd6bfaced44ef8187eb79054ff0d4bc397100b21c0", func := "loop.example/g00819/laws.FnComplete", spec := "fnComplete", unfollowed := true, recurses := true, named := ["unicode/utf8.first", "unicode/utf8.acceptRanges"], apart := false, laid := [("unicode/utf8.acceptRanges", laid_unicode_utf8_acceptRanges), ("unicode/utf8.first", laid_unicode_utf8_first)] }
def FnCompleteSaid : Prop := fnCompleteRow.holds Tryd.pinned (OpenSpec.ofChange fnCompleteSpec)

/-- ITS FALSE NEIGHBOUR: 'it returns false'. Refute it at one input. -/
def fnCompleteWrong : ChangeSpec := { name := "fnComplete", fn := fun _ => fun
  | [d] => { results := [.lit (.bool false)], args := [d] }
  | _ => none }
def FnCompleteWrongFalsely : Prop := fnCompleteRow.holds Tryd.pinned (OpenSpec.ofChange fnCompleteWrong)

/-- 'laws.FnExactDecodeAt': WHATEVER THE INPUT: true; the input reads as it did. -/
def fnExactDecodeAtSpec : ChangeSpec := { name := "fnExactDecodeAt", fn := fun _ => fun
  | [d1, d2] => { results := [.lit (.bool true)], args := [d1, d2] }
  | _ => none }
def fnExactDecodeAtRow : OpenClaim := { program := "ytaigjiiknmgclaadoor", sum := "67a99d61a5bdc49544dc02fd6bfaced44ef8187eb79054ff0d4bc397100b21c0", func := "loop.example/g00819/laws.FnExactDecodeAt", spec := "fnExactDecodeAt", named := ["unicode/utf8.first", "unicode/utf8.acceptRanges"], apart := false, laid := [("unicode/utf8.acceptRanges", laid_unicode_utf8_acceptRanges), ("unicode/utf8.first", laid_unicode_utf8_first)] }
def FnExactDecodeAtSaid : Prop := fnExactDecodeAtRow.holds Tryd.pinned (OpenSpec.ofChange fnExactDecodeAtSpec)

/-- ITS FALSE NEIGHBOUR: 'it returns false'. Refute it at one input. -/
def fnExactDecodeAtWrong : ChangeSpec := { name := "fnExactDecodeAt", fn := fun _ => fun
  | [d1, d2] => { results := [.lit (.bool false)], args := [d1, d2] }
  | _ => none }
def FnExactDecodeAtWrongFalsely : Prop := fnExactDecodeAtRow.holds Tryd.pinned (OpenSpec.ofChange fnExactDecodeAtWrong)

/-- 'laws.FnExactRunesOf': WHATEVER THE INPUT: true; the input reads as it did. -/
def fnExactRunesOfSpec : ChangeSpec := { name := "fnExactRunesOf", fn := fun _ => fun
  | [d] => { results := [.lit (.bool true)], args := [d] }
  | _ => none }
def fnExactRunesOfRow : OpenClaim := { program := "ytaigjiiknmgclaadoor", sum := "67a99d61a5bdc49544dc02fd6bfaced44ef8187eb79054ff0d4bc397100b21c0", func := "loop.example/g00819/laws.FnExactRunesOf", spec := "fnExactRunesOf", unfollowed := true, recurses := true, named := ["unicode/utf8.first", "unicode/utf8.acceptRanges"], apart := false, laid := [("unicode/utf8.acceptRanges", laid_unicode_utf8_acceptRanges), ("unicode/utf8.first", laid_unicode_utf8_first)] }
def FnExactRunesOfSaid : Prop := fnExactRunesOfRow.holds Tryd.pinned (OpenSpec.ofChange fnExactRunesOfSpec)

/-- ITS FALSE NEIGHBOUR: 'it returns false'. Refute it at one input. -/
def fnExactRunesOfWrong : ChangeSpec := { name := "fnExactRunesOf", fn := fun _ => fun
  | [d] => { results := [.lit (.bool false)], args := [d] }
  | _ => none }
def FnExactRunesOfWrongFalsely : Prop := fnExactRunesOfRow.holds Tryd.pinned (OpenSpec.ofChange fnExactRunesOfWrong)

/-- 'laws.FnExactCutRunes': WHATEVER THE INPUT: true; the input reads as it did. -/
def fnExactCutRunesSpec : ChangeSpec := { name := "fnExactCutRunes", fn := fun _ => fun
  | [d] => { results := [.lit (.bool true)], args := [d] }
  | _ => none }
def fnExactCutRunesRow : OpenClaim := { program := "ytaigjiiknmgclaadoor", sum := "67a99d61a5bdc49544dc02fd6bfaced44ef8187eb79054ff0d4bc397100b21c0", func := "loop.example/g00819/laws.FnExactCutRunes", spec := "fnExactCutRunes", unfollowed := true, recurses := true, named := ["unicode/utf8.first", "unicode/utf8.acceptRanges"], apart := false, laid := [("unicode/utf8.acceptRanges", laid_unicode_utf8_acceptRanges), ("unicode/utf8.first", laid_unicode_utf8_first)] }
def FnExactCutRunesSaid : Prop := fnExactCutRunesRow.holds Tryd.pinned (OpenSpec.ofChange fnExactCutRunesSpec)

/-- ITS FALSE NEIGHBOUR: 'it returns false'. Refute it at one input. -/
def fnExactCutRunesWrong : ChangeSpec := { name := "fnExactCutRunes", fn := fun _ => fun
  | [d] => { results := [.lit (.bool false)], args := [d] }
  | _ => none }
def FnExactCutRunesWrongFalsely : Prop := fnExactCutRunesRow.holds Tryd.pinned (OpenSpec.ofChange fnExactCutRunesWrong)

/-- 'laws.FnExactIsText': WHATEVER THE INPUT: true; the input reads as it did. -/
def fnExactIsTextSpec : ChangeSpec := { name := "fnExactIsText", fn := fun _ => fun
  | [d] => { results := [.lit (.bool true)], args := [d] }
  | _ => none }
def fnExactIsTextRow : OpenClaim := { program := "ytaigjiiknmgclaadoor", sum := "67a99d61a5bdc49544dc02fd6bfaced44ef8187eb79054ff0d4bc397100b21c0", func := "loop.example/g00819/laws.FnExactIsText", spec := "fnExactIsText", unfollowed := true, recurses := true, named := ["unicode/utf8.first", "unicode/utf8.acceptRanges"], apart := false, laid := [("unicode/utf8.acceptRanges", laid_unicode_utf8_acceptRanges), ("unicode/utf8.first", laid_unicode_utf8_first)] }
def FnExactIsTextSaid : Prop := fnExactIsTextRow.holds Tryd.pinned (OpenSpec.ofChange fnExactIsTextSpec)

/-- ITS FALSE NEIGHBOUR: 'it returns false'. Refute it at one input. -/
def fnExactIsTextWrong : ChangeSpec := { name := "fnExactIsText", fn := fun _ => fun
  | [d] => { results := [.lit (.bool false)], args := [d] }
  | _ => none }
def FnExactIsTextWrongFalsely : Prop := fnExactIsTextRow.holds Tryd.pinned (OpenSpec.ofChange fnExactIsTextWrong)

/-- 'laws.FnExactCompleteLength': WHATEVER THE INPUT: true; the input reads as it did. -/
def fnExactCompleteLengthSpec : ChangeSpec := { name := "fnExactCompleteLength", fn := fun _ => fun
  | [d] => { results := [.lit (.bool true)], args := [d] }
  | _ => none }
def fnExactCompleteLengthRow : OpenClaim := { program := "ytaigjiiknmgclaadoor", sum := "67a99d61a5bdc49544dc02fd6bfaced44ef8187eb79054ff0d4bc397100b21c0", func := "loop.example/g00819/laws.FnExactCompleteLength", spec := "fnExactCompleteLength", named := ["unicode/utf8.first", "unicode/utf8.acceptRanges"], apart := false, laid := [("unicode/utf8.acceptRanges", laid_unicode_utf8_acceptRanges), ("unicode/utf8.first", laid_unicode_utf8_first)] }
def FnExactCompleteLengthSaid : Prop := fnExactCompleteLengthRow.holds Tryd.pinned (OpenSpec.ofChange fnExactCompleteLengthSpec)

/-- ITS FALSE NEIGHBOUR: 'it returns false'. Refute it at one input. -/
def fnExactCompleteLengthWrong : ChangeSpec := { name := "fnExactCompleteLength", fn := fun _ => fun
  | [d] => { results := [.lit (.bool false)], args := [d] }
  | _ => none }
def FnExactCompleteLengthWrongFalsely : Prop := fnExactCompleteLengthRow.holds Tryd.pinned (OpenSpec.ofChange fnExactCompleteLengthWrong)

/- THE SECOND FORM. 'bulk': how many values and letters a reading holds, each counted each time it is reached (what is shared counts as often as it is met; a slice's spare places count too). A statement '..UptoSaid' is the law's where the arguments, and the package variables that the reading takes, are together of bulk at most 1048576: NARROWER than '..Said'. Prove '..Said' where nothing that the law and all that it calls make is longer than what came in: it says more and counts as full. Else prove '..UptoSaid'. A law counts once. -/
mutual
def uptoBulk {H : Type} : DataW H → Nat
  | .lit (.string bytes) => bytes.length + 1
  | .lit _ => 1
  | .nil => 1
  | .ptr d => uptoBulk d + 1
  | .slice elems spare => uptoBulkAll elems + uptoBulkAll spare + 1
  | .agg parts => uptoBulkAll parts + 1
  | .iface _ d => uptoBulk d + 1
  | .map entries => uptoBulkEntries entries + 1
  | .held _ => 1
def uptoBulkAll {H : Type} : List (DataW H) → Nat
  | [] => 0
  | d :: r => uptoBulk d + uptoBulkAll r
def uptoBulkEntries {H : Type} : List (Lit × DataW H) → Nat
  | [] => 0
  | x :: r => uptoBulkEntry x + uptoBulkEntries r
def uptoBulkEntry {H : Type} : Lit × DataW H → Nat
  | (.string bytes, d) => bytes.length + uptoBulk d + 1
  | (_, d) => uptoBulk d + 1
 end
def uptoSmall : (H : Type) → List (DataW H) → Bool := fun _ ds => decide (uptoBulkAll ds ≤ 1048576)
def OpenSpec.upto (s : _root_.Go.ChangeSpec) : _root_.Go.OpenSpec := { _root_.Go.OpenSpec.ofChange s with cond := some uptoSmall }

/-- 'laws.FnRunes', WHERE WHAT IT READS IS OF BULK AT MOST 1048576: true; the input reads as it did. -/
def fnRunesUptoRow : OpenClaim := { program := "ytaigjiiknmgclaadoor", sum := "67a99d61a5bdc49544dc02fd6bfaced44ef8187eb79054ff0d4bc397100b21c0", func := "loop.example/g00819/laws.FnRunes", spec := "fnRunes", inPlace := ["internal/abi.NoEscape", "internal/bytealg.MakeNoZero"], unfollowed := true, recurses := true, named := ["unicode/utf8.first", "unicode/utf8.acceptRanges"], apart := false, laid := [("unicode/utf8.acceptRanges", laid_unicode_utf8_acceptRanges), ("unicode/utf8.first", laid_unicode_utf8_first)], narrowed := true }
def FnRunesUptoSaid : Prop := fnRunesUptoRow.holds Tryd.pinned (OpenSpec.upto fnRunesSpec)

/-- 'laws.FnComplete', WHERE WHAT IT READS IS OF BULK AT MOST 1048576: true; the input reads as it did. -/
def fnCompleteUptoRow : OpenClaim := { program := "ytaigjiiknmgclaadoor", sum := "67a99d61a5bdc49544dc02fd6bfaced44ef8187eb79054ff0d4bc397100b21c0", func := "loop.example/g00819/laws.FnComplete", spec := "fnComplete", unfollowed := true, recurses := true, named := ["unicode/utf8.first", "unicode/utf8.acceptRanges"], apart := false, laid := [("unicode/utf8.acceptRanges", laid_unicode_utf8_acceptRanges), ("unicode/utf8.first", laid_unicode_utf8_first)], narrowed := true }
def FnCompleteUptoSaid : Prop := fnCompleteUptoRow.holds Tryd.pinned (OpenSpec.upto fnCompleteSpec)

/-- 'laws.FnExactDecodeAt', WHERE WHAT IT READS IS OF BULK AT MOST 1048576: true; the input reads as it did. -/
def fnExactDecodeAtUptoRow : OpenClaim := { program := "ytaigjiiknmgclaadoor", sum := "67a99d61a5bdc49544dc02fd6bfaced44ef8187eb79054ff0d4bc397100b21c0", func := "loop.example/g00819/laws.FnExactDecodeAt", spec := "fnExactDecodeAt", named := ["unicode/utf8.first", "unicode/utf8.acceptRanges"], apart := false, laid := [("unicode/utf8.acceptRanges", laid_unicode_utf8_acceptRanges), ("unicode/utf8.first", laid_unicode_utf8_first)], narrowed := true }
def FnExactDecodeAtUptoSaid : Prop := fnExactDecodeAtUptoRow.holds Tryd.pinned (OpenSpec.upto fnExactDecodeAtSpec)

/-- 'laws.FnExactRunesOf', WHERE WHAT IT READS IS OF BULK AT MOST 1048576: true; the input reads as it did. -/
def fnExactRunesOfUptoRow : OpenClaim := { program := "ytaigjiiknmgclaadoor", sum := "67a99d61a5bdc49544dc02fd6bfaced44ef8187eb79054ff0d4bc397100b21c0", func := "loop.example/g00819/laws.FnExactRunesOf", spec := "fnExactRunesOf", unfollowed := true, recurses := true, named := ["unicode/utf8.first", "unicode/utf8.acceptRanges"], apart := false, laid := [("unicode/utf8.acceptRanges", laid_unicode_utf8_acceptRanges), ("unicode/utf8.first", laid_unicode_utf8_first)], narrowed := true }
def FnExactRunesOfUptoSaid : Prop := fnExactRunesOfUptoRow.holds Tryd.pinned (OpenSpec.upto fnExactRunesOfSpec)

/-- 'laws.FnExactCutRunes', WHERE WHAT IT READS IS OF BULK AT MOST 1048576: true; the input reads as it did. -/
def fnExactCutRunesUptoRow : OpenClaim := { program := "ytaigjiiknmgclaadoor", sum := "67a99d61a5bdc49544dc02fd6bfaced44ef8187eb79054ff0d4bc397100b21c0", func := "loop.example/g00819/laws.FnExactCutRunes", spec := "fnExactCutRunes", unfollowed := true, recurses := true, named := ["unicode/utf8.first", "unicode/utf8.acceptRanges"], apart := false, laid := [("unicode/utf8.acceptRanges", laid_unicode_utf8_acceptRanges), ("unicode/utf8.first", laid_unicode_utf8_first)], narrowed := true }
def FnExactCutRunesUptoSaid : Prop := fnExactCutRunesUptoRow.holds Tryd.pinned (OpenSpec.upto fnExactCutRunesSpec)

/-- 'laws.FnExactIsText', WHERE WHAT IT READS IS OF BULK AT MOST 1048576: true; the input reads as it did. -/
def fnExactIsTextUptoRow : OpenClaim := { program := "ytaigjiiknmgclaadoor", sum := "67a99d61a5bdc49544dc02fd6bfaced44ef8187eb79054ff0d4bc397100b21c0", func := "loop.example/g00819/laws.FnExactIsText", spec := "fnExactIsText", unfollowed := true, recurses := true, named := ["unicode/utf8.first", "unicode/utf8.acceptRanges"], apart := false, laid := [("unicode/utf8.acceptRanges", laid_unicode_utf8_acceptRanges), ("unicode/utf8.first", laid_unicode_utf8_first)], narrowed := true }
def FnExactIsTextUptoSaid : Prop := fnExactIsTextUptoRow.holds Tryd.pinned (OpenSpec.upto fnExactIsTextSpec)

/-- 'laws.FnExactCompleteLength', WHERE WHAT IT READS IS OF BULK AT MOST 1048576: true; the input reads as it did. -/
def fnExactCompleteLengthUptoRow : OpenClaim := { program := "ytaigjiiknmgclaadoor", sum := "67a99d61a5bdc49544dc02fd6bfaced44ef8187eb79054ff0d4bc397100b21c0", func := "loop.example/g00819/laws.FnExactCompleteLength", spec := "fnExactCompleteLength", named := ["unicode/utf8.first", "unicode/utf8.acceptRanges"], apart := false, laid := [("unicode/utf8.acceptRanges", laid_unicode_utf8_acceptRanges), ("unicode/utf8.first", laid_unicode_utf8_first)], narrowed := true }
def FnExactCompleteLengthUptoSaid : Prop := fnExactCompleteLengthUptoRow.holds Tryd.pinned (OpenSpec.upto fnExactCompleteLengthSpec)

end Rows
end Go.Proofs.YtaigjiiknmgclaaDoor
