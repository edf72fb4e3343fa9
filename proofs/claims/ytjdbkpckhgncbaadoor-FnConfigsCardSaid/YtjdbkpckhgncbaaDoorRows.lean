/-
  NARROWER THAN 'FOR EVERY INPUT', by the rows' own cells (each row's printed sentence says how): FnConfigs: laid · FnAligned: laid · FnLayout: laid · FnClosed: laid · FnExactIsAligned: laid.
  DERIVED. THE GIVEN ROWS OF THIS SEAT. 5 by the template 'for every input the law returns true; each argument reads behind the call as it read before'; 0 by the template 'total and deterministic' (their statements: YtjdbkpckhgncbaaDoorTotals.lean).
  GIVEN WITH THE SEED: the statements are not yours to turn. If you find one false, say at which input.
  Laid BY PROGRAM, IN A SANDBOX (cutbox-rows.mjs): the forced cells as the released guide's own fill.sh prints them over the translation d1b690039a82ffa3… (all of the seat's roots in one cut). By AI agents, Wed Nov 11 2026. No macro, syntax, notation, axiom, sorry.
-/
import Derived.Test.YtjdbkpckhgncbaaDoorChecked
import GoSem.PinnedTables
import GoSem.Claim
import GoSem.ClaimJoined
import GoSem.ClaimMapViews
import Derived.JoinedTies
import Derived.KernelRfl
namespace Go.Proofs.YtjdbkpckhgncbaaDoor
/- THE CELL 'sum', in the pinned program and in every row, IS THE sha256 OF THE DUMP (.gsa) THAT YtjdbkpckhgncbaaDoorProg.lean LOADS. Nothing in Lean hashes anything: it is a label: what it is worth is what the hold of that sum in a sandbox is worth. -/
noncomputable def Tryd.pinned : Pinned := { name := "ytjdbkpckhgncbaadoor", sum := "d1b690039a82ffa3b9b91d309361b2249612bf186cfdaa995f67995eaee3741c", checked := Tryd.checked }
namespace Rows
def none {H : Type} : Left H := { results := [], args := [] }

/- WHAT THE LISTED PACKAGE-LEVEL VARIABLES READ AS WHEN THE CALL BEGINS. Each datum BY PROGRAM (the guide's laid-datum.mjs) off the statement by which the dump's own 'gosem.cut.vars' lays the variable. In a bare row this is a premise. The card (YtjdbkpckhgncbaaDoorCards.lean) ties it to the program's text. -/
def laid_math_bits_deBruijn32tab {H : Type} : DataW H := .agg [.lit (.int .u8 0), .lit (.int .u8 1), .lit (.int .u8 28), .lit (.int .u8 2), .lit (.int .u8 29), .lit (.int .u8 14), .lit (.int .u8 24), .lit (.int .u8 3), .lit (.int .u8 30), .lit (.int .u8 22), .lit (.int .u8 20), .lit (.int .u8 15), .lit (.int .u8 25), .lit (.int .u8 17), .lit (.int .u8 4), .lit (.int .u8 8), .lit (.int .u8 31), .lit (.int .u8 27), .lit (.int .u8 13), .lit (.int .u8 23), .lit (.int .u8 21), .lit (.int .u8 19), .lit (.int .u8 16), .lit (.int .u8 7), .lit (.int .u8 26), .lit (.int .u8 12), .lit (.int .u8 18), .lit (.int .u8 6), .lit (.int .u8 11), .lit (.int .u8 5), .lit (.int .u8 10), .lit (.int .u8 9)]
def laid_math_bits_deBruijn64tab {H : Type} : DataW H := .agg [.lit (.int .u8 0), .lit (.int .u8 1), .lit (.int .u8 56), .lit (.int .u8 2), .lit (.int .u8 57), .lit (.int .u8 49), .lit (.int .u8 28), .lit (.int .u8 3), .lit (.int .u8 61), .lit (.int .u8 58), .lit (.int .u8 42), .lit (.int .u8 50), .lit (.int .u8 38), .lit (.int .u8 29), .lit (.int .u8 17), .lit (.int .u8 4), .lit (.int .u8 62), .lit (.int .u8 47), .lit (.int .u8 59), .lit (.int .u8 36), .lit (.int .u8 45), .lit (.int .u8 43), .lit (.int .u8 51), .lit (.int .u8 22), .lit (.int .u8 53), .lit (.int .u8 39), .lit (.int .u8 33), .lit (.int .u8 30), .lit (.int .u8 24), .lit (.int .u8 18), .lit (.int .u8 12), .lit (.int .u8 5), .lit (.int .u8 63), .lit (.int .u8 55), .lit (.int .u8 48), .lit (.int .u8 27), .lit (.int .u8 60), .lit (.int .u8 41), .lit (.int .u8 37), .lit (.int .u8 16), .lit (.int .u8 46), .lit (.int .u8 35), .lit (.int .u8 44), .lit (.int .u8 21), .lit (.int .u8 52), .lit (.int .u8 32), .lit (.int .u8 23), .lit (.int .u8 11), .lit (.int .u8 54), .lit (.int .u8 26), .lit (.int .u8 40), .lit (.int .u8 15), .lit (.int .u8 34), .lit (.int .u8 20), .lit (.int .u8 31), .lit (.int .u8 10), .lit (.int .u8 25), .lit (.int .u8 14), .lit (.int .u8 19), .lit (.int .u8 9), .lit (.int .u8 13), .lit (.int .u8 8), .lit (.int .u8 7), .lit (.int .u8 6)]
def laid_internal_strconv_uint64pow10 {H : Type} : DataW H := .agg [.lit (.int .u64 1), .lit (.int .u64 10), .lit (.int .u64 100), .lit (.int .u64 1000), .lit (.int .u64 10000), .lit (.int .u64 100000), .lit (.int .u64 1000000), .lit (.int .u64 10000000), .lit (.int .u64 100000000), .lit (.int .u64 1000000000), .lit (.int .u64 10000000000), .lit (.int .u64 100000000000), .lit (.int .u64 1000000000000), .lit (.int .u64 10000000000000), .lit (.int .u64 100000000000000), .lit (.int .u64 1000000000000000), .lit (.int .u64 10000000000000000), .lit (.int .u64 100000000000000000), .lit (.int .u64 1000000000000000000), .lit (.int .u64 10000000000000000000)]
def laid_strconv_ErrRange {H : Type} : DataW H := .iface "*errors.errorString" (.ptr (.agg [.lit (.string [118, 97, 108, 117, 101, 32, 111, 117, 116, 32, 111, 102, 32, 114, 97, 110, 103, 101])]))
def laid_strconv_ErrSyntax {H : Type} : DataW H := .iface "*errors.errorString" (.ptr (.agg [.lit (.string [105, 110, 118, 97, 108, 105, 100, 32, 115, 121, 110, 116, 97, 120])]))
def laid_unicode_utf8_acceptRanges {H : Type} : DataW H := .agg [.agg [.lit (.int .u8 128), .lit (.int .u8 191)], .agg [.lit (.int .u8 160), .lit (.int .u8 191)], .agg [.lit (.int .u8 128), .lit (.int .u8 159)], .agg [.lit (.int .u8 144), .lit (.int .u8 191)], .agg [.lit (.int .u8 128), .lit (.int .u8 143)], .agg [.lit (.int .u8 0), .lit (.int .u8 0)], .agg [.lit (.int .u8 0), .lit (.int .u8 0)], .agg [.lit (.int .u8 0), .lit (.int .u8 0)], .agg [.lit (.int .u8 0), .lit (.int .u8 0)], .agg [.lit (.int .u8 0), .lit (.int .u8 0)], .agg [.lit (.int .u8 0), .lit (.int .u8 0)], .agg [.lit (.int .u8 0), .lit (.int .u8 0)], .agg [.lit (.int .u8 0), .lit (.int .u8 0)], .agg [.lit (.int .u8 0), .lit (.int .u8 0)], .agg [.lit (.int .u8 0), .lit (.int .u8 0)], .agg [.lit (.int .u8 0), .lit (.int .u8 0)]]
def laid_loop_example_g00819_impl_widthRanges {H : Type} : DataW H := .slice [.agg [.agg [.lit (.int .i64 0), .lit (.int .i64 31)], .lit (.int .i64 0)], .agg [.agg [.lit (.int .i64 127), .lit (.int .i64 159)], .lit (.int .i64 0)], .agg [.agg [.lit (.int .i64 768), .lit (.int .i64 879)], .lit (.int .i64 0)], .agg [.agg [.lit (.int .i64 1155), .lit (.int .i64 1161)], .lit (.int .i64 0)], .agg [.agg [.lit (.int .i64 8203), .lit (.int .i64 8207)], .lit (.int .i64 0)], .agg [.agg [.lit (.int .i64 8400), .lit (.int .i64 8447)], .lit (.int .i64 0)], .agg [.agg [.lit (.int .i64 65024), .lit (.int .i64 65039)], .lit (.int .i64 0)], .agg [.agg [.lit (.int .i64 65279), .lit (.int .i64 65279)], .lit (.int .i64 0)], .agg [.agg [.lit (.int .i64 4352), .lit (.int .i64 4447)], .lit (.int .i64 2)], .agg [.agg [.lit (.int .i64 11904), .lit (.int .i64 42191)], .lit (.int .i64 2)], .agg [.agg [.lit (.int .i64 44032), .lit (.int .i64 55203)], .lit (.int .i64 2)], .agg [.agg [.lit (.int .i64 63744), .lit (.int .i64 64255)], .lit (.int .i64 2)], .agg [.agg [.lit (.int .i64 65280), .lit (.int .i64 65376)], .lit (.int .i64 2)], .agg [.agg [.lit (.int .i64 65504), .lit (.int .i64 65510)], .lit (.int .i64 2)], .agg [.agg [.lit (.int .i64 127744), .lit (.int .i64 128591)], .lit (.int .i64 2)], .agg [.agg [.lit (.int .i64 129280), .lit (.int .i64 129535)], .lit (.int .i64 2)], .agg [.agg [.lit (.int .i64 131072), .lit (.int .i64 262141)], .lit (.int .i64 2)]] []
/-- One of Go's own tables, pinned by name: the form's constant. -/
def laid_unicode_utf8_first : DataW Unit := Go.Pinned.utf8First

/-- 'laws.FnConfigs': WHATEVER THE INPUT: true; the input reads as it did. -/
def fnConfigsSpec : ChangeSpec := { name := "fnConfigs", fn := fun _ => fun
  | [d] => { results := [.lit (.bool true)], args := [d] }
  | _ => none }
def fnConfigsRow : OpenClaim := { program := "ytjdbkpckhgncbaadoor", sum := "d1b690039a82ffa3b9b91d309361b2249612bf186cfdaa995f67995eaee3741c", func := "loop.example/g00819/laws.FnConfigs", spec := "fnConfigs", inPlace := ["internal/abi.NoEscape", "internal/bytealg.MakeNoZero", "internal/bytealg.IndexByteString", "internal/bytealg.IndexString"], named := ["internal/strconv.uint64pow10", "math/bits.deBruijn32tab", "math/bits.deBruijn64tab", "strconv.ErrSyntax", "strconv.ErrRange", "internal/bytealg.MaxLen"], apart := false, laid := [("math/bits.deBruijn32tab", laid_math_bits_deBruijn32tab), ("math/bits.deBruijn64tab", laid_math_bits_deBruijn64tab), ("internal/strconv.uint64pow10", laid_internal_strconv_uint64pow10), ("strconv.ErrRange", laid_strconv_ErrRange), ("strconv.ErrSyntax", laid_strconv_ErrSyntax)] }
def FnConfigsSaid : Prop := fnConfigsRow.holds Tryd.pinned (OpenSpec.ofChange fnConfigsSpec)

/-- ITS FALSE NEIGHBOUR: 'it returns false'. Refute it at one input. -/
def fnConfigsWrong : ChangeSpec := { name := "fnConfigs", fn := fun _ => fun
  | [d] => { results := [.lit (.bool false)], args := [d] }
  | _ => none }
def FnConfigsWrongFalsely : Prop := fnConfigsRow.holds Tryd.pinned (OpenSpec.ofChange fnConfigsWrong)

/-- 'laws.FnAligned': WHATEVER THE INPUT: true; the input reads as it did. -/
def fnAlignedSpec : ChangeSpec := { name := "fnAligned", vars := ["loop.example/g00819/impl.widthRanges"], fn := fun _ => fun
  | [d, g1] => { results := [.lit (.bool true)], args := [d], vars := [g1] }
  | _ => none }
def fnAlignedRow : OpenClaim := { program := "ytjdbkpckhgncbaadoor", sum := "d1b690039a82ffa3b9b91d309361b2249612bf186cfdaa995f67995eaee3741c", func := "loop.example/g00819/laws.FnAligned", spec := "fnAligned", inPlace := ["internal/bytealg.IndexByteString"], unfollowed := true, recurses := true, named := ["unicode/utf8.first", "unicode/utf8.acceptRanges", "loop.example/g00819/impl.widthRanges"], apart := false, laid := [("unicode/utf8.acceptRanges", laid_unicode_utf8_acceptRanges), ("loop.example/g00819/impl.widthRanges", laid_loop_example_g00819_impl_widthRanges), ("unicode/utf8.first", laid_unicode_utf8_first)] }
def FnAlignedSaid : Prop := fnAlignedRow.holds Tryd.pinned (OpenSpec.ofChange fnAlignedSpec)

/-- ITS FALSE NEIGHBOUR: 'it returns false'. Refute it at one input. -/
def fnAlignedWrong : ChangeSpec := { name := "fnAligned", vars := ["loop.example/g00819/impl.widthRanges"], fn := fun _ => fun
  | [d, g1] => { results := [.lit (.bool false)], args := [d], vars := [g1] }
  | _ => none }
def FnAlignedWrongFalsely : Prop := fnAlignedRow.holds Tryd.pinned (OpenSpec.ofChange fnAlignedWrong)

/-- 'laws.FnLayout': WHATEVER THE INPUT: true; the input reads as it did. -/
def fnLayoutSpec : ChangeSpec := { name := "fnLayout", vars := ["loop.example/g00819/impl.widthRanges"], fn := fun _ => fun
  | [d, g1] => { results := [.lit (.bool true)], args := [d], vars := [g1] }
  | _ => none }
def fnLayoutRow : OpenClaim := { program := "ytjdbkpckhgncbaadoor", sum := "d1b690039a82ffa3b9b91d309361b2249612bf186cfdaa995f67995eaee3741c", func := "loop.example/g00819/laws.FnLayout", spec := "fnLayout", inPlace := ["internal/bytealg.IndexByteString", "internal/abi.NoEscape", "internal/bytealg.MakeNoZero"], unfollowed := true, recurses := true, named := ["unicode/utf8.first", "unicode/utf8.acceptRanges", "loop.example/g00819/impl.widthRanges"], apart := false, laid := [("unicode/utf8.acceptRanges", laid_unicode_utf8_acceptRanges), ("loop.example/g00819/impl.widthRanges", laid_loop_example_g00819_impl_widthRanges), ("unicode/utf8.first", laid_unicode_utf8_first)] }
def FnLayoutSaid : Prop := fnLayoutRow.holds Tryd.pinned (OpenSpec.ofChange fnLayoutSpec)

/-- ITS FALSE NEIGHBOUR: 'it returns false'. Refute it at one input. -/
def fnLayoutWrong : ChangeSpec := { name := "fnLayout", vars := ["loop.example/g00819/impl.widthRanges"], fn := fun _ => fun
  | [d, g1] => { results := [.lit (.bool false)], args := [d], vars := [g1] }
  | _ => none }
def FnLayoutWrongFalsely : Prop := fnLayoutRow.holds Tryd.pinned (OpenSpec.ofChange fnLayoutWrong)

/-- 'laws.FnClosed': WHATEVER THE INPUT: true; the input reads as it did. -/
def fnClosedSpec : ChangeSpec := { name := "fnClosed", vars := ["loop.example/g00819/impl.widthRanges"], fn := fun _ => fun
  | [d, g1] => { results := [.lit (.bool true)], args := [d], vars := [g1] }
  | _ => none }
def fnClosedRow : OpenClaim := { program := "ytjdbkpckhgncbaadoor", sum := "d1b690039a82ffa3b9b91d309361b2249612bf186cfdaa995f67995eaee3741c", func := "loop.example/g00819/laws.FnClosed", spec := "fnClosed", inPlace := ["internal/bytealg.IndexByteString", "internal/abi.NoEscape", "internal/bytealg.MakeNoZero"], unfollowed := true, recurses := true, named := ["unicode/utf8.first", "unicode/utf8.acceptRanges", "loop.example/g00819/impl.widthRanges"], apart := false, laid := [("unicode/utf8.acceptRanges", laid_unicode_utf8_acceptRanges), ("loop.example/g00819/impl.widthRanges", laid_loop_example_g00819_impl_widthRanges), ("unicode/utf8.first", laid_unicode_utf8_first)] }
def FnClosedSaid : Prop := fnClosedRow.holds Tryd.pinned (OpenSpec.ofChange fnClosedSpec)

/-- ITS FALSE NEIGHBOUR: 'it returns false'. Refute it at one input. -/
def fnClosedWrong : ChangeSpec := { name := "fnClosed", vars := ["loop.example/g00819/impl.widthRanges"], fn := fun _ => fun
  | [d, g1] => { results := [.lit (.bool false)], args := [d], vars := [g1] }
  | _ => none }
def FnClosedWrongFalsely : Prop := fnClosedRow.holds Tryd.pinned (OpenSpec.ofChange fnClosedWrong)

/-- 'laws.FnExactIsAligned': WHATEVER THE INPUT: true; the input reads as it did. -/
def fnExactIsAlignedSpec : ChangeSpec := { name := "fnExactIsAligned", vars := ["loop.example/g00819/impl.widthRanges"], fn := fun _ => fun
  | [d1, d2, g1] => { results := [.lit (.bool true)], args := [d1, d2], vars := [g1] }
  | _ => none }
def fnExactIsAlignedRow : OpenClaim := { program := "ytjdbkpckhgncbaadoor", sum := "d1b690039a82ffa3b9b91d309361b2249612bf186cfdaa995f67995eaee3741c", func := "loop.example/g00819/laws.FnExactIsAligned", spec := "fnExactIsAligned", inPlace := ["internal/bytealg.IndexByteString"], unfollowed := true, recurses := true, named := ["unicode/utf8.first", "unicode/utf8.acceptRanges", "loop.example/g00819/impl.widthRanges"], apart := false, laid := [("unicode/utf8.acceptRanges", laid_unicode_utf8_acceptRanges), ("loop.example/g00819/impl.widthRanges", laid_loop_example_g00819_impl_widthRanges), ("unicode/utf8.first", laid_unicode_utf8_first)] }
def FnExactIsAlignedSaid : Prop := fnExactIsAlignedRow.holds Tryd.pinned (OpenSpec.ofChange fnExactIsAlignedSpec)

/-- ITS FALSE NEIGHBOUR: 'it returns false'. Refute it at one input. -/
def fnExactIsAlignedWrong : ChangeSpec := { name := "fnExactIsAligned", vars := ["loop.example/g00819/impl.widthRanges"], fn := fun _ => fun
  | [d1, d2, g1] => { results := [.lit (.bool false)], args := [d1, d2], vars := [g1] }
  | _ => none }
def FnExactIsAlignedWrongFalsely : Prop := fnExactIsAlignedRow.holds Tryd.pinned (OpenSpec.ofChange fnExactIsAlignedWrong)

/- THE SECOND FORM. 'bulk': how many values and letters a reading holds, each counted each time it is reached (what is shared counts as often as it is met; a slice's spare places count too). A statement '..UptoSaid' is the law's where the arguments, and the package variables that the reading takes, are together of bulk at most 1048576: NARROWER than '..Said'. Prove '..Said' where nothing that the law and all that it calls make is longer than what came in: it says more and counts as full. Else prove '..UptoSaid'. A law counts once. -/
mutual
def uptoBulk {H : Type} : DataW H → Nat
  | .lit (.string bytes) => bytes.length + 1
  | .lit _ => 1
  | .nil => 1
  | .ptr d => uptoBulk d + 1
  | .slice elems spare => uptoBulkAll elems + uptoBulkAll spare + 1
  | .agg parts => uptoBulkAll parts + 1
  | .iface _ d => uptoBulk d + 1
  | .map entries => uptoBulkEntries entries + 1
  | .held _ => 1
def uptoBulkAll {H : Type} : List (DataW H) → Nat
  | [] => 0
  | d :: r => uptoBulk d + uptoBulkAll r
def uptoBulkEntries {H : Type} : List (Lit × DataW H) → Nat
  | [] => 0
  | x :: r => uptoBulkEntry x + uptoBulkEntries r
def uptoBulkEntry {H : Type} : Lit × DataW H → Nat
  | (.string bytes, d) => bytes.length + uptoBulk d + 1
  | (_, d) => uptoBulk d + 1
 end
def uptoSmall : (H : Type) → List (DataW H) → Bool := fun _ ds => decide (uptoBulkAll ds ≤ 1048576)
def OpenSpec.upto (s : _root_.Go.ChangeSpec) : _root_.Go.OpenSpec := { _root_.Go.OpenSpec.ofChange s with cond := some uptoSmall }

/-- 'laws.FnConfigs', WHERE WHAT IT READS IS OF BULK AT MOST 1048576: true; the input reads as it did. -/
def fnConfigsUptoRow : OpenClaim := { program := "ytjdbkpckhgncbaadoor", sum := "d1b690039a82ffa3b9b91d309361b2249612bf186cfdaa995f67995eaee3741c", func := "loop.example/g00819/laws.FnConfigs", spec := "fnConfigs", inPlace := ["internal/abi.NoEscape", "internal/bytealg.MakeNoZero", "internal/bytealg.IndexByteString", "internal/bytealg.IndexString"], named := ["internal/strconv.uint64pow10", "math/bits.deBruijn32tab", "math/bits.deBruijn64tab", "strconv.ErrSyntax", "strconv.ErrRange", "internal/bytealg.MaxLen"], apart := false, laid := [("math/bits.deBruijn32tab", laid_math_bits_deBruijn32tab), ("math/bits.deBruijn64tab", laid_math_bits_deBruijn64tab), ("internal/strconv.uint64pow10", laid_internal_strconv_uint64pow10), ("strconv.ErrRange", laid_strconv_ErrRange), ("strconv.ErrSyntax", laid_strconv_ErrSyntax)], narrowed := true }
def FnConfigsUptoSaid : Prop := fnConfigsUptoRow.holds Tryd.pinned (OpenSpec.upto fnConfigsSpec)

/-- 'laws.FnAligned', WHERE WHAT IT READS IS OF BULK AT MOST 1048576: true; the input reads as it did. -/
def fnAlignedUptoRow : OpenClaim := { program := "ytjdbkpckhgncbaadoor", sum := "d1b690039a82ffa3b9b91d309361b2249612bf186cfdaa995f67995eaee3741c", func := "loop.example/g00819/laws.FnAligned", spec := "fnAligned", inPlace := ["internal/bytealg.IndexByteString"], unfollowed := true, recurses := true, named := ["unicode/utf8.first", "unicode/utf8.acceptRanges", "loop.example/g00819/impl.widthRanges"], apart := false, laid := [("unicode/utf8.acceptRanges", laid_unicode_utf8_acceptRanges), ("loop.example/g00819/impl.widthRanges", laid_loop_example_g00819_impl_widthRanges), ("unicode/utf8.first", laid_unicode_utf8_first)], narrowed := true }
def FnAlignedUptoSaid : Prop := fnAlignedUptoRow.holds Tryd.pinned (OpenSpec.upto fnAlignedSpec)

/-- 'laws.FnLayout', WHERE WHAT IT READS IS OF BULK AT MOST 1048576: true; the input reads as it did. -/
def fnLayoutUptoRow : OpenClaim := { program := "ytjdbkpckhgncbaadoor", sum := "d1b690039a82ffa3b9b91d309361b2249612bf186cfdaa995f67995eaee3741c", func := "loop.example/g00819/laws.FnLayout", spec := "fnLayout", inPlace := ["internal/bytealg.IndexByteString", "internal/abi.NoEscape", "internal/bytealg.MakeNoZero"], unfollowed := true, recurses := true, named := ["unicode/utf8.first", "unicode/utf8.acceptRanges", "loop.example/g00819/impl.widthRanges"], apart := false, laid := [("unicode/utf8.acceptRanges", laid_unicode_utf8_acceptRanges), ("loop.example/g00819/impl.widthRanges", laid_loop_example_g00819_impl_widthRanges), ("unicode/utf8.first", laid_unicode_utf8_first)], narrowed := true }
def FnLayoutUptoSaid : Prop := fnLayoutUptoRow.holds Tryd.pinned (OpenSpec.upto fnLayoutSpec)

/-- 'laws.FnClosed', WHERE WHAT IT READS IS OF BULK AT MOST 1048576: true; the input reads as it did. -/
def fnClosedUptoRow : OpenClaim := { program := "ytjdbkpckhgncbaadoor", sum := "d1b690039a82ffa3b9b91d309361b2249612bf186cfdaa995f67995eaee3741c", func := "loop.example/g00819/laws.FnClosed", spec := "fnClosed", inPlace := ["internal/bytealg.IndexByteString", "internal/abi.NoEscape", "internal/bytealg.MakeNoZero"], unfollowed := true, recurses := true, named := ["unicode/utf8.first", "unicode/utf8.acceptRanges", "loop.example/g00819/impl.widthRanges"], apart := false, laid := [("unicode/utf8.acceptRanges", laid_unicode_utf8_acceptRanges), ("loop.example/g00819/impl.widthRanges", laid_loop_example_g00819_impl_widthRanges), ("unicode/utf8.first", laid_unicode_utf8_first)], narrowed := true }
def FnClosedUptoSaid : Prop := fnClosedUptoRow.holds Tryd.pinned (OpenSpec.upto fnClosedSpec)

/-- 'laws.FnExactIsAligned', WHERE WHAT IT READS IS OF BULK AT MOST 1048576: true; the input reads as it did. -/
def fnExactIsAlignedUptoRow : OpenClaim := { program := "ytjdbkpckhgncbaadoor", sum := "d1b690039a82ffa3b9b91d309361b2249612bf186cfdaa995f67995eaee3741c", func := "loop.example/g00819/laws.FnExactIsAligned", spec := "fnExactIsAligned", inPlace := ["internal/bytealg.IndexByteString"], unfollowed := true, recurses := true, named := ["unicode/utf8.first", "unicode/utf8.acceptRanges", "loop.example/g00819/impl.widthRanges"], apart := false, laid := [("unicode/utf8.acceptRanges", laid_unicode_utf8_acceptRanges), ("loop.example/g00819/impl.widthRanges", laid_loop_example_g00819_impl_widthRanges), ("unicode/utf8.first", laid_unicode_utf8_first)], narrowed := true }
def FnExactIsAlignedUptoSaid : Prop := fnExactIsAlignedUptoRow.holds Tryd.pinned (OpenSpec.upto fnExactIsAlignedSpec)

end Rows
end Go.Proofs.YtjdbkpckhgncbaaDoor
