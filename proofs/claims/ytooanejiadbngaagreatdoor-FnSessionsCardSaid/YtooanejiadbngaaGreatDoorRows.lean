/-
  NARROWER THAN 'FOR EVERY INPUT', by the rows' own cells (each row's printed sentence says how): FnSink: laid · FnSessions: laid.
  DERIVED. THE GIVEN ROWS OF THIS SEAT. 2 by the template 'for every input the law returns true; each argument reads behind the call as it read before'; 0 by the template 'total and deterministic' (their statements: YtooanejiadbngaaGreatDoorTotals.lean).
  GIVEN WITH THE SEED: the statements are not yours to turn. If you find one false, say at which input.
  Laid BY PROGRAM, IN A SANDBOX (cutbox-rows.mjs): the forced cells as the released guide's own fill.sh prints them over the translation 9705a3a5dc24538b… (all of the seat's roots in one cut). By AI agents, Wed Nov 11 2026. No macro, syntax, notation, axiom, sorry.
-/
import Derived.Test.YtooanejiadbngaaGreatDoorChecked
import GoSem.PinnedTables
import GoSem.Claim
import GoSem.ClaimJoined
import GoSem.ClaimMapViews
import Derived.JoinedTies
import Derived.KernelRfl
namespace Go.Proofs.YtooanejiadbngaaGreatDoor
/- THE CELL 'sum', in the pinned program and in every row, IS THE sha256 OF THE DUMP (.gsa) THAT YtooanejiadbngaaGreatDoorProg.lean LOADS. Nothing in Lean hashes anything: it is a label: what it is worth is what the hold of that sum in a sandbox is worth. -/
noncomputable def Tryz.pinned : Pinned := { name := "ytooanejiadbngaagreatdoor", sum := "9705a3a5dc24538b740ebba2b318bc4d20845cc9ca49ee7988a44f966148bb9e", checked := Tryz.checked }
namespace Rows
def none {H : Type} : Left H := { results := [], args := [] }

/- WHAT THE LISTED PACKAGE-LEVEL VARIABLES READ AS WHEN THE CALL BEGINS. Each datum BY PROGRAM (the guide's laid-datum.mjs) off the statement by which the dump's own 'gosem.cut.vars' lays the variable. In a bare row this is a premise. The card (YtooanejiadbngaaGreatDoorCards.lean) ties it to the program's text. -/
def laid_unicode_utf8_acceptRanges {H : Type} : DataW H := .agg [.agg [.lit (.int .u8 128), .lit (.int .u8 191)], .agg [.lit (.int .u8 160), .lit (.int .u8 191)], .agg [.lit (.int .u8 128), .lit (.int .u8 159)], .agg [.lit (.int .u8 144), .lit (.int .u8 191)], .agg [.lit (.int .u8 128), .lit (.int .u8 143)], .agg [.lit (.int .u8 0), .lit (.int .u8 0)], .agg [.lit (.int .u8 0), .lit (.int .u8 0)], .agg [.lit (.int .u8 0), .lit (.int .u8 0)], .agg [.lit (.int .u8 0), .lit (.int .u8 0)], .agg [.lit (.int .u8 0), .lit (.int .u8 0)], .agg [.lit (.int .u8 0), .lit (.int .u8 0)], .agg [.lit (.int .u8 0), .lit (.int .u8 0)], .agg [.lit (.int .u8 0), .lit (.int .u8 0)], .agg [.lit (.int .u8 0), .lit (.int .u8 0)], .agg [.lit (.int .u8 0), .lit (.int .u8 0)], .agg [.lit (.int .u8 0), .lit (.int .u8 0)]]
def laid_errors_errorType {H : Type} : DataW H := .iface "internal/reflectlite.rtype" (.agg [.ptr (.lit (.string [101, 114, 114, 111, 114]))])
def laid_loop_example_g00819_impl_widthRanges {H : Type} : DataW H := .slice [.agg [.agg [.lit (.int .i64 0), .lit (.int .i64 31)], .lit (.int .i64 0)], .agg [.agg [.lit (.int .i64 127), .lit (.int .i64 159)], .lit (.int .i64 0)], .agg [.agg [.lit (.int .i64 768), .lit (.int .i64 879)], .lit (.int .i64 0)], .agg [.agg [.lit (.int .i64 1155), .lit (.int .i64 1161)], .lit (.int .i64 0)], .agg [.agg [.lit (.int .i64 8203), .lit (.int .i64 8207)], .lit (.int .i64 0)], .agg [.agg [.lit (.int .i64 8400), .lit (.int .i64 8447)], .lit (.int .i64 0)], .agg [.agg [.lit (.int .i64 65024), .lit (.int .i64 65039)], .lit (.int .i64 0)], .agg [.agg [.lit (.int .i64 65279), .lit (.int .i64 65279)], .lit (.int .i64 0)], .agg [.agg [.lit (.int .i64 4352), .lit (.int .i64 4447)], .lit (.int .i64 2)], .agg [.agg [.lit (.int .i64 11904), .lit (.int .i64 42191)], .lit (.int .i64 2)], .agg [.agg [.lit (.int .i64 44032), .lit (.int .i64 55203)], .lit (.int .i64 2)], .agg [.agg [.lit (.int .i64 63744), .lit (.int .i64 64255)], .lit (.int .i64 2)], .agg [.agg [.lit (.int .i64 65280), .lit (.int .i64 65376)], .lit (.int .i64 2)], .agg [.agg [.lit (.int .i64 65504), .lit (.int .i64 65510)], .lit (.int .i64 2)], .agg [.agg [.lit (.int .i64 127744), .lit (.int .i64 128591)], .lit (.int .i64 2)], .agg [.agg [.lit (.int .i64 129280), .lit (.int .i64 129535)], .lit (.int .i64 2)], .agg [.agg [.lit (.int .i64 131072), .lit (.int .i64 262141)], .lit (.int .i64 2)]] []
/-- One of Go's own tables, pinned by name: the form's constant. -/
def laid_unicode_utf8_first : DataW Unit := Go.Pinned.utf8First

/-- 'laws.FnSink': WHATEVER THE INPUT: true; the input reads as it did. -/
def fnSinkSpec : ChangeSpec := { name := "fnSink", vars := ["loop.example/g00819/impl.widthRanges"], fn := fun _ => fun
  | [d, g1] => { results := [.lit (.bool true)], args := [d], vars := [g1] }
  | _ => none }
def fnSinkRow : OpenClaim := { program := "ytooanejiadbngaagreatdoor", sum := "9705a3a5dc24538b740ebba2b318bc4d20845cc9ca49ee7988a44f966148bb9e", func := "loop.example/g00819/laws.FnSink", spec := "fnSink", inPlace := ["internal/reflectlite.ValueOf", "(internal/reflectlite.Value).Type", "(internal/reflectlite.Value).IsNil", "internal/reflectlite.TypeOf", "(internal/reflectlite.Value).Elem", "(internal/reflectlite.Value).Set", "internal/bytealg.IndexByteString", "internal/abi.NoEscape", "internal/bytealg.MakeNoZero"], unfollowed := true, recurses := true, named := ["errors.errorType", "unicode/utf8.first", "unicode/utf8.acceptRanges", "loop.example/g00819/impl.widthRanges"], apart := false, laid := [("unicode/utf8.acceptRanges", laid_unicode_utf8_acceptRanges), ("errors.errorType", laid_errors_errorType), ("loop.example/g00819/impl.widthRanges", laid_loop_example_g00819_impl_widthRanges), ("unicode/utf8.first", laid_unicode_utf8_first)] }
def FnSinkSaid : Prop := fnSinkRow.holds Tryz.pinned (OpenSpec.ofChange fnSinkSpec)

/-- ITS FALSE NEIGHBOUR: 'it returns false'. Refute it at one input. -/
def fnSinkWrong : ChangeSpec := { name := "fnSink", vars := ["loop.example/g00819/impl.widthRanges"], fn := fun _ => fun
  | [d, g1] => { results := [.lit (.bool false)], args := [d], vars := [g1] }
  | _ => none }
def FnSinkWrongFalsely : Prop := fnSinkRow.holds Tryz.pinned (OpenSpec.ofChange fnSinkWrong)

/-- 'laws.FnSessions': WHATEVER THE INPUT: true; the input reads as it did. -/
def fnSessionsSpec : ChangeSpec := { name := "fnSessions", vars := ["loop.example/g00819/impl.widthRanges"], fn := fun _ => fun
  | [d, g1] => { results := [.lit (.bool true)], args := [d], vars := [g1] }
  | _ => none }
def fnSessionsRow : OpenClaim := { program := "ytooanejiadbngaagreatdoor", sum := "9705a3a5dc24538b740ebba2b318bc4d20845cc9ca49ee7988a44f966148bb9e", func := "loop.example/g00819/laws.FnSessions", spec := "fnSessions", inPlace := ["internal/reflectlite.ValueOf", "(internal/reflectlite.Value).Type", "(internal/reflectlite.Value).IsNil", "internal/reflectlite.TypeOf", "(internal/reflectlite.Value).Elem", "(internal/reflectlite.Value).Set", "internal/bytealg.IndexByteString", "internal/abi.NoEscape", "internal/bytealg.MakeNoZero"], unfollowed := true, recurses := true, named := ["errors.errorType", "unicode/utf8.first", "unicode/utf8.acceptRanges", "loop.example/g00819/impl.widthRanges"], apart := false, laid := [("unicode/utf8.acceptRanges", laid_unicode_utf8_acceptRanges), ("errors.errorType", laid_errors_errorType), ("loop.example/g00819/impl.widthRanges", laid_loop_example_g00819_impl_widthRanges), ("unicode/utf8.first", laid_unicode_utf8_first)] }
def FnSessionsSaid : Prop := fnSessionsRow.holds Tryz.pinned (OpenSpec.ofChange fnSessionsSpec)

/-- ITS FALSE NEIGHBOUR: 'it returns false'. Refute it at one input. -/
def fnSessionsWrong : ChangeSpec := { name := "fnSessions", vars := ["loop.example/g00819/impl.widthRanges"], fn := fun _ => fun
  | [d, g1] => { results := [.lit (.bool false)], args := [d], vars := [g1] }
  | _ => none }
def FnSessionsWrongFalsely : Prop := fnSessionsRow.holds Tryz.pinned (OpenSpec.ofChange fnSessionsWrong)

/- THE SECOND FORM. 'bulk': how many values and letters a reading holds, each counted each time it is reached (what is shared counts as often as it is met; a slice's spare places count too). A statement '..UptoSaid' is the law's where the arguments, and the package variables that the reading takes, are together of bulk at most 1048576: NARROWER than '..Said'. Prove '..Said' where nothing that the law and all that it calls make is longer than what came in: it says more and counts as full. Else prove '..UptoSaid'. A law counts once. -/
mutual
def uptoBulk {H : Type} : DataW H → Nat
  | .lit (.string bytes) => bytes.length + 1
  | .lit _ => 1
  | .nil => 1
  | .ptr d => uptoBulk d + 1
  | .slice elems spare => uptoBulkAll elems + uptoBulkAll spare + 1
  | .agg parts => uptoBulkAll parts + 1
  | .iface _ d => uptoBulk d + 1
  | .map entries => uptoBulkEntries entries + 1
  | .held _ => 1
def uptoBulkAll {H : Type} : List (DataW H) → Nat
  | [] => 0
  | d :: r => uptoBulk d + uptoBulkAll r
def uptoBulkEntries {H : Type} : List (Lit × DataW H) → Nat
  | [] => 0
  | x :: r => uptoBulkEntry x + uptoBulkEntries r
def uptoBulkEntry {H : Type} : Lit × DataW H → Nat
  | (.string bytes, d) => bytes.length + uptoBulk d + 1
  | (_, d) => uptoBulk d + 1
 end
def uptoSmall : (H : Type) → List (DataW H) → Bool := fun _ ds => decide (uptoBulkAll ds ≤ 1048576)
def OpenSpec.upto (s : _root_.Go.ChangeSpec) : _root_.Go.OpenSpec := { _root_.Go.OpenSpec.ofChange s with cond := some uptoSmall }

/-- 'laws.FnSink', WHERE WHAT IT READS IS OF BULK AT MOST 1048576: true; the input reads as it did. -/
def fnSinkUptoRow : OpenClaim := { program := "ytooanejiadbngaagreatdoor", sum := "9705a3a5dc24538b740ebba2b318bc4d20845cc9ca49ee7988a44f966148bb9e", func := "loop.example/g00819/laws.FnSink", spec := "fnSink", inPlace := ["internal/reflectlite.ValueOf", "(internal/reflectlite.Value).Type", "(internal/reflectlite.Value).IsNil", "internal/reflectlite.TypeOf", "(internal/reflectlite.Value).Elem", "(internal/reflectlite.Value).Set", "internal/bytealg.IndexByteString", "internal/abi.NoEscape", "internal/bytealg.MakeNoZero"], unfollowed := true, recurses := true, named := ["errors.errorType", "unicode/utf8.first", "unicode/utf8.acceptRanges", "loop.example/g00819/impl.widthRanges"], apart := false, laid := [("unicode/utf8.acceptRanges", laid_unicode_utf8_acceptRanges), ("errors.errorType", laid_errors_errorType), ("loop.example/g00819/impl.widthRanges", laid_loop_example_g00819_impl_widthRanges), ("unicode/utf8.first", laid_unicode_utf8_first)], narrowed := true }
def FnSinkUptoSaid : Prop := fnSinkUptoRow.holds Tryz.pinned (OpenSpec.upto fnSinkSpec)

/-- 'laws.FnSessions', WHERE WHAT IT READS IS OF BULK AT MOST 1048576: true; the input reads as it did. -/
def fnSessionsUptoRow : OpenClaim := { program := "ytooanejiadbngaagreatdoor", sum := "9705a3a5dc24538b740ebba2b318bc4d20845cc9ca49ee7988a44f966148bb9e", func := "loop.example/g00819/laws.FnSessions", spec := "fnSessions", inPlace := ["internal/reflectlite.ValueOf", "(internal/reflectlite.Value).Type", "(internal/reflectlite.Value).IsNil", "internal/reflectlite.TypeOf", "(internal/reflectlite.Value).Elem", "(internal/reflectlite.Value).Set", "internal/bytealg.IndexByteString", "internal/abi.NoEscape", "internal/bytealg.MakeNoZero"], unfollowed := true, recurses := true, named := ["errors.errorType", "unicode/utf8.first", "unicode/utf8.acceptRanges", "loop.example/g00819/impl.widthRanges"], apart := false, laid := [("unicode/utf8.acceptRanges", laid_unicode_utf8_acceptRanges), ("errors.errorType", laid_errors_errorType), ("loop.example/g00819/impl.widthRanges", laid_loop_example_g00819_impl_widthRanges), ("unicode/utf8.first", laid_unicode_utf8_first)], narrowed := true }
def FnSessionsUptoSaid : Prop := fnSessionsUptoRow.holds Tryz.pinned (OpenSpec.upto fnSessionsSpec)

end Rows
end Go.Proofs.YtooanejiadbngaaGreatDoor
