/-
  No cell of these rows narrows 'for every input' (looked for: loops, veiled, ifaces, maps, wideKeys, modest, calm, conditions, laid).
  DERIVED. THE GIVEN ROWS OF THIS SEAT. 3 by the template 'for every input the law returns true; each argument reads behind the call as it read before'; 0 by the template 'total and deterministic' (their statements: YtjdbkpckhgncbaaTotals.lean).
  GIVEN WITH THE SEED: the statements are not yours to turn. If you find one false, say at which input.
  Laid BY PROGRAM, IN A SANDBOX (cutbox-rows.mjs): the forced cells as the released guide's own fill.sh prints them over the translation d6d59e69dbdb553a… (all of the seat's roots in one cut). By AI agents, Wed Nov 11 2026. No macro, syntax, notation, axiom, sorry.
-/
import Derived.Test.YtjdbkpckhgncbaaChecked
import GoSem.Claim
import GoSem.ClaimJoined
import GoSem.ClaimMapViews
import Derived.JoinedTies
import Derived.KernelRfl
namespace Go.Proofs.Ytjdbkpckhgncbaa
/- THE CELL 'sum', in the pinned program and in every row, IS THE sha256 OF THE DUMP (.gsa) THAT YtjdbkpckhgncbaaProg.lean LOADS. Nothing in Lean hashes anything: it is a label: what it is worth is what the hold of that sum in a sandbox is worth. -/
noncomputable def Try.pinned : Pinned := { name := "ytjdbkpckhgncbaa", sum := "d6d59e69dbdb553a6c1a85024a03fd336b7c2ff9457c90dd2d4b4f891868f581", checked := Try.checked }
namespace Rows
def none {H : Type} : Left H := { results := [], args := [] }

/-- 'laws.FnExactFilling': WHATEVER THE INPUT: true; the input reads as it did. -/
def fnExactFillingSpec : ChangeSpec := { name := "fnExactFilling", fn := fun _ => fun
  | [d1, d2] => { results := [.lit (.bool true)], args := [d1, d2] }
  | _ => none }
def fnExactFillingRow : OpenClaim := { program := "ytjdbkpckhgncbaa", sum := "d6d59e69dbdb553a6c1a85024a03fd336b7c2ff9457c90dd2d4b4f891868f581", func := "loop.example/g00819/laws.FnExactFilling", spec := "fnExactFilling", inPlace := ["internal/abi.NoEscape", "internal/bytealg.MakeNoZero"], apart := false }
def FnExactFillingSaid : Prop := fnExactFillingRow.holds Try.pinned (OpenSpec.ofChange fnExactFillingSpec)

/-- ITS FALSE NEIGHBOUR: 'it returns false'. Refute it at one input. -/
def fnExactFillingWrong : ChangeSpec := { name := "fnExactFilling", fn := fun _ => fun
  | [d1, d2] => { results := [.lit (.bool false)], args := [d1, d2] }
  | _ => none }
def FnExactFillingWrongFalsely : Prop := fnExactFillingRow.holds Try.pinned (OpenSpec.ofChange fnExactFillingWrong)

/-- 'laws.FnExactLayLine': WHATEVER THE INPUT: true; the input reads as it did. -/
def fnExactLayLineSpec : ChangeSpec := { name := "fnExactLayLine", fn := fun _ => fun
  | [d1, d2, d3] => { results := [.lit (.bool true)], args := [d1, d2, d3] }
  | _ => none }
def fnExactLayLineRow : OpenClaim := { program := "ytjdbkpckhgncbaa", sum := "d6d59e69dbdb553a6c1a85024a03fd336b7c2ff9457c90dd2d4b4f891868f581", func := "loop.example/g00819/laws.FnExactLayLine", spec := "fnExactLayLine", inPlace := ["internal/abi.NoEscape", "internal/bytealg.MakeNoZero"], apart := false }
def FnExactLayLineSaid : Prop := fnExactLayLineRow.holds Try.pinned (OpenSpec.ofChange fnExactLayLineSpec)

/-- ITS FALSE NEIGHBOUR: 'it returns false'. Refute it at one input. -/
def fnExactLayLineWrong : ChangeSpec := { name := "fnExactLayLine", fn := fun _ => fun
  | [d1, d2, d3] => { results := [.lit (.bool false)], args := [d1, d2, d3] }
  | _ => none }
def FnExactLayLineWrongFalsely : Prop := fnExactLayLineRow.holds Try.pinned (OpenSpec.ofChange fnExactLayLineWrong)

/-- 'laws.FnExactLayLines': WHATEVER THE INPUT: true; the input reads as it did. -/
def fnExactLayLinesSpec : ChangeSpec := { name := "fnExactLayLines", fn := fun _ => fun
  | [d1, d2] => { results := [.lit (.bool true)], args := [d1, d2] }
  | _ => none }
def fnExactLayLinesRow : OpenClaim := { program := "ytjdbkpckhgncbaa", sum := "d6d59e69dbdb553a6c1a85024a03fd336b7c2ff9457c90dd2d4b4f891868f581", func := "loop.example/g00819/laws.FnExactLayLines", spec := "fnExactLayLines", inPlace := ["internal/abi.NoEscape", "internal/bytealg.MakeNoZero"], apart := false }
def FnExactLayLinesSaid : Prop := fnExactLayLinesRow.holds Try.pinned (OpenSpec.ofChange fnExactLayLinesSpec)

/-- ITS FALSE NEIGHBOUR: 'it returns false'. Refute it at one input. -/
def fnExactLayLinesWrong : ChangeSpec := { name := "fnExactLayLines", fn := fun _ => fun
  | [d1, d2] => { results := [.lit (.bool false)], args := [d1, d2] }
  | _ => none }
def FnExactLayLinesWrongFalsely : Prop := fnExactLayLinesRow.holds Try.pinned (OpenSpec.ofChange fnExactLayLinesWrong)

/- THE SECOND FORM. 'bulk': how many values and letters a reading holds, each counted each time it is reached (what is shared counts as often as it is met; a slice's spare places count too). A statement '..UptoSaid' is the law's where the arguments, and the package variables that the reading takes, are together of bulk at most 1048576: NARROWER than '..Said'. Prove '..Said' where nothing that the law and all that it calls make is longer than what came in: it says more and counts as full. Else prove '..UptoSaid'. A law counts once. -/
mutual
def uptoBulk {H : Type} : DataW H → Nat
  | .lit (.string bytes) => bytes.length + 1
  | .lit _ => 1
  | .nil => 1
  | .ptr d => uptoBulk d + 1
  | .slice elems spare => uptoBulkAll elems + uptoBulkAll spare + 1
  | .agg parts => uptoBulkAll parts + 1
  | .iface _ d => uptoBulk d + 1
  | .map entries => uptoBulkEntries entries + 1
  | .held _ => 1
def uptoBulkAll {H : Type} : List (DataW H) → Nat
  | [] => 0
  | d :: r => uptoBulk d + uptoBulkAll r
def uptoBulkEntries {H : Type} : List (Lit × DataW H) → Nat
  | [] => 0
  | x :: r => uptoBulkEntry x + uptoBulkEntries r
def uptoBulkEntry {H : Type} : Lit × DataW H → Nat
  | (.string bytes, d) => bytes.length + uptoBulk d + 1
  | (_, d) => uptoBulk d + 1
 end
def uptoSmall : (H : Type) → List (DataW H) → Bool := fun _ ds => decide (uptoBulkAll ds ≤ 1048576)
def OpenSpec.upto (s : _root_.Go.ChangeSpec) : _root_.Go.OpenSpec := { _root_.Go.OpenSpec.ofChange s with cond := some uptoSmall }

/-- 'laws.FnExactFilling', WHERE WHAT IT READS IS OF BULK AT MOST 1048576: true; the input reads as it did. -/
def fnExactFillingUptoRow : OpenClaim := { program := "ytjdbkpckhgncbaa", sum := "d6d59e69dbdb553a6c1a85024a03fd336b7c2ff9457c90dd2d4b4f891868f581", func := "loop.example/g00819/laws.FnExactFilling", spec := "fnExactFilling", inPlace := ["internal/abi.NoEscape", "internal/bytealg.MakeNoZero"], apart := false, narrowed := true }
def FnExactFillingUptoSaid : Prop := fnExactFillingUptoRow.holds Try.pinned (OpenSpec.upto fnExactFillingSpec)

/-- 'laws.FnExactLayLine', WHERE WHAT IT READS IS OF BULK AT MOST 1048576: true; the input reads as it did. -/
def fnExactLayLineUptoRow : OpenClaim := { program := "ytjdbkpckhgncbaa", sum := "d6d59e69dbdb553a6c1a85024a03fd336b7c2ff9457c90dd2d4b4f891868f581", func := "loop.example/g00819/laws.FnExactLayLine", spec := "fnExactLayLine", inPlace := ["internal/abi.NoEscape", "internal/bytealg.MakeNoZero"], apart := false, narrowed := true }
def FnExactLayLineUptoSaid : Prop := fnExactLayLineUptoRow.holds Try.pinned (OpenSpec.upto fnExactLayLineSpec)

/-- 'laws.FnExactLayLines', WHERE WHAT IT READS IS OF BULK AT MOST 1048576: true; the input reads as it did. -/
def fnExactLayLinesUptoRow : OpenClaim := { program := "ytjdbkpckhgncbaa", sum := "d6d59e69dbdb553a6c1a85024a03fd336b7c2ff9457c90dd2d4b4f891868f581", func := "loop.example/g00819/laws.FnExactLayLines", spec := "fnExactLayLines", inPlace := ["internal/abi.NoEscape", "internal/bytealg.MakeNoZero"], apart := false, narrowed := true }
def FnExactLayLinesUptoSaid : Prop := fnExactLayLinesUptoRow.holds Try.pinned (OpenSpec.upto fnExactLayLinesSpec)

end Rows
end Go.Proofs.Ytjdbkpckhgncbaa
