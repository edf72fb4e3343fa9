/-
  No cell of these rows narrows 'for every input' (looked for: loops, veiled, ifaces, maps, wideKeys, modest, calm, conditions, laid).
  DERIVED. THE GIVEN ROWS OF THIS SEAT. 4 by the template 'for every input the law returns true; each argument reads behind the call as it read before'; 0 by the template 'total and deterministic' (their statements: YtkbjegcmpmhmpaaTotals.lean).
  GIVEN WITH THE SEED: the statements are not yours to turn. If you find one false, say at which input.
  Laid BY PROGRAM, IN A SANDBOX (cutbox-rows.mjs): the forced cells as the released guide's own fill.sh prints them over the translation 825383ea858263e1… (all of the seat's roots in one cut). By AI agents, Wed Nov 11 2026. No macro, syntax, notation, axiom, sorry.
-/
import Derived.Test.YtkbjegcmpmhmpaaChecked
import GoSem.Claim
import GoSem.ClaimJoined
import GoSem.ClaimMapViews
import Derived.JoinedTies
import Derived.KernelRfl
namespace Go.Proofs.Ytkbjegcmpmhmpaa
/- THE CELL 'sum', in the pinned program and in every row, IS THE sha256 OF THE DUMP (.gsa) THAT YtkbjegcmpmhmpaaProg.lean LOADS. Nothing in Lean hashes anything: it is a label: what it is worth is what the hold of that sum in a sandbox is worth. -/
noncomputable def Try.pinned : Pinned := { name := "ytkbjegcmpmhmpaa", sum := "825383ea858263e1fa905148fc5e99296cad88259d9612f667a4313113cb5efd", checked := Try.checked }
namespace Rows
def none {H : Type} : Left H := { results := [], args := [] }

/-- 'laws.FnExactIsConfig': WHATEVER THE INPUT: true; the input reads as it did. -/
def fnExactIsConfigSpec : ChangeSpec := { name := "fnExactIsConfig", fn := fun _ => fun
  | [d] => { results := [.lit (.bool true)], args := [d] }
  | _ => none }
def fnExactIsConfigRow : OpenClaim := { program := "ytkbjegcmpmhmpaa", sum := "825383ea858263e1fa905148fc5e99296cad88259d9612f667a4313113cb5efd", func := "loop.example/g00819/laws.FnExactIsConfig", spec := "fnExactIsConfig", apart := false }
def FnExactIsConfigSaid : Prop := fnExactIsConfigRow.holds Try.pinned (OpenSpec.ofChange fnExactIsConfigSpec)

/-- ITS FALSE NEIGHBOUR: 'it returns false'. Refute it at one input. -/
def fnExactIsConfigWrong : ChangeSpec := { name := "fnExactIsConfig", fn := fun _ => fun
  | [d] => { results := [.lit (.bool false)], args := [d] }
  | _ => none }
def FnExactIsConfigWrongFalsely : Prop := fnExactIsConfigRow.holds Try.pinned (OpenSpec.ofChange fnExactIsConfigWrong)

/-- 'laws.FnExactDefaultConfig': WHATEVER THE INPUT: true; the input reads as it did. -/
def fnExactDefaultConfigSpec : ChangeSpec := { name := "fnExactDefaultConfig", fn := fun _ => fun
  | [] => { results := [.lit (.bool true)], args := [] }
  | _ => none }
def fnExactDefaultConfigRow : OpenClaim := { program := "ytkbjegcmpmhmpaa", sum := "825383ea858263e1fa905148fc5e99296cad88259d9612f667a4313113cb5efd", func := "loop.example/g00819/laws.FnExactDefaultConfig", spec := "fnExactDefaultConfig", apart := false }
def FnExactDefaultConfigSaid : Prop := fnExactDefaultConfigRow.holds Try.pinned (OpenSpec.ofChange fnExactDefaultConfigSpec)

/-- ITS FALSE NEIGHBOUR: 'it returns false'. Refute it at one input. -/
def fnExactDefaultConfigWrong : ChangeSpec := { name := "fnExactDefaultConfig", fn := fun _ => fun
  | [] => { results := [.lit (.bool false)], args := [] }
  | _ => none }
def FnExactDefaultConfigWrongFalsely : Prop := fnExactDefaultConfigRow.holds Try.pinned (OpenSpec.ofChange fnExactDefaultConfigWrong)

/-- 'laws.FnExactRoundWidth': WHATEVER THE INPUT: true; the input reads as it did. -/
def fnExactRoundWidthSpec : ChangeSpec := { name := "fnExactRoundWidth", fn := fun _ => fun
  | [d1, d2] => { results := [.lit (.bool true)], args := [d1, d2] }
  | _ => none }
def fnExactRoundWidthRow : OpenClaim := { program := "ytkbjegcmpmhmpaa", sum := "825383ea858263e1fa905148fc5e99296cad88259d9612f667a4313113cb5efd", func := "loop.example/g00819/laws.FnExactRoundWidth", spec := "fnExactRoundWidth", apart := false }
def FnExactRoundWidthSaid : Prop := fnExactRoundWidthRow.holds Try.pinned (OpenSpec.ofChange fnExactRoundWidthSpec)

/-- ITS FALSE NEIGHBOUR: 'it returns false'. Refute it at one input. -/
def fnExactRoundWidthWrong : ChangeSpec := { name := "fnExactRoundWidth", fn := fun _ => fun
  | [d1, d2] => { results := [.lit (.bool false)], args := [d1, d2] }
  | _ => none }
def FnExactRoundWidthWrongFalsely : Prop := fnExactRoundWidthRow.holds Try.pinned (OpenSpec.ofChange fnExactRoundWidthWrong)

/-- 'laws.FnExactFilling': WHATEVER THE INPUT: true; the input reads as it did. -/
def fnExactFillingSpec : ChangeSpec := { name := "fnExactFilling", fn := fun _ => fun
  | [d1, d2] => { results := [.lit (.bool true)], args := [d1, d2] }
  | _ => none }
def fnExactFillingRow : OpenClaim := { program := "ytkbjegcmpmhmpaa", sum := "825383ea858263e1fa905148fc5e99296cad88259d9612f667a4313113cb5efd", func := "loop.example/g00819/laws.FnExactFilling", spec := "fnExactFilling", inPlace := ["internal/abi.NoEscape", "internal/bytealg.MakeNoZero"], apart := false }
def FnExactFillingSaid : Prop := fnExactFillingRow.holds Try.pinned (OpenSpec.ofChange fnExactFillingSpec)

/-- ITS FALSE NEIGHBOUR: 'it returns false'. Refute it at one input. -/
def fnExactFillingWrong : ChangeSpec := { name := "fnExactFilling", fn := fun _ => fun
  | [d1, d2] => { results := [.lit (.bool false)], args := [d1, d2] }
  | _ => none }
def FnExactFillingWrongFalsely : Prop := fnExactFillingRow.holds Try.pinned (OpenSpec.ofChange fnExactFillingWrong)

/- THE SECOND FORM. 'bulk': how many values and letters a reading holds, each counted each time it is reached (what is shared counts as often as it is met; a slice's spare places count too). A statement '..UptoSaid' is the law's where the arguments, and the package variables that the reading takes, are together of bulk at most 1048576: NARROWER than '..Said'. Prove '..Said' where nothing that the law and all that it calls make is longer than what came in: it says more and counts as full. Else prove '..UptoSaid'. A law counts once. -/
mutual
def uptoBulk {H : Type} : DataW H → Nat
  | .lit (.string bytes) => bytes.length + 1
  | .lit _ => 1
  | .nil => 1
  | .ptr d => uptoBulk d + 1
  | .slice elems spare => uptoBulkAll elems + uptoBulkAll spare + 1
  | .agg parts => uptoBulkAll parts + 1
  | .iface _ d => uptoBulk d + 1
  | .map entries => uptoBulkEntries entries + 1
  | .held _ => 1
def uptoBulkAll {H : Type} : List (DataW H) → Nat
  | [] => 0
  | d :: r => uptoBulk d + uptoBulkAll r
def uptoBulkEntries {H : Type} : List (Lit × DataW H) → Nat
  | [] => 0
  | x :: r => uptoBulkEntry x + uptoBulkEntries r
def uptoBulkEntry {H : Type} : Lit × DataW H → Nat
  | (.string bytes, d) => bytes.length + uptoBulk d + 1
  | (_, d) => uptoBulk d + 1
 end
def uptoSmall : (H : Type) → List (DataW H) → Bool := fun _ ds => decide (uptoBulkAll ds ≤ 1048576)
def OpenSpec.upto (s : _root_.Go.ChangeSpec) : _root_.Go.OpenSpec := { _root_.Go.OpenSpec.ofChange s with cond := some uptoSmall }

/-- 'laws.FnExactIsConfig', WHERE WHAT IT READS IS OF BULK AT MOST 1048576: true; the input reads as it did. -/
def fnExactIsConfigUptoRow : OpenClaim := { program := "ytkbjegcmpmhmpaa", sum := "825383ea858263e1fa905148fc5e99296cad88259d9612f667a4313113cb5efd", func := "loop.example/g00819/laws.FnExactIsConfig", spec := "fnExactIsConfig", apart := false, narrowed := true }
def FnExactIsConfigUptoSaid : Prop := fnExactIsConfigUptoRow.holds Try.pinned (OpenSpec.upto fnExactIsConfigSpec)

/-- 'laws.FnExactDefaultConfig', WHERE WHAT IT READS IS OF BULK AT MOST 1048576: true; the input reads as it did. -/
def fnExactDefaultConfigUptoRow : OpenClaim := { program := "ytkbjegcmpmhmpaa", sum := "825383ea858263e1fa905148fc5e99296cad88259d9612f667a4313113cb5efd", func := "loop.example/g00819/laws.FnExactDefaultConfig", spec := "fnExactDefaultConfig", apart := false, narrowed := true }
def FnExactDefaultConfigUptoSaid : Prop := fnExactDefaultConfigUptoRow.holds Try.pinned (OpenSpec.upto fnExactDefaultConfigSpec)

/-- 'laws.FnExactRoundWidth', WHERE WHAT IT READS IS OF BULK AT MOST 1048576: true; the input reads as it did. -/
def fnExactRoundWidthUptoRow : OpenClaim := { program := "ytkbjegcmpmhmpaa", sum := "825383ea858263e1fa905148fc5e99296cad88259d9612f667a4313113cb5efd", func := "loop.example/g00819/laws.FnExactRoundWidth", spec := "fnExactRoundWidth", apart := false, narrowed := true }
def FnExactRoundWidthUptoSaid : Prop := fnExactRoundWidthUptoRow.holds Try.pinned (OpenSpec.upto fnExactRoundWidthSpec)

/-- 'laws.FnExactFilling', WHERE WHAT IT READS IS OF BULK AT MOST 1048576: true; the input reads as it did. -/
def fnExactFillingUptoRow : OpenClaim := { program := "ytkbjegcmpmhmpaa", sum := "825383ea858263e1fa905148fc5e99296cad88259d9612f667a4313113cb5efd", func := "loop.example/g00819/laws.FnExactFilling", spec := "fnExactFilling", inPlace := ["internal/abi.NoEscape", "internal/bytealg.MakeNoZero"], apart := false, narrowed := true }
def FnExactFillingUptoSaid : Prop := fnExactFillingUptoRow.holds Try.pinned (OpenSpec.upto fnExactFillingSpec)

end Rows
end Go.Proofs.Ytkbjegcmpmhmpaa
