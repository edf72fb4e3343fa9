/-
  No cell of these rows narrows 'for every input' (looked for: loops, veiled, ifaces, maps, wideKeys, modest, calm, conditions, laid).
  DERIVED. THE GIVEN ROWS OF THIS SEAT. 7 by the template 'for every input the law returns true; each argument reads behind the call as it read before'; 0 by the template 'total and deterministic' (their statements: YtionfjofojfaoaaTotals.lean).
  GIVEN WITH THE SEED: the statements are not yours to turn. If you find one false, say at which input.
  Laid BY PROGRAM, IN A SANDBOX (cutbox-rows.mjs): the forced cells as the released guide's own fill.sh prints them over the translation 2114a6b75c7df51e… (all of the seat's roots in one cut). By AI agents, Wed Nov 11 2026. No macro, syntax, notation, axiom, sorry.
-/
import Derived.Test.YtionfjofojfaoaaChecked
import GoSem.Claim
import GoSem.ClaimJoined
import GoSem.ClaimMapViews
import Derived.JoinedTies
import Derived.KernelRfl
namespace Go.Proofs.Ytionfjofojfaoaa
/- THE CELL 'sum', in the pinned program and in every row, IS THE sha256 OF THE DUMP (.gsa) THAT YtionfjofojfaoaaProg.lean LOADS. Nothing in Lean hashes anything: it is a label: what it is worth is what the hold of that sum in a sandbox is worth. -/
noncomputable def Try.pinned : Pinned := { name := "ytionfjofojfaoaa", sum := "2114a6b75c7df51edeef4d1562379d87e0bc44f4012d170dfc7cb5c7947d91ec", checked := Try.checked }
namespace Rows
def none {H : Type} : Left H := { results := [], args := [] }

/-- 'laws.FnExactIsCellText': WHATEVER THE INPUT: true; the input reads as it did. -/
def fnExactIsCellTextSpec : ChangeSpec := { name := "fnExactIsCellText", fn := fun _ => fun
  | [d] => { results := [.lit (.bool true)], args := [d] }
  | _ => none }
def fnExactIsCellTextRow : OpenClaim := { program := "ytionfjofojfaoaa", sum := "2114a6b75c7df51edeef4d1562379d87e0bc44f4012d170dfc7cb5c7947d91ec", func := "loop.example/g00819/laws.FnExactIsCellText", spec := "fnExactIsCellText", apart := false }
def FnExactIsCellTextSaid : Prop := fnExactIsCellTextRow.holds Try.pinned (OpenSpec.ofChange fnExactIsCellTextSpec)

/-- ITS FALSE NEIGHBOUR: 'it returns false'. Refute it at one input. -/
def fnExactIsCellTextWrong : ChangeSpec := { name := "fnExactIsCellText", fn := fun _ => fun
  | [d] => { results := [.lit (.bool false)], args := [d] }
  | _ => none }
def FnExactIsCellTextWrongFalsely : Prop := fnExactIsCellTextRow.holds Try.pinned (OpenSpec.ofChange fnExactIsCellTextWrong)

/-- 'laws.FnExactTableCode': WHATEVER THE INPUT: true; the input reads as it did. -/
def fnExactTableCodeSpec : ChangeSpec := { name := "fnExactTableCode", fn := fun _ => fun
  | [d] => { results := [.lit (.bool true)], args := [d] }
  | _ => none }
def fnExactTableCodeRow : OpenClaim := { program := "ytionfjofojfaoaa", sum := "2114a6b75c7df51edeef4d1562379d87e0bc44f4012d170dfc7cb5c7947d91ec", func := "loop.example/g00819/laws.FnExactTableCode", spec := "fnExactTableCode", apart := false }
def FnExactTableCodeSaid : Prop := fnExactTableCodeRow.holds Try.pinned (OpenSpec.ofChange fnExactTableCodeSpec)

/-- ITS FALSE NEIGHBOUR: 'it returns false'. Refute it at one input. -/
def fnExactTableCodeWrong : ChangeSpec := { name := "fnExactTableCode", fn := fun _ => fun
  | [d] => { results := [.lit (.bool false)], args := [d] }
  | _ => none }
def FnExactTableCodeWrongFalsely : Prop := fnExactTableCodeRow.holds Try.pinned (OpenSpec.ofChange fnExactTableCodeWrong)

/-- 'laws.FnExactIsTable': WHATEVER THE INPUT: true; the input reads as it did. -/
def fnExactIsTableSpec : ChangeSpec := { name := "fnExactIsTable", fn := fun _ => fun
  | [d] => { results := [.lit (.bool true)], args := [d] }
  | _ => none }
def fnExactIsTableRow : OpenClaim := { program := "ytionfjofojfaoaa", sum := "2114a6b75c7df51edeef4d1562379d87e0bc44f4012d170dfc7cb5c7947d91ec", func := "loop.example/g00819/laws.FnExactIsTable", spec := "fnExactIsTable", apart := false }
def FnExactIsTableSaid : Prop := fnExactIsTableRow.holds Try.pinned (OpenSpec.ofChange fnExactIsTableSpec)

/-- ITS FALSE NEIGHBOUR: 'it returns false'. Refute it at one input. -/
def fnExactIsTableWrong : ChangeSpec := { name := "fnExactIsTable", fn := fun _ => fun
  | [d] => { results := [.lit (.bool false)], args := [d] }
  | _ => none }
def FnExactIsTableWrongFalsely : Prop := fnExactIsTableRow.holds Try.pinned (OpenSpec.ofChange fnExactIsTableWrong)

/-- 'laws.FnExactColumnOf': WHATEVER THE INPUT: true; the input reads as it did. -/
def fnExactColumnOfSpec : ChangeSpec := { name := "fnExactColumnOf", fn := fun _ => fun
  | [d1, d2] => { results := [.lit (.bool true)], args := [d1, d2] }
  | _ => none }
def fnExactColumnOfRow : OpenClaim := { program := "ytionfjofojfaoaa", sum := "2114a6b75c7df51edeef4d1562379d87e0bc44f4012d170dfc7cb5c7947d91ec", func := "loop.example/g00819/laws.FnExactColumnOf", spec := "fnExactColumnOf", unfollowed := true, recurses := true, apart := false }
def FnExactColumnOfSaid : Prop := fnExactColumnOfRow.holds Try.pinned (OpenSpec.ofChange fnExactColumnOfSpec)

/-- ITS FALSE NEIGHBOUR: 'it returns false'. Refute it at one input. -/
def fnExactColumnOfWrong : ChangeSpec := { name := "fnExactColumnOf", fn := fun _ => fun
  | [d1, d2] => { results := [.lit (.bool false)], args := [d1, d2] }
  | _ => none }
def FnExactColumnOfWrongFalsely : Prop := fnExactColumnOfRow.holds Try.pinned (OpenSpec.ofChange fnExactColumnOfWrong)

/-- 'laws.FnExactTransposeRows': WHATEVER THE INPUT: true; the input reads as it did. -/
def fnExactTransposeRowsSpec : ChangeSpec := { name := "fnExactTransposeRows", fn := fun _ => fun
  | [d] => { results := [.lit (.bool true)], args := [d] }
  | _ => none }
def fnExactTransposeRowsRow : OpenClaim := { program := "ytionfjofojfaoaa", sum := "2114a6b75c7df51edeef4d1562379d87e0bc44f4012d170dfc7cb5c7947d91ec", func := "loop.example/g00819/laws.FnExactTransposeRows", spec := "fnExactTransposeRows", unfollowed := true, recurses := true, apart := false }
def FnExactTransposeRowsSaid : Prop := fnExactTransposeRowsRow.holds Try.pinned (OpenSpec.ofChange fnExactTransposeRowsSpec)

/-- ITS FALSE NEIGHBOUR: 'it returns false'. Refute it at one input. -/
def fnExactTransposeRowsWrong : ChangeSpec := { name := "fnExactTransposeRows", fn := fun _ => fun
  | [d] => { results := [.lit (.bool false)], args := [d] }
  | _ => none }
def FnExactTransposeRowsWrongFalsely : Prop := fnExactTransposeRowsRow.holds Try.pinned (OpenSpec.ofChange fnExactTransposeRowsWrong)

/-- 'laws.FnExactSelectColumns': WHATEVER THE INPUT: true; the input reads as it did. -/
def fnExactSelectColumnsSpec : ChangeSpec := { name := "fnExactSelectColumns", fn := fun _ => fun
  | [d1, d2] => { results := [.lit (.bool true)], args := [d1, d2] }
  | _ => none }
def fnExactSelectColumnsRow : OpenClaim := { program := "ytionfjofojfaoaa", sum := "2114a6b75c7df51edeef4d1562379d87e0bc44f4012d170dfc7cb5c7947d91ec", func := "loop.example/g00819/laws.FnExactSelectColumns", spec := "fnExactSelectColumns", unfollowed := true, recurses := true, apart := false }
def FnExactSelectColumnsSaid : Prop := fnExactSelectColumnsRow.holds Try.pinned (OpenSpec.ofChange fnExactSelectColumnsSpec)

/-- ITS FALSE NEIGHBOUR: 'it returns false'. Refute it at one input. -/
def fnExactSelectColumnsWrong : ChangeSpec := { name := "fnExactSelectColumns", fn := fun _ => fun
  | [d1, d2] => { results := [.lit (.bool false)], args := [d1, d2] }
  | _ => none }
def FnExactSelectColumnsWrongFalsely : Prop := fnExactSelectColumnsRow.holds Try.pinned (OpenSpec.ofChange fnExactSelectColumnsWrong)

/-- 'laws.FnExactSameTable': WHATEVER THE INPUT: true; the input reads as it did. -/
def fnExactSameTableSpec : ChangeSpec := { name := "fnExactSameTable", fn := fun _ => fun
  | [d1, d2] => { results := [.lit (.bool true)], args := [d1, d2] }
  | _ => none }
def fnExactSameTableRow : OpenClaim := { program := "ytionfjofojfaoaa", sum := "2114a6b75c7df51edeef4d1562379d87e0bc44f4012d170dfc7cb5c7947d91ec", func := "loop.example/g00819/laws.FnExactSameTable", spec := "fnExactSameTable", unfollowed := true, recurses := true, apart := false }
def FnExactSameTableSaid : Prop := fnExactSameTableRow.holds Try.pinned (OpenSpec.ofChange fnExactSameTableSpec)

/-- ITS FALSE NEIGHBOUR: 'it returns false'. Refute it at one input. -/
def fnExactSameTableWrong : ChangeSpec := { name := "fnExactSameTable", fn := fun _ => fun
  | [d1, d2] => { results := [.lit (.bool false)], args := [d1, d2] }
  | _ => none }
def FnExactSameTableWrongFalsely : Prop := fnExactSameTableRow.holds Try.pinned (OpenSpec.ofChange fnExactSameTableWrong)

/- THE SECOND FORM. 'bulk': how many values and letters a reading holds, each counted each time it is reached (what is shared counts as often as it is met; a slice's spare places count too). A statement '..UptoSaid' is the law's where the arguments, and the package variables that the reading takes, are together of bulk at most 1048576: NARROWER than '..Said'. Prove '..Said' where nothing that the law and all that it calls make is longer than what came in: it says more and counts as full. Else prove '..UptoSaid'. A law counts once. -/
mutual
def uptoBulk {H : Type} : DataW H → Nat
  | .lit (.string bytes) => bytes.length + 1
  | .lit _ => 1
  | .nil => 1
  | .ptr d => uptoBulk d + 1
  | .slice elems spare => uptoBulkAll elems + uptoBulkAll spare + 1
  | .agg parts => uptoBulkAll parts + 1
  | .iface _ d => uptoBulk d + 1
  | .map entries => uptoBulkEntries entries + 1
  | .held _ => 1
def uptoBulkAll {H : Type} : List (DataW H) → Nat
  | [] => 0
  | d :: r => uptoBulk d + uptoBulkAll r
def uptoBulkEntries {H : Type} : List (Lit × DataW H) → Nat
  | [] => 0
  | x :: r => uptoBulkEntry x + uptoBulkEntries r
def uptoBulkEntry {H : Type} : Lit × DataW H → Nat
  | (.string bytes, d) => bytes.length + uptoBulk d + 1
  | (_, d) => uptoBulk d + 1
 end
def uptoSmall : (H : Type) → List (DataW H) → Bool := fun _ ds => decide (uptoBulkAll ds ≤ 1048576)
def OpenSpec.upto (s : _root_.Go.ChangeSpec) : _root_.Go.OpenSpec := { _root_.Go.OpenSpec.ofChange s with cond := some uptoSmall }

/-- 'laws.FnExactIsCellText', WHERE WHAT IT READS IS OF BULK AT MOST 1048576: true; the input reads as it did. -/
def fnExactIsCellTextUptoRow : OpenClaim := { program := "ytionfjofojfaoaa", sum := "2114a6b75c7df51edeef4d1562379d87e0bc44f4012d170dfc7cb5c7947d91ec", func := "loop.example/g00819/laws.FnExactIsCellText", spec := "fnExactIsCellText", apart := false, narrowed := true }
def FnExactIsCellTextUptoSaid : Prop := fnExactIsCellTextUptoRow.holds Try.pinned (OpenSpec.upto fnExactIsCellTextSpec)

/-- 'laws.FnExactTableCode', WHERE WHAT IT READS IS OF BULK AT MOST 1048576: true; the input reads as it did. -/
def fnExactTableCodeUptoRow : OpenClaim := { program := "ytionfjofojfaoaa", sum := "2114a6b75c7df51edeef4d1562379d87e0bc44f4012d170dfc7cb5c7947d91ec", func := "loop.example/g00819/laws.FnExactTableCode", spec := "fnExactTableCode", apart := false, narrowed := true }
def FnExactTableCodeUptoSaid : Prop := fnExactTableCodeUptoRow.holds Try.pinned (OpenSpec.upto fnExactTableCodeSpec)

/-- 'laws.FnExactIsTable', WHERE WHAT IT READS IS OF BULK AT MOST 1048576: true; the input reads as it did. -/
def fnExactIsTableUptoRow : OpenClaim := { program := "ytionfjofojfaoaa", sum := "2114a6b75c7df51edeef4d1562379d87e0bc44f4012d170dfc7cb5c7947d91ec", func := "loop.example/g00819/laws.FnExactIsTable", spec := "fnExactIsTable", apart := false, narrowed := true }
def FnExactIsTableUptoSaid : Prop := fnExactIsTableUptoRow.holds Try.pinned (OpenSpec.upto fnExactIsTableSpec)

/-- 'laws.FnExactColumnOf', WHERE WHAT IT READS IS OF BULK AT MOST 1048576: true; the input reads as it did. -/
def fnExactColumnOfUptoRow : OpenClaim := { program := "ytionfjofojfaoaa", sum := "2114a6b75c7df51edeef4d1562379d87e0bc44f4012d170dfc7cb5c7947d91ec", func := "loop.example/g00819/laws.FnExactColumnOf", spec := "fnExactColumnOf", unfollowed := true, recurses := true, apart := false, narrowed := true }
def FnExactColumnOfUptoSaid : Prop := fnExactColumnOfUptoRow.holds Try.pinned (OpenSpec.upto fnExactColumnOfSpec)

/-- 'laws.FnExactTransposeRows', WHERE WHAT IT READS IS OF BULK AT MOST 1048576: true; the input reads as it did. -/
def fnExactTransposeRowsUptoRow : OpenClaim := { program := "ytionfjofojfaoaa", sum := "2114a6b75c7df51edeef4d1562379d87e0bc44f4012d170dfc7cb5c7947d91ec", func := "loop.example/g00819/laws.FnExactTransposeRows", spec := "fnExactTransposeRows", unfollowed := true, recurses := true, apart := false, narrowed := true }
def FnExactTransposeRowsUptoSaid : Prop := fnExactTransposeRowsUptoRow.holds Try.pinned (OpenSpec.upto fnExactTransposeRowsSpec)

/-- 'laws.FnExactSelectColumns', WHERE WHAT IT READS IS OF BULK AT MOST 1048576: true; the input reads as it did. -/
def fnExactSelectColumnsUptoRow : OpenClaim := { program := "ytionfjofojfaoaa", sum := "2114a6b75c7df51edeef4d1562379d87e0bc44f4012d170dfc7cb5c7947d91ec", func := "loop.example/g00819/laws.FnExactSelectColumns", spec := "fnExactSelectColumns", unfollowed := true, recurses := true, apart := false, narrowed := true }
def FnExactSelectColumnsUptoSaid : Prop := fnExactSelectColumnsUptoRow.holds Try.pinned (OpenSpec.upto fnExactSelectColumnsSpec)

/-- 'laws.FnExactSameTable', WHERE WHAT IT READS IS OF BULK AT MOST 1048576: true; the input reads as it did. -/
def fnExactSameTableUptoRow : OpenClaim := { program := "ytionfjofojfaoaa", sum := "2114a6b75c7df51edeef4d1562379d87e0bc44f4012d170dfc7cb5c7947d91ec", func := "loop.example/g00819/laws.FnExactSameTable", spec := "fnExactSameTable", unfollowed := true, recurses := true, apart := false, narrowed := true }
def FnExactSameTableUptoSaid : Prop := fnExactSameTableUptoRow.holds Try.pinned (OpenSpec.upto fnExactSameTableSpec)

end Rows
end Go.Proofs.Ytionfjofojfaoaa
