/-
  DERIVED. GIVEN WITH THE SEED: THE CARDS: each row of YtaigjiiknmgclaaDoorRows.lean that lists a variable, with what it lists TIED to the program's text (the seventh form; the later family's looks); each row that meets fmt, with fmt's text TOLD by the authors' own Lean function (tested against real Go, not proved from fmt's source: count such statements apart). THE CARD IS WHAT COUNTS. Prove the row's statement (the work); the ties are given (YtaigjiiknmgclaaDoorTie.lean); close each card by the builder's one call (the guide's Derived/Test/ToyasCard.lean, 'card_holds'). Laid BY PROGRAM, IN A SANDBOX (cutbox-door.mjs). By AI agents, Wed Nov 11 2026. No macro, syntax, notation, axiom, sorry.
-/
import Derived.Test.YtaigjiiknmgclaaDoorRows
import GoSem.ClaimSeven
namespace Go.Proofs.YtaigjiiknmgclaaDoor
namespace Rows

/-- THE TIED CARD OF 'laws.FnRunes'. -/
def fnRunesCard : Claim7 := { stood := { row := fnRunesRow, standIns := [], harness := (true, "395a699b21260e0063edabad5d7fc82cd16f0d1e10f83173be7125a93e017b7b"), looks := false }, kinds := [], alts := [], laidByText := true, laidKinds := [.data, .pinned], laidTests := true, laidLooks := .later }
def FnRunesCardSaid : Prop := Claim7.holds Tryd.pinned (.plain (OpenSpec.ofChange fnRunesSpec)) fnRunesCard

/-- THE TIED CARD OF 'laws.FnComplete'. -/
def fnCompleteCard : Claim7 := { stood := { row := fnCompleteRow, standIns := [], harness := (true, "395a699b21260e0063edabad5d7fc82cd16f0d1e10f83173be7125a93e017b7b"), looks := false }, kinds := [], alts := [], laidByText := true, laidKinds := [.data, .pinned], laidTests := true, laidLooks := .later }
def FnCompleteCardSaid : Prop := Claim7.holds Tryd.pinned (.plain (OpenSpec.ofChange fnCompleteSpec)) fnCompleteCard

/-- THE TIED CARD OF 'laws.FnExactDecodeAt'. -/
def fnExactDecodeAtCard : Claim7 := { stood := { row := fnExactDecodeAtRow, standIns := [], harness := (true, "395a699b21260e0063edabad5d7fc82cd16f0d1e10f83173be7125a93e017b7b"), looks := false }, kinds := [], alts := [], laidByText := true, laidKinds := [.data, .pinned], laidTests := true, laidLooks := .later }
def FnExactDecodeAtCardSaid : Prop := Claim7.holds Tryd.pinned (.plain (OpenSpec.ofChange fnExactDecodeAtSpec)) fnExactDecodeAtCard

/-- THE TIED CARD OF 'laws.FnExactRunesOf'. -/
def fnExactRunesOfCard : Claim7 := { stood := { row := fnExactRunesOfRow, standIns := [], harness := (true, "395a699b21260e0063edabad5d7fc82cd16f0d1e10f83173be7125a93e017b7b"), looks := false }, kinds := [], alts := [], laidByText := true, laidKinds := [.data, .pinned], laidTests := true, laidLooks := .later }
def FnExactRunesOfCardSaid : Prop := Claim7.holds Tryd.pinned (.plain (OpenSpec.ofChange fnExactRunesOfSpec)) fnExactRunesOfCard

/-- THE TIED CARD OF 'laws.FnExactCutRunes'. -/
def fnExactCutRunesCard : Claim7 := { stood := { row := fnExactCutRunesRow, standIns := [], harness := (true, "395a699b21260e0063edabad5d7fc82cd16f0d1e10f83173be7125a93e017b7b"), looks := false }, kinds := [], alts := [], laidByText := true, laidKinds := [.data, .pinned], laidTests := true, laidLooks := .later }
def FnExactCutRunesCardSaid : Prop := Claim7.holds Tryd.pinned (.plain (OpenSpec.ofChange fnExactCutRunesSpec)) fnExactCutRunesCard

/-- THE TIED CARD OF 'laws.FnExactIsText'. -/
def fnExactIsTextCard : Claim7 := { stood := { row := fnExactIsTextRow, standIns := [], harness := (true, "395a699b21260e0063edabad5d7fc82cd16f0d1e10f83173be7125a93e017b7b"), looks := false }, kinds := [], alts := [], laidByText := true, laidKinds := [.data, .pinned], laidTests := true, laidLooks := .later }
def FnExactIsTextCardSaid : Prop := Claim7.holds Tryd.pinned (.plain (OpenSpec.ofChange fnExactIsTextSpec)) fnExactIsTextCard

/-- THE TIED CARD OF 'laws.FnExactCompleteLength'. -/
def fnExactCompleteLengthCard : Claim7 := { stood := { row := fnExactCompleteLengthRow, standIns := [], harness := (true, "395a699b21260e0063edabad5d7fc82cd16f0d1e10f83173be7125a93e017b7b"), looks := false }, kinds := [], alts := [], laidByText := true, laidKinds := [.data, .pinned], laidTests := true, laidLooks := .later }
def FnExactCompleteLengthCardSaid : Prop := Claim7.holds Tryd.pinned (.plain (OpenSpec.ofChange fnExactCompleteLengthSpec)) fnExactCompleteLengthCard

/-- THE SECOND FORM's CARD OF 'laws.FnRunes'. -/
def fnRunesUptoCard : Claim7 := { stood := { row := fnRunesUptoRow, standIns := [], harness := (true, "395a699b21260e0063edabad5d7fc82cd16f0d1e10f83173be7125a93e017b7b"), looks := false }, kinds := [], alts := [], laidByText := true, laidKinds := [.data, .pinned], laidTests := true, laidLooks := .later }
def FnRunesUptoCardSaid : Prop := Claim7.holds Tryd.pinned (.plain (OpenSpec.upto fnRunesSpec)) fnRunesUptoCard

/-- THE SECOND FORM's CARD OF 'laws.FnComplete'. -/
def fnCompleteUptoCard : Claim7 := { stood := { row := fnCompleteUptoRow, standIns := [], harness := (true, "395a699b21260e0063edabad5d7fc82cd16f0d1e10f83173be7125a93e017b7b"), looks := false }, kinds := [], alts := [], laidByText := true, laidKinds := [.data, .pinned], laidTests := true, laidLooks := .later }
def FnCompleteUptoCardSaid : Prop := Claim7.holds Tryd.pinned (.plain (OpenSpec.upto fnCompleteSpec)) fnCompleteUptoCard

/-- THE SECOND FORM's CARD OF 'laws.FnExactDecodeAt'. -/
def fnExactDecodeAtUptoCard : Claim7 := { stood := { row := fnExactDecodeAtUptoRow, standIns := [], harness := (true, "395a699b21260e0063edabad5d7fc82cd16f0d1e10f83173be7125a93e017b7b"), looks := false }, kinds := [], alts := [], laidByText := true, laidKinds := [.data, .pinned], laidTests := true, laidLooks := .later }
def FnExactDecodeAtUptoCardSaid : Prop := Claim7.holds Tryd.pinned (.plain (OpenSpec.upto fnExactDecodeAtSpec)) fnExactDecodeAtUptoCard

/-- THE SECOND FORM's CARD OF 'laws.FnExactRunesOf'. -/
def fnExactRunesOfUptoCard : Claim7 := { stood := { row := fnExactRunesOfUptoRow, standIns := [], harness := (true, "395a699b21260e0063edabad5d7fc82cd16f0d1e10f83173be7125a93e017b7b"), looks := false }, kinds := [], alts := [], laidByText := true, laidKinds := [.data, .pinned], laidTests := true, laidLooks := .later }
def FnExactRunesOfUptoCardSaid : Prop := Claim7.holds Tryd.pinned (.plain (OpenSpec.upto fnExactRunesOfSpec)) fnExactRunesOfUptoCard

/-- THE SECOND FORM's CARD OF 'laws.FnExactCutRunes'. -/
def fnExactCutRunesUptoCard : Claim7 := { stood := { row := fnExactCutRunesUptoRow, standIns := [], harness := (true, "395a699b21260e0063edabad5d7fc82cd16f0d1e10f83173be7125a93e017b7b"), looks := false }, kinds := [], alts := [], laidByText := true, laidKinds := [.data, .pinned], laidTests := true, laidLooks := .later }
def FnExactCutRunesUptoCardSaid : Prop := Claim7.holds Tryd.pinned (.plain (OpenSpec.upto fnExactCutRunesSpec)) fnExactCutRunesUptoCard

/-- THE SECOND FORM's CARD OF 'laws.FnExactIsText'. -/
def fnExactIsTextUptoCard : Claim7 := { stood := { row := fnExactIsTextUptoRow, standIns := [], harness := (true, "395a699b21260e0063edabad5d7fc82cd16f0d1e10f83173be7125a93e017b7b"), looks := false }, kinds := [], alts := [], laidByText := true, laidKinds := [.data, .pinned], laidTests := true, laidLooks := .later }
def FnExactIsTextUptoCardSaid : Prop := Claim7.holds Tryd.pinned (.plain (OpenSpec.upto fnExactIsTextSpec)) fnExactIsTextUptoCard

/-- THE SECOND FORM's CARD OF 'laws.FnExactCompleteLength'. -/
def fnExactCompleteLengthUptoCard : Claim7 := { stood := { row := fnExactCompleteLengthUptoRow, standIns := [], harness := (true, "395a699b21260e0063edabad5d7fc82cd16f0d1e10f83173be7125a93e017b7b"), looks := false }, kinds := [], alts := [], laidByText := true, laidKinds := [.data, .pinned], laidTests := true, laidLooks := .later }
def FnExactCompleteLengthUptoCardSaid : Prop := Claim7.holds Tryd.pinned (.plain (OpenSpec.upto fnExactCompleteLengthSpec)) fnExactCompleteLengthUptoCard
end Rows
end Go.Proofs.YtaigjiiknmgclaaDoor
