/-
  DERIVED. GIVEN WITH THE SEED: THE CARDS: each row of YtncdglfcegmmgaaDoorRows.lean that lists a variable, with what it lists TIED to the program's text (the seventh form; the later family's looks); each row that meets fmt, with fmt's text TOLD by the authors' own Lean function (tested against real Go, not proved from fmt's source: count such statements apart). THE CARD IS WHAT COUNTS. Prove the row's statement (the work); the ties are given (YtncdglfcegmmgaaDoorTie.lean); close each card by the builder's one call (the guide's Derived/Test/ToyasCard.lean, 'card_holds'). Laid BY PROGRAM, IN A SANDBOX (cutbox-door.mjs). By AI agents, Wed Nov 11 2026. No macro, syntax, notation, axiom, sorry.
-/
import Derived.Test.YtncdglfcegmmgaaDoorRows
import GoSem.ClaimSeven
namespace Go.Proofs.YtncdglfcegmmgaaDoor
namespace Rows

/-- THE TIED CARD OF 'laws.FnCells'. -/
def fnCellsCard : Claim7 := { stood := { row := fnCellsRow, standIns := [], harness := (true, "66fe99ce58bcf05844841f7817c3d9866ab2028a41665862371355ddf3bad148"), looks := false }, kinds := [], alts := [], laidByText := true, laidKinds := [.data, .data, .pinned], laidTests := true, laidLooks := .later }
def FnCellsCardSaid : Prop := Claim7.holds Tryd.pinned (.plain (OpenSpec.ofChange fnCellsSpec)) fnCellsCard

/-- THE TIED CARD OF 'laws.FnExactCellWidth'. -/
def fnExactCellWidthCard : Claim7 := { stood := { row := fnExactCellWidthRow, standIns := [], harness := (true, "66fe99ce58bcf05844841f7817c3d9866ab2028a41665862371355ddf3bad148"), looks := false }, kinds := [], alts := [], laidByText := true, laidKinds := [.data, .data, .pinned], laidTests := true, laidLooks := .later }
def FnExactCellWidthCardSaid : Prop := Claim7.holds Tryd.pinned (.plain (OpenSpec.ofChange fnExactCellWidthSpec)) fnExactCellWidthCard

/-- THE TIED CARD OF 'laws.FnExactSplitText'. -/
def fnExactSplitTextCard : Claim7 := { stood := { row := fnExactSplitTextRow, standIns := [], harness := (true, "66fe99ce58bcf05844841f7817c3d9866ab2028a41665862371355ddf3bad148"), looks := false }, kinds := [], alts := [], laidByText := true, laidKinds := [.data, .data, .pinned], laidTests := true, laidLooks := .later }
def FnExactSplitTextCardSaid : Prop := Claim7.holds Tryd.pinned (.plain (OpenSpec.ofChange fnExactSplitTextSpec)) fnExactSplitTextCard

/-- THE SECOND FORM's CARD OF 'laws.FnCells'. -/
def fnCellsUptoCard : Claim7 := { stood := { row := fnCellsUptoRow, standIns := [], harness := (true, "66fe99ce58bcf05844841f7817c3d9866ab2028a41665862371355ddf3bad148"), looks := false }, kinds := [], alts := [], laidByText := true, laidKinds := [.data, .data, .pinned], laidTests := true, laidLooks := .later }
def FnCellsUptoCardSaid : Prop := Claim7.holds Tryd.pinned (.plain (OpenSpec.upto fnCellsSpec)) fnCellsUptoCard

/-- THE SECOND FORM's CARD OF 'laws.FnExactCellWidth'. -/
def fnExactCellWidthUptoCard : Claim7 := { stood := { row := fnExactCellWidthUptoRow, standIns := [], harness := (true, "66fe99ce58bcf05844841f7817c3d9866ab2028a41665862371355ddf3bad148"), looks := false }, kinds := [], alts := [], laidByText := true, laidKinds := [.data, .data, .pinned], laidTests := true, laidLooks := .later }
def FnExactCellWidthUptoCardSaid : Prop := Claim7.holds Tryd.pinned (.plain (OpenSpec.upto fnExactCellWidthSpec)) fnExactCellWidthUptoCard

/-- THE SECOND FORM's CARD OF 'laws.FnExactSplitText'. -/
def fnExactSplitTextUptoCard : Claim7 := { stood := { row := fnExactSplitTextUptoRow, standIns := [], harness := (true, "66fe99ce58bcf05844841f7817c3d9866ab2028a41665862371355ddf3bad148"), looks := false }, kinds := [], alts := [], laidByText := true, laidKinds := [.data, .data, .pinned], laidTests := true, laidLooks := .later }
def FnExactSplitTextUptoCardSaid : Prop := Claim7.holds Tryd.pinned (.plain (OpenSpec.upto fnExactSplitTextSpec)) fnExactSplitTextUptoCard
end Rows
end Go.Proofs.YtncdglfcegmmgaaDoor
