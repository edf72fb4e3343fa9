/-
  DERIVED. GIVEN WITH THE SEED: THE CARDS: each row of YtooanejiadbngaaDoorRows.lean that lists a variable, with what it lists TIED to the program's text (the seventh form; the later family's looks); each row that meets fmt, with fmt's text TOLD by the authors' own Lean function (tested against real Go, not proved from fmt's source: count such statements apart). THE CARD IS WHAT COUNTS. Prove the row's statement (the work); the ties are given (YtooanejiadbngaaDoorTie.lean); close each card by the builder's one call (the guide's Derived/Test/ToyasCard.lean, 'card_holds'). Laid BY PROGRAM, IN A SANDBOX (cutbox-door.mjs). By AI agents, Wed Nov 11 2026. No macro, syntax, notation, axiom, sorry.
-/
import Derived.Test.YtooanejiadbngaaDoorRows
import GoSem.ClaimSeven
namespace Go.Proofs.YtooanejiadbngaaDoor
namespace Rows

/-- THE TIED CARD OF 'laws.FnExactTakeText'. -/
def fnExactTakeTextCard : Claim7 := { stood := { row := fnExactTakeTextRow, standIns := [], harness := (true, "2f47f2edd0150dfedd9d3bb85a5eb0ddc319c676f73d635983d14a836ad9a3f3"), looks := true }, kinds := [], alts := [], laidByText := true, laidKinds := [.handle], laidTests := true, laidLooks := .later }
def FnExactTakeTextCardSaid : Prop := Claim7.holds Tryd.pinned (.plain (OpenSpec.ofChange fnExactTakeTextSpec)) fnExactTakeTextCard

/-- THE SECOND FORM's CARD OF 'laws.FnExactTakeText'. -/
def fnExactTakeTextUptoCard : Claim7 := { stood := { row := fnExactTakeTextUptoRow, standIns := [], harness := (true, "2f47f2edd0150dfedd9d3bb85a5eb0ddc319c676f73d635983d14a836ad9a3f3"), looks := true }, kinds := [], alts := [], laidByText := true, laidKinds := [.handle], laidTests := true, laidLooks := .later }
def FnExactTakeTextUptoCardSaid : Prop := Claim7.holds Tryd.pinned (.plain (OpenSpec.upto fnExactTakeTextSpec)) fnExactTakeTextUptoCard
end Rows
end Go.Proofs.YtooanejiadbngaaDoor
