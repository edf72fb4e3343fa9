/-
  DERIVED. GIVEN WITH THE SEED: THE CARDS: each row of YtionfjofojfaoaaDoorRows.lean that lists a variable, with what it lists TIED to the program's text (the seventh form; the later family's looks); each row that meets fmt, with fmt's text TOLD by the authors' own Lean function (tested against real Go, not proved from fmt's source: count such statements apart). THE CARD IS WHAT COUNTS. Prove the row's statement (the work); the ties are given (YtionfjofojfaoaaDoorTie.lean); close each card by the builder's one call (the guide's Derived/Test/ToyasCard.lean, 'card_holds'). Laid BY PROGRAM, IN A SANDBOX (cutbox-door.mjs). By AI agents, Wed Nov 11 2026. No macro, syntax, notation, axiom, sorry.
-/
import Derived.Test.YtionfjofojfaoaaDoorRows
import GoSem.ClaimSeven
namespace Go.Proofs.YtionfjofojfaoaaDoor
namespace Rows

/-- THE TIED CARD OF 'laws.FnTables'. -/
def fnTablesCard : Claim7 := { stood := { row := fnTablesRow, standIns := [], harness := (true, "0aea96a50e3ee6ead9d78f25677152a6c78651329eaa9f26a01e506ddb98e703"), looks := false }, kinds := [], alts := [], laidByText := true, laidKinds := [.data, .data, .pinned], laidTests := true, laidLooks := .later }
def FnTablesCardSaid : Prop := Claim7.holds Tryd.pinned (.plain (OpenSpec.ofChange fnTablesSpec)) fnTablesCard

/-- THE TIED CARD OF 'laws.FnExactNaturalWidths'. -/
def fnExactNaturalWidthsCard : Claim7 := { stood := { row := fnExactNaturalWidthsRow, standIns := [], harness := (true, "0aea96a50e3ee6ead9d78f25677152a6c78651329eaa9f26a01e506ddb98e703"), looks := false }, kinds := [], alts := [], laidByText := true, laidKinds := [.data, .data, .pinned], laidTests := true, laidLooks := .later }
def FnExactNaturalWidthsCardSaid : Prop := Claim7.holds Tryd.pinned (.plain (OpenSpec.ofChange fnExactNaturalWidthsSpec)) fnExactNaturalWidthsCard

/-- THE SECOND FORM's CARD OF 'laws.FnTables'. -/
def fnTablesUptoCard : Claim7 := { stood := { row := fnTablesUptoRow, standIns := [], harness := (true, "0aea96a50e3ee6ead9d78f25677152a6c78651329eaa9f26a01e506ddb98e703"), looks := false }, kinds := [], alts := [], laidByText := true, laidKinds := [.data, .data, .pinned], laidTests := true, laidLooks := .later }
def FnTablesUptoCardSaid : Prop := Claim7.holds Tryd.pinned (.plain (OpenSpec.upto fnTablesSpec)) fnTablesUptoCard

/-- THE SECOND FORM's CARD OF 'laws.FnExactNaturalWidths'. -/
def fnExactNaturalWidthsUptoCard : Claim7 := { stood := { row := fnExactNaturalWidthsUptoRow, standIns := [], harness := (true, "0aea96a50e3ee6ead9d78f25677152a6c78651329eaa9f26a01e506ddb98e703"), looks := false }, kinds := [], alts := [], laidByText := true, laidKinds := [.data, .data, .pinned], laidTests := true, laidLooks := .later }
def FnExactNaturalWidthsUptoCardSaid : Prop := Claim7.holds Tryd.pinned (.plain (OpenSpec.upto fnExactNaturalWidthsSpec)) fnExactNaturalWidthsUptoCard
end Rows
end Go.Proofs.YtionfjofojfaoaaDoor
