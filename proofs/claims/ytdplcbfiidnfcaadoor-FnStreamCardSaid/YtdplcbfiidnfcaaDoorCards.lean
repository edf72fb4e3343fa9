/-
  DERIVED. GIVEN WITH THE SEED: THE CARDS: each row of YtdplcbfiidnfcaaDoorRows.lean that lists a variable, with what it lists TIED to the program's text (the seventh form; the later family's looks); each row that meets fmt, with fmt's text TOLD by the authors' own Lean function (tested against real Go, not proved from fmt's source: count such statements apart). THE CARD IS WHAT COUNTS. Prove the row's statement (the work); the ties are given (YtdplcbfiidnfcaaDoorTie.lean); close each card by the builder's one call (the guide's Derived/Test/ToyasCard.lean, 'card_holds'). Laid BY PROGRAM, IN A SANDBOX (cutbox-door.mjs). By AI agents, Wed Nov 11 2026. No macro, syntax, notation, axiom, sorry.
-/
import Derived.Test.YtdplcbfiidnfcaaDoorRows
import GoSem.ClaimSeven
namespace Go.Proofs.YtdplcbfiidnfcaaDoor
namespace Rows

/-- THE TIED CARD OF 'laws.FnStream'. -/
def fnStreamCard : Claim7 := { stood := { row := fnStreamRow, standIns := [], harness := (true, "0af6e3b93ef2a2c8a54c0b796e15c8e6a09f9c2fe549e38afbb168e48d91e5ea"), looks := false }, kinds := [], alts := [], laidByText := true, laidKinds := [.data, .data, .pinned], laidTests := true, laidLooks := .later }
def FnStreamCardSaid : Prop := Claim7.holds Tryd.pinned (.plain (OpenSpec.ofChange fnStreamSpec)) fnStreamCard

/-- THE TIED CARD OF 'laws.FnPrompt'. -/
def fnPromptCard : Claim7 := { stood := { row := fnPromptRow, standIns := [], harness := (true, "0af6e3b93ef2a2c8a54c0b796e15c8e6a09f9c2fe549e38afbb168e48d91e5ea"), looks := false }, kinds := [], alts := [], laidByText := true, laidKinds := [.data, .data, .pinned], laidTests := true, laidLooks := .later }
def FnPromptCardSaid : Prop := Claim7.holds Tryd.pinned (.plain (OpenSpec.ofChange fnPromptSpec)) fnPromptCard

/-- THE SECOND FORM's CARD OF 'laws.FnStream'. -/
def fnStreamUptoCard : Claim7 := { stood := { row := fnStreamUptoRow, standIns := [], harness := (true, "0af6e3b93ef2a2c8a54c0b796e15c8e6a09f9c2fe549e38afbb168e48d91e5ea"), looks := false }, kinds := [], alts := [], laidByText := true, laidKinds := [.data, .data, .pinned], laidTests := true, laidLooks := .later }
def FnStreamUptoCardSaid : Prop := Claim7.holds Tryd.pinned (.plain (OpenSpec.upto fnStreamSpec)) fnStreamUptoCard

/-- THE SECOND FORM's CARD OF 'laws.FnPrompt'. -/
def fnPromptUptoCard : Claim7 := { stood := { row := fnPromptUptoRow, standIns := [], harness := (true, "0af6e3b93ef2a2c8a54c0b796e15c8e6a09f9c2fe549e38afbb168e48d91e5ea"), looks := false }, kinds := [], alts := [], laidByText := true, laidKinds := [.data, .data, .pinned], laidTests := true, laidLooks := .later }
def FnPromptUptoCardSaid : Prop := Claim7.holds Tryd.pinned (.plain (OpenSpec.upto fnPromptSpec)) fnPromptUptoCard
end Rows
end Go.Proofs.YtdplcbfiidnfcaaDoor
