/-
  DERIVED. GIVEN WITH THE SEED: THE CARDS: each row of YtooanejiadbngaaGreatDoorRows.lean that lists a variable, with what it lists TIED to the program's text (the seventh form; the later family's looks); each row that meets fmt, with fmt's text TOLD by the authors' own Lean function (tested against real Go, not proved from fmt's source: count such statements apart). THE CARD IS WHAT COUNTS. Prove the row's statement (the work); the ties are given (YtooanejiadbngaaGreatDoorTie.lean); close each card by the builder's one call (the guide's Derived/Test/ToyasCard.lean, 'card_holds'). Laid BY PROGRAM, IN A SANDBOX (cutbox-door.mjs). By AI agents, Wed Nov 11 2026. No macro, syntax, notation, axiom, sorry.
-/
import Derived.Test.YtooanejiadbngaaGreatDoorRows
import GoSem.ClaimSeven
namespace Go.Proofs.YtooanejiadbngaaGreatDoor
namespace Rows

/-- THE TIED CARD OF 'laws.FnSink'. -/
def fnSinkCard : Claim7 := { stood := { row := fnSinkRow, standIns := [], harness := (true, "450a56f49e9a5d3b8b29f7eb4670c77ae766f8398e468b1ef25d38b01df877e4"), looks := true }, kinds := [], alts := [], laidByText := true, laidKinds := [.data, .handle, .data, .pinned], laidTests := true, laidLooks := .later }
def FnSinkCardSaid : Prop := Claim7.holds Tryz.pinned (.plain (OpenSpec.ofChange fnSinkSpec)) fnSinkCard

/-- THE TIED CARD OF 'laws.FnSessions'. -/
def fnSessionsCard : Claim7 := { stood := { row := fnSessionsRow, standIns := [], harness := (true, "450a56f49e9a5d3b8b29f7eb4670c77ae766f8398e468b1ef25d38b01df877e4"), looks := true }, kinds := [], alts := [], laidByText := true, laidKinds := [.data, .handle, .data, .pinned], laidTests := true, laidLooks := .later }
def FnSessionsCardSaid : Prop := Claim7.holds Tryz.pinned (.plain (OpenSpec.ofChange fnSessionsSpec)) fnSessionsCard

/-- THE SECOND FORM's CARD OF 'laws.FnSink'. -/
def fnSinkUptoCard : Claim7 := { stood := { row := fnSinkUptoRow, standIns := [], harness := (true, "450a56f49e9a5d3b8b29f7eb4670c77ae766f8398e468b1ef25d38b01df877e4"), looks := true }, kinds := [], alts := [], laidByText := true, laidKinds := [.data, .handle, .data, .pinned], laidTests := true, laidLooks := .later }
def FnSinkUptoCardSaid : Prop := Claim7.holds Tryz.pinned (.plain (OpenSpec.upto fnSinkSpec)) fnSinkUptoCard

/-- THE SECOND FORM's CARD OF 'laws.FnSessions'. -/
def fnSessionsUptoCard : Claim7 := { stood := { row := fnSessionsUptoRow, standIns := [], harness := (true, "450a56f49e9a5d3b8b29f7eb4670c77ae766f8398e468b1ef25d38b01df877e4"), looks := true }, kinds := [], alts := [], laidByText := true, laidKinds := [.data, .handle, .data, .pinned], laidTests := true, laidLooks := .later }
def FnSessionsUptoCardSaid : Prop := Claim7.holds Tryz.pinned (.plain (OpenSpec.upto fnSessionsSpec)) fnSessionsUptoCard
end Rows
end Go.Proofs.YtooanejiadbngaaGreatDoor
