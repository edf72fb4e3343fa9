/-
  DERIVED. GIVEN WITH THE SEED: THE CARDS: each row of YtijclaocmnkncaaDoorRows.lean that lists a variable, with what it lists TIED to the program's text (the seventh form; the later family's looks); each row that meets fmt, with fmt's text TOLD by the authors' own Lean function (tested against real Go, not proved from fmt's source: count such statements apart). THE CARD IS WHAT COUNTS. Prove the row's statement (the work); the ties are given (YtijclaocmnkncaaDoorTie.lean); close each card by the builder's one call (the guide's Derived/Test/ToyasCard.lean, 'card_holds'). Laid BY PROGRAM, IN A SANDBOX (cutbox-door.mjs). By AI agents, Wed Nov 11 2026. No macro, syntax, notation, axiom, sorry.
-/
import Derived.Test.YtijclaocmnkncaaDoorRows
import GoSem.ClaimSeven
namespace Go.Proofs.YtijclaocmnkncaaDoor
namespace Rows

/-- THE TIED CARD OF 'laws.FnWidths'. -/
def fnWidthsCard : Claim7 := { stood := { row := fnWidthsRow, standIns := [], harness := (true, "2ec3bed0ed8b07d1fe0baeb81d0f94748426c9710202f0a3b4fe43d85bc127ff"), looks := false }, kinds := [], alts := [], laidByText := true, laidKinds := [.data, .data, .pinned], laidTests := true, laidLooks := .later }
def FnWidthsCardSaid : Prop := Claim7.holds Tryd.pinned (.plain (OpenSpec.ofChange fnWidthsSpec)) fnWidthsCard

/-- THE TIED CARD OF 'laws.FnExactRuneWidth'. -/
def fnExactRuneWidthCard : Claim7 := { stood := { row := fnExactRuneWidthRow, standIns := [], harness := (true, "2ec3bed0ed8b07d1fe0baeb81d0f94748426c9710202f0a3b4fe43d85bc127ff"), looks := false }, kinds := [], alts := [], laidByText := true, laidKinds := [.data], laidTests := true, laidLooks := .later }
def FnExactRuneWidthCardSaid : Prop := Claim7.holds Tryd.pinned (.plain (OpenSpec.ofChange fnExactRuneWidthSpec)) fnExactRuneWidthCard

/-- THE TIED CARD OF 'laws.FnExactTextWidth'. -/
def fnExactTextWidthCard : Claim7 := { stood := { row := fnExactTextWidthRow, standIns := [], harness := (true, "2ec3bed0ed8b07d1fe0baeb81d0f94748426c9710202f0a3b4fe43d85bc127ff"), looks := false }, kinds := [], alts := [], laidByText := true, laidKinds := [.data, .data, .pinned], laidTests := true, laidLooks := .later }
def FnExactTextWidthCardSaid : Prop := Claim7.holds Tryd.pinned (.plain (OpenSpec.ofChange fnExactTextWidthSpec)) fnExactTextWidthCard

/-- THE TIED CARD OF 'laws.FnExactFitWidth'. -/
def fnExactFitWidthCard : Claim7 := { stood := { row := fnExactFitWidthRow, standIns := [], harness := (true, "2ec3bed0ed8b07d1fe0baeb81d0f94748426c9710202f0a3b4fe43d85bc127ff"), looks := false }, kinds := [], alts := [], laidByText := true, laidKinds := [.data, .data, .pinned], laidTests := true, laidLooks := .later }
def FnExactFitWidthCardSaid : Prop := Claim7.holds Tryd.pinned (.plain (OpenSpec.ofChange fnExactFitWidthSpec)) fnExactFitWidthCard

/-- THE TIED CARD OF 'laws.FnExactPadRight'. -/
def fnExactPadRightCard : Claim7 := { stood := { row := fnExactPadRightRow, standIns := [], harness := (true, "2ec3bed0ed8b07d1fe0baeb81d0f94748426c9710202f0a3b4fe43d85bc127ff"), looks := false }, kinds := [], alts := [], laidByText := true, laidKinds := [.data, .data, .pinned], laidTests := true, laidLooks := .later }
def FnExactPadRightCardSaid : Prop := Claim7.holds Tryd.pinned (.plain (OpenSpec.ofChange fnExactPadRightSpec)) fnExactPadRightCard

/-- THE TIED CARD OF 'laws.FnExactPadLeft'. -/
def fnExactPadLeftCard : Claim7 := { stood := { row := fnExactPadLeftRow, standIns := [], harness := (true, "2ec3bed0ed8b07d1fe0baeb81d0f94748426c9710202f0a3b4fe43d85bc127ff"), looks := false }, kinds := [], alts := [], laidByText := true, laidKinds := [.data, .data, .pinned], laidTests := true, laidLooks := .later }
def FnExactPadLeftCardSaid : Prop := Claim7.holds Tryd.pinned (.plain (OpenSpec.ofChange fnExactPadLeftSpec)) fnExactPadLeftCard

/-- THE TIED CARD OF 'laws.FnExactPadBoth'. -/
def fnExactPadBothCard : Claim7 := { stood := { row := fnExactPadBothRow, standIns := [], harness := (true, "2ec3bed0ed8b07d1fe0baeb81d0f94748426c9710202f0a3b4fe43d85bc127ff"), looks := false }, kinds := [], alts := [], laidByText := true, laidKinds := [.data, .data, .pinned], laidTests := true, laidLooks := .later }
def FnExactPadBothCardSaid : Prop := Claim7.holds Tryd.pinned (.plain (OpenSpec.ofChange fnExactPadBothSpec)) fnExactPadBothCard

/-- THE SECOND FORM's CARD OF 'laws.FnWidths'. -/
def fnWidthsUptoCard : Claim7 := { stood := { row := fnWidthsUptoRow, standIns := [], harness := (true, "2ec3bed0ed8b07d1fe0baeb81d0f94748426c9710202f0a3b4fe43d85bc127ff"), looks := false }, kinds := [], alts := [], laidByText := true, laidKinds := [.data, .data, .pinned], laidTests := true, laidLooks := .later }
def FnWidthsUptoCardSaid : Prop := Claim7.holds Tryd.pinned (.plain (OpenSpec.upto fnWidthsSpec)) fnWidthsUptoCard

/-- THE SECOND FORM's CARD OF 'laws.FnExactRuneWidth'. -/
def fnExactRuneWidthUptoCard : Claim7 := { stood := { row := fnExactRuneWidthUptoRow, standIns := [], harness := (true, "2ec3bed0ed8b07d1fe0baeb81d0f94748426c9710202f0a3b4fe43d85bc127ff"), looks := false }, kinds := [], alts := [], laidByText := true, laidKinds := [.data], laidTests := true, laidLooks := .later }
def FnExactRuneWidthUptoCardSaid : Prop := Claim7.holds Tryd.pinned (.plain (OpenSpec.upto fnExactRuneWidthSpec)) fnExactRuneWidthUptoCard

/-- THE SECOND FORM's CARD OF 'laws.FnExactTextWidth'. -/
def fnExactTextWidthUptoCard : Claim7 := { stood := { row := fnExactTextWidthUptoRow, standIns := [], harness := (true, "2ec3bed0ed8b07d1fe0baeb81d0f94748426c9710202f0a3b4fe43d85bc127ff"), looks := false }, kinds := [], alts := [], laidByText := true, laidKinds := [.data, .data, .pinned], laidTests := true, laidLooks := .later }
def FnExactTextWidthUptoCardSaid : Prop := Claim7.holds Tryd.pinned (.plain (OpenSpec.upto fnExactTextWidthSpec)) fnExactTextWidthUptoCard

/-- THE SECOND FORM's CARD OF 'laws.FnExactFitWidth'. -/
def fnExactFitWidthUptoCard : Claim7 := { stood := { row := fnExactFitWidthUptoRow, standIns := [], harness := (true, "2ec3bed0ed8b07d1fe0baeb81d0f94748426c9710202f0a3b4fe43d85bc127ff"), looks := false }, kinds := [], alts := [], laidByText := true, laidKinds := [.data, .data, .pinned], laidTests := true, laidLooks := .later }
def FnExactFitWidthUptoCardSaid : Prop := Claim7.holds Tryd.pinned (.plain (OpenSpec.upto fnExactFitWidthSpec)) fnExactFitWidthUptoCard

/-- THE SECOND FORM's CARD OF 'laws.FnExactPadRight'. -/
def fnExactPadRightUptoCard : Claim7 := { stood := { row := fnExactPadRightUptoRow, standIns := [], harness := (true, "2ec3bed0ed8b07d1fe0baeb81d0f94748426c9710202f0a3b4fe43d85bc127ff"), looks := false }, kinds := [], alts := [], laidByText := true, laidKinds := [.data, .data, .pinned], laidTests := true, laidLooks := .later }
def FnExactPadRightUptoCardSaid : Prop := Claim7.holds Tryd.pinned (.plain (OpenSpec.upto fnExactPadRightSpec)) fnExactPadRightUptoCard

/-- THE SECOND FORM's CARD OF 'laws.FnExactPadLeft'. -/
def fnExactPadLeftUptoCard : Claim7 := { stood := { row := fnExactPadLeftUptoRow, standIns := [], harness := (true, "2ec3bed0ed8b07d1fe0baeb81d0f94748426c9710202f0a3b4fe43d85bc127ff"), looks := false }, kinds := [], alts := [], laidByText := true, laidKinds := [.data, .data, .pinned], laidTests := true, laidLooks := .later }
def FnExactPadLeftUptoCardSaid : Prop := Claim7.holds Tryd.pinned (.plain (OpenSpec.upto fnExactPadLeftSpec)) fnExactPadLeftUptoCard

/-- THE SECOND FORM's CARD OF 'laws.FnExactPadBoth'. -/
def fnExactPadBothUptoCard : Claim7 := { stood := { row := fnExactPadBothUptoRow, standIns := [], harness := (true, "2ec3bed0ed8b07d1fe0baeb81d0f94748426c9710202f0a3b4fe43d85bc127ff"), looks := false }, kinds := [], alts := [], laidByText := true, laidKinds := [.data, .data, .pinned], laidTests := true, laidLooks := .later }
def FnExactPadBothUptoCardSaid : Prop := Claim7.holds Tryd.pinned (.plain (OpenSpec.upto fnExactPadBothSpec)) fnExactPadBothUptoCard
end Rows
end Go.Proofs.YtijclaocmnkncaaDoor
