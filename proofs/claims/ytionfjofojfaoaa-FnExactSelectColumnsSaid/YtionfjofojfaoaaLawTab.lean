/- The exact laws on IsCellText, TableCode, IsTable, over the program's own. -/
import Derived.Test.YtionfjofojfaoaaImplTab
import Derived.Test.YtionfjofojfaoaaOpenTab
namespace Go.Proofs.Ytionfjofojfaoaa
open Go.RowKit
set_option linter.unusedVariables false

theorem own_slc {W : World} {base top n : Nat} {v : Value} {f : Nat → List ByteArray} (h : OwnT W base top v n f) : (v = .slice none 0 0 ∧ n = 0) ∨ ∃ g o c, v = .slice (some ⟨g, o, none⟩) n c := by
  obtain ⟨vs, a, _⟩ := h
  rcases a.2 with ⟨rfl, rfl⟩ | ⟨g, cap, cur, rfl, _⟩
  · exact .inl ⟨rfl, rfl⟩
  · exact .inr ⟨g, 0, cap, rfl⟩
theorem law_FnExactIsCellText (s : ByteArray) (hs : s.size ≤ maxLen) (w : World) :
    Calls Try.prog 3 #[.string s] w fun e w' => e = .returned (.bool true) ∧ Below w.heap.size w w' :=
  isCellText_law w s hs (fun W _ hz => (implIsCellText s W hz).mono fun _ _ ⟨h1, h2⟩ => ⟨h1, by rw [h2]; exact Below.refl _ _⟩)
theorem law_FnExactTableCode (w : World) (hv rv : Value) (h : List ByteArray) (n : Nat) (f : Nat → List ByteArray) (hi : TabIn w hv rv h n f) :
    Calls Try.prog 4 #[.agg #[hv, rv]] w fun e w' => e = .returned (.bool true) ∧ Below w.heap.size w w' :=
  tableCode_law w h n f hv rv hi.1 hi.2.1 hi.2.2.1 hi.2.2.2.1 hi.2.2.2.2.1 (fun i _ => hi.2.2.2.2.2.1 i) hi.2.2.2.2.2.2
    (fun W b hv rv _ ho hz => specTableCode h n f hv rv W (Rd.of_own ho.head) ho.rows.rd (own_slc ho.rows) hz)
    (fun W b hv rv _ ho hz => implTableCode h n f hv rv W (Rd.of_own ho.head) ho.rows.rd (own_slc ho.rows) hz)
theorem law_FnExactIsTable (w : World) (hv rv : Value) (h : List ByteArray) (n : Nat) (f : Nat → List ByteArray) (hi : TabIn w hv rv h n f) :
    Calls Try.prog 5 #[.agg #[hv, rv]] w fun e w' => e = .returned (.bool true) ∧ Below w.heap.size w w' :=
  isTable_law w h n f hv rv hi.1 hi.2.1 hi.2.2.1 hi.2.2.2.1 hi.2.2.2.2.1 (fun i _ => hi.2.2.2.2.2.1 i) hi.2.2.2.2.2.2
    (fun W b hv rv _ ho hz => specIsTable h n f hv rv W (Rd.of_own ho.head) ho.rows.rd (own_slc ho.rows) hz)
    (fun W b hv rv _ ho hz => implIsTable h n f hv rv W (Rd.of_own ho.head) ho.rows.rd (own_slc ho.rows) hz)
end Go.Proofs.Ytionfjofojfaoaa
