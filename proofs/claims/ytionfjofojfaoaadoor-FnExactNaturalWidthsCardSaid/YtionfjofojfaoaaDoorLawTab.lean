/- The exact laws on IsCellText, TableCode, IsTable, over the program's own. -/
import Derived.Test.YtionfjofojfaoaaDoorImplTab
import Derived.Test.YtionfjofojfaoaaDoorOpenTab
namespace Go.Proofs.YtionfjofojfaoaaDoor
open Go.RowKit
set_option linter.unusedVariables false

theorem own_slc {W : World} {base top n : Nat} {v : Value} {f : Nat → List ByteArray} (h : OwnT W base top v n f) : (v = .slice none 0 0 ∧ n = 0) ∨ ∃ g o c, v = .slice (some ⟨g, o, none⟩) n c := by
  obtain ⟨vs, a, _⟩ := h
  rcases a.2 with ⟨rfl, rfl⟩ | ⟨g, cap, cur, rfl, _⟩
  · exact .inl ⟨rfl, rfl⟩
  · exact .inr ⟨g, 0, cap, rfl⟩
end Go.Proofs.YtionfjofojfaoaaDoor
