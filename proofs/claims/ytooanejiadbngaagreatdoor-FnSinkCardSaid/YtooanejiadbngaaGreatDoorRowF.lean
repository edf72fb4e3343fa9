/- A row of a table of integers. No walk. -/
import Derived.Test.YtooanejiadbngaaGreatDoorOwnF
namespace Go.Proofs.YtooanejiadbngaaGreatDoor
open Go.RowKit
set_option linter.unusedVariables false

/-- A row of a table. -/
theorem OwnF.row {W : World} {base top : Nat} {v : Value} {n : Nat} {f : Nat → List Int} (h : OwnF W base top v n f) (i : Nat) (hi : i < n) :
    ∃ go co u, v = .slice (some ⟨go, 0, none⟩) n co ∧ W.cell? ⟨go, i, none⟩ = some u ∧ go < W.heap.size ∧ Rd W u (ints (f i)) := by
  obtain ⟨vs, a, b, c, d⟩ := h
  have hvl : vs.length = n := own_len a
  obtain ⟨u, hu⟩ : ∃ u, vs[i]? = some u := ⟨_, List.getElem?_eq_getElem (by omega)⟩
  have ha := a
  rcases a.2 with ⟨_, hn⟩ | ⟨go, co, cur, rfl, _, hh0, _⟩
  · omega
  exact ⟨go, co, u, rfl, (ha.cellAt i (by omega)).trans hu, (Array.getElem?_eq_some_iff.1 hh0).1, Rd.of_own (c i u hu).1⟩
end Go.Proofs.YtooanejiadbngaaGreatDoor
