/- The model's decoder gives the character at an index. -/
import Derived.Test.YtooanejiadbngaaDoorMem
import Derived.Test.YtooanejiadbngaaDoorChars
namespace Go.Proofs.YtooanejiadbngaaDoor
open Go.RowKit
set_option linter.unusedVariables false

/-- Is n from lo to hi? -/
def inB (n lo hi : Int) : Bool := decide (lo ≤ n) && decide (n ≤ hi)
theorem inB_yes {n lo hi : Int} (h : lo ≤ n ∧ n ≤ hi) : inB n lo hi = true := by unfold inB; rw [decide_eq_true h.1, decide_eq_true h.2]; rfl
theorem inB_no {n lo hi : Int} (h : ¬ (lo ≤ n ∧ n ≤ hi)) : inB n lo hi = false := by
  unfold inB; rw [← Bool.decide_and]; exact decide_eq_false h
end Go.Proofs.YtooanejiadbngaaDoor
