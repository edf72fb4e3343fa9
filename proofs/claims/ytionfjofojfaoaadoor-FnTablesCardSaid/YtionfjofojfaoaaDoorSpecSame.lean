/- The model's equality of texts, of rows and of tables. -/
import Derived.Test.YtionfjofojfaoaaDoorTabT
namespace Go.Proofs.YtionfjofojfaoaaDoor
open Go.RowKit
set_option linter.unusedVariables false

def eqR (f g : Nat → List ByteArray) : Nat → Bool
  | 0 => true
  | j + 1 => eqR f g j && decide (f j = g j)
theorem eqR_no (f g : Nat → List ByteArray) (n k : Nat) (hk : k < n) (h : f k ≠ g k) : eqR f g n = false := by
  induction n with
  | zero => omega
  | succ n ih =>
    rw [eqR]
    rcases Nat.lt_or_ge k n with h1 | h1
    · rw [ih h1]; rfl
    · obtain rfl : k = n := by omega
      rw [decide_eq_false h, Bool.and_false]
theorem eqR_step (f g : Nat → List ByteArray) (k : Nat) (h1 : eqR f g k = true) (h : f k = g k) : eqR f g (k + 1) = true := by
  rw [eqR, h1, decide_eq_true h]; rfl
def sameRows (n m : Nat) (f g : Nat → List ByteArray) : Bool := decide (n = m) && eqR f g n
def tabSame (h h' : List ByteArray) (n m : Nat) (f g : Nat → List ByteArray) : Bool := decide (h = h') && sameRows n m f g
end Go.Proofs.YtionfjofojfaoaaDoor
