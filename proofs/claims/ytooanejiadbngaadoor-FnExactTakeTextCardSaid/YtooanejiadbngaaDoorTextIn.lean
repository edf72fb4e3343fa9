/- Lists of texts that come in: how much they are, their copies. -/
import Derived.Test.YtooanejiadbngaaDoorMem
import Derived.Test.YtooanejiadbngaaDoorSplit
namespace Go.Proofs.YtooanejiadbngaaDoor
open Go.RowKit
set_option linter.unusedVariables false

/-- All the bytes of a list of texts. -/
def tot : List ByteArray → Nat
  | [] => 0
  | x :: r => x.size + tot r
theorem tot_take (xs : List ByteArray) : ∀ k, tot (xs.take k) ≤ tot xs := by
  induction xs with
  | nil => intro k; simp [tot]
  | cons x r ih =>
    intro k
    cases k with
    | zero => simp [tot]
    | succ k => have := ih k; simp only [List.take_succ_cons, tot]; omega
theorem tot_mem (xs : List ByteArray) (x : ByteArray) (h : x ∈ xs) : x.size ≤ tot xs := by
  induction xs with
  | nil => cases h
  | cons y r ih =>
    cases h with
    | head => simp only [tot]; omega
    | tail _ h => have := ih h; simp only [tot]; omega
/-- What szStringS gives. -/
def szGo : List ByteArray → Int → Int
  | [], l => l
  | x :: r, l => if l - x.size < 0 then -1 else szGo r (l - x.size)
def szL (xs : List ByteArray) (left : Int) : Int := if left - xs.length < 0 then -1 else szGo xs (left - xs.length)
theorem szGo_le (xs : List ByteArray) : ∀ l : Int, 0 ≤ szGo xs l → (tot xs : Int) ≤ l := by
  induction xs with
  | nil => intro l h; simpa [szGo, tot] using h
  | cons x r ih =>
    intro l h
    unfold szGo at h
    split at h
    · omega
    · have := ih _ h
      simp only [tot]
      omega
theorem szL_le (xs : List ByteArray) (l : Int) (h : 0 ≤ szL xs l) : (xs.length : Int) ≤ l ∧ (tot xs : Int) ≤ l := by
  unfold szL at h
  split at h
  · omega
  · have := szGo_le xs _ h
    omega

/-- j cells copied, the others as they were. -/
def copied (j : Nat) (xs ys : List Value) : List Value := xs.take j ++ ys.drop j
theorem copied_zero (xs ys : List Value) : copied 0 xs ys = ys := by simp [copied]
theorem copied_all (xs ys : List Value) (h : ys.length = xs.length) : copied xs.length xs ys = xs := by
  unfold copied
  rw [List.take_length, ← h, List.drop_length, List.append_nil]
theorem copied_step (j : Nat) (xs ys : List Value) (h : ys.length = xs.length) (hj : j < xs.length) : (copied j xs ys).set j xs[j] = copied (j + 1) xs ys := by
  unfold copied
  have hl : (xs.take j).length = j := by rw [List.length_take]; omega
  rw [List.set_append_right _ _ (by omega), hl, Nat.sub_self, List.drop_eq_getElem_cons (by omega), List.set_cons_zero, List.take_succ_eq_append_getElem hj, List.append_assoc]
  rfl

end Go.Proofs.YtooanejiadbngaaDoor
