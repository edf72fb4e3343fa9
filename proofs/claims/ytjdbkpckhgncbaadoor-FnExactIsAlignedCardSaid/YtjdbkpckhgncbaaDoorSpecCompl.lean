/- The model's CompleteLength. -/
import Derived.Test.YtjdbkpckhgncbaaDoorBA
import Derived.Test.YtjdbkpckhgncbaaDoorComplPre
namespace Go.Proofs.YtjdbkpckhgncbaaDoor
open Go.RowKit
set_option linter.unusedVariables false

/-- The first of the lengths k, k + 1, .. (f of them) at which the ending is a beginning is left out. -/
def complFrom (s : ByteArray) : Nat → Nat → Nat
  | 0, _ => s.size
  | f + 1, k => if k ≤ s.size then (if beginsB (s.extract (s.size - k) s.size) = true then s.size - k else complFrom s f (k + 1)) else s.size
/-- What CompleteLength answers. -/
def complB (s : ByteArray) : Nat := complFrom s 3 1
theorem tail_size (s : ByteArray) (k : Nat) (h : k ≤ s.size) : (s.extract (s.size - k) s.size).size = k := by
  rw [ByteArray.size_extract]; omega
theorem compl_yes (s : ByteArray) (f k : Nat) (h : k ≤ s.size) (hb : beginsB (s.extract (s.size - k) s.size) = true) : complFrom s (f + 1) k = s.size - k := by
  rw [complFrom, if_pos h, if_pos hb]
theorem compl_no (s : ByteArray) (f k : Nat) (h : k ≤ s.size) (hb : beginsB (s.extract (s.size - k) s.size) = false) : complFrom s (f + 1) k = complFrom s f (k + 1) := by
  rw [complFrom, if_pos h, if_neg (by rw [hb]; decide)]
theorem compl_end (s : ByteArray) (f k : Nat) (h : f = 0 ∨ ¬ k ≤ s.size) : complFrom s f k = s.size := by
  cases f with
  | zero => rfl
  | succ f => rw [complFrom, if_neg (by omega)]
theorem run_tail (s : ByteArray) (l : Int) (k : Nat) (hk : k ≤ s.size) (hl : l = (s.size : Int) - (k : Int)) (w : World) :
    (Instr.slice 9 (.string s) (some (.int .i64 l)) none none).run Tryd.prog w = .ok (.string (s.extract (s.size - k) s.size)) w := by
  subst hl
  rw [run_slice_string_l (P := Tryd.prog) (w := w) (t := 9) (s := s) (ht := Tryd.underlying9) .i64 _ (by omega) (by omega)]
  rw [show ((s.size : Int) - (k : Int)).toNat = s.size - k by omega]

theorem bnd_up (k x : Nat) (h1 : 1 ≤ k) (h : k < 4) (hx : x ≤ bndN k) : 64 * x + 63 ≤ bndN (k + 1) := by
  match k, h1, h, hx with
  | 1, _, _, hx => simp only [bndN] at *; omega
  | 2, _, _, hx => simp only [bndN] at *; omega
  | 3, _, _, hx => simp only [bndN] at *; omega
theorem lowE_step (d r : Nat) : lowE (d + 1) r = lowE d (64 * r) := rfl
theorem highE_step (d r : Nat) : highE (d + 1) r = highE d (64 * r + 63) := rfl
theorem leastN_le (n : Nat) : leastN n ≤ 65536 := by
  unfold leastN; (repeat' split) <;> omega
def endB (n d : Nat) : Option Nat → Bool
  | none => false
  | some r => rangeB n (lowE d r) (highE d r)
theorem rangeB_max (n lo hi lo' hi' : Nat) (h1 : lo' = max lo (leastN n)) (h2 : hi' = min hi 1114111) : rangeB n lo hi = (decide (lo' ≤ hi') && !(decide (55296 ≤ lo') && decide (hi' ≤ 57343))) := by
  subst h1; subst h2; rfl

end Go.Proofs.YtjdbkpckhgncbaaDoor
