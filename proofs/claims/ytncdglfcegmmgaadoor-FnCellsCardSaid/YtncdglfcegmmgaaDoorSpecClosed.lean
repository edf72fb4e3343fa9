/- ClosedLength: the model's. -/
import Derived.Test.YtncdglfcegmmgaaDoorLay
import Derived.Test.YtncdglfcegmmgaaDoorSpecCfg
namespace Go.Proofs.YtncdglfcegmmgaaDoor
open Go.RowKit
set_option linter.unusedVariables false

/-- What ClosedLength answers. -/
def closedB (c : Cfg) (s : ByteArray) : Int := if validC c = true then (lc c.fe s.data.toList false false : Int) else 0
theorem closedB_no {c : Cfg} (s : ByteArray) (h : validC c = false) : closedB c s = 0 := if_neg (by rw [h]; decide)
theorem closedB_yes {c : Cfg} (s : ByteArray) (h : validC c = true) : closedB c s = (lc c.fe s.data.toList false false : Int) := if_pos h
theorem drop_cons (s : ByteArray) (k : Nat) (h : k < s.size) : s.data.toList.drop k = s[k] :: s.data.toList.drop (k + 1) := List.drop_eq_getElem_cons (l := s.data.toList) h
theorem byte_yes {x : UInt8} {n : Nat} (hn : n < 256) (h : x = UInt8.ofNat n) : ((x.toNat : Int) == (n : Int)) = true := by
  subst h
  rw [UInt8.toNat_ofNat']
  simp
  omega
theorem byte_no {x : UInt8} {n : Nat} (hn : n < 256) (h : x ≠ UInt8.ofNat n) : ((x.toNat : Int) == (n : Int)) = false := by
  have : x.toNat ≠ n := fun e => h (UInt8.toNat_inj.1 (by rw [e, UInt8.toNat_ofNat']; omega))
  simp; omega
/-- The loop's value from index k on. -/
def lcAt (esc : Bool) (s : ByteArray) (k : Nat) (raw cs : Bool) (best : Nat) : Nat := lcGo esc (s.data.toList.drop k) raw cs k best
theorem lcAt_zero (esc : Bool) (s : ByteArray) : lcAt esc s 0 false false 0 = lc esc s.data.toList false false := by
  unfold lcAt
  rw [List.drop_zero, lcGo_eq]
  split
  · next h => exact h.symm
  · omega
theorem lcAt_end (esc : Bool) (s : ByteArray) (k : Nat) (raw cs : Bool) (best : Nat) (h : ¬ k < s.size) : lcAt esc s k raw cs best = best := by
  unfold lcAt
  rw [List.drop_of_length_le (by rw [bytes_length]; omega)]; rfl
theorem lcAt_esc (s : ByteArray) (k : Nat) (raw cs : Bool) (best : Nat) (h : k < s.size) (hx : s[k] = 255) : lcAt true s k raw cs best = lcAt true s (k + 1) (!raw) cs best := by
  unfold lcAt
  rw [drop_cons s k h, lcGo, if_pos (by simp [hx])]
theorem lcAt_tab (esc : Bool) (s : ByteArray) (k : Nat) (cs : Bool) (best : Nat) (h : k < s.size) (hx : s[k] = 9) : lcAt esc s k false cs best = lcAt esc s (k + 1) false true best := by
  unfold lcAt
  rw [drop_cons s k h, lcGo, if_neg (by simp [hx]), if_pos (by simp [hx])]
theorem lcAt_end10 (esc : Bool) (s : ByteArray) (k : Nat) (cs : Bool) (best : Nat) (h : k < s.size) (hx : s[k] = 10) : lcAt esc s k false cs best = lcAt esc s (k + 1) false false (if cs = true then best else k + 1) := by
  unfold lcAt
  rw [drop_cons s k h, lcGo, if_neg (by simp [hx]), if_neg (by simp [hx]), if_pos (by simp [hx])]
  cases cs <;> simp [hx]
theorem lcAt_end12 (esc : Bool) (s : ByteArray) (k : Nat) (cs : Bool) (best : Nat) (h : k < s.size) (hx : s[k] = 12) : lcAt esc s k false cs best = lcAt esc s (k + 1) false false (k + 1) := by
  unfold lcAt
  rw [drop_cons s k h, lcGo, if_neg (by simp [hx]), if_neg (by simp [hx]), if_pos (by simp [hx])]
  cases cs <;> simp [hx]
theorem lcAt_raw (esc : Bool) (s : ByteArray) (k : Nat) (cs : Bool) (best : Nat) (h : k < s.size) (hx : esc = false ∨ s[k] ≠ 255) : lcAt esc s k true cs best = lcAt esc s (k + 1) true cs best := by
  unfold lcAt
  rw [drop_cons s k h, lcGo, if_neg (by rcases hx with h | h <;> simp [h]), if_neg (by simp), if_neg (by simp)]
theorem lcAt_else (esc : Bool) (s : ByteArray) (k : Nat) (cs : Bool) (best : Nat) (h : k < s.size) (hx : esc = false ∨ s[k] ≠ 255) (h9 : s[k] ≠ 9) (h10 : s[k] ≠ 10) (h12 : s[k] ≠ 12) : lcAt esc s k false cs best = lcAt esc s (k + 1) false cs best := by
  unfold lcAt
  rw [drop_cons s k h, lcGo, if_neg (by rcases hx with h | h <;> simp [h]), if_neg (by simp [h9]), if_neg (by simp [h10, h12])]
end Go.Proofs.YtncdglfcegmmgaaDoor
