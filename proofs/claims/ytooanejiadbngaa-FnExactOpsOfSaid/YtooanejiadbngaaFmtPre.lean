/- Plain lemmas on decimal texts. -/
import Derived.Lib.ItoaNum
import Derived.Lib.ItoaLen
import Derived.Test.YtooanejiadbngaaPre
namespace Go.Proofs.Ytooanejiadbngaa
open Go.RowKit Go.Lib

/-- What FormatInt gives. -/
def fmtB (n : Int) : ByteArray := ⟨(itoa n).toArray⟩
theorem decDigits_small {u : Nat} (h : u < 10) : decDigits u = [UInt8.ofNat (48 + u)] := decDigits_one h
theorem decDigits_big {u : Nat} (h : ¬ u < 10) : decDigits u = decDigits (u / 10) ++ [UInt8.ofNat (48 + u % 10)] := by rw [decDigits, dif_neg h]
theorem itoa_neg (m : Nat) (h : 0 < m) : itoa (-(m : Int)) = 45 :: decDigits m := by
  unfold itoa
  rw [if_pos (by omega)]
  congr 2
  omega
theorem itoa_nat (m : Nat) : itoa (m : Int) = decDigits m := by
  unfold itoa
  rw [if_neg (by omega)]
  congr 1
theorem fmtB_neg_small (m : Nat) (h0 : 0 < m) (h : m < 10) : fmtB (-(m : Int)) = ByteArray.mk [45, UInt8.ofNat (48 + m)].toArray := by
  unfold fmtB; rw [itoa_neg m h0, decDigits_small h]
theorem fmtB_neg_big (m : Nat) (h : ¬ m < 10) : fmtB (-(m : Int)) = fmtB (-((m / 10 : Nat) : Int)) ++ ByteArray.mk [UInt8.ofNat (48 + m % 10)].toArray := by
  unfold fmtB
  rw [itoa_neg m (by omega), itoa_neg (m / 10) (by omega), decDigits_big h, ByteArray.mk_append_mk]
  rfl
theorem fmtB_size (n : Int) (h0 : -9223372036854775808 ≤ n) (h1 : n ≤ 9223372036854775807) : (fmtB n).size ≤ 21 := by
  have := itoa_length_le n h0 h1
  exact this
theorem bytes_same {x y : ByteArray} (h : x.toList = y.toList) : x = y := by
  rw [ByteArray.toList_eq, ByteArray.toList_eq] at h
  exact ByteArray.ext (Array.ext' h)
theorem sne_no {x y : ByteArray} (h : x = y) : (!x.toList == y.toList) = false := by subst h; simp
theorem sne_yes {x y : ByteArray} (h : x ≠ y) : (!x.toList == y.toList) = true := by
  have : x.toList ≠ y.toList := fun e => h (bytes_same e)
  simp [this]
end Go.Proofs.Ytooanejiadbngaa
