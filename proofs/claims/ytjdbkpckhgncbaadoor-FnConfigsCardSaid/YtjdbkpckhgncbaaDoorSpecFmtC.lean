/- The model's FormatConfig. -/
import Derived.Test.YtjdbkpckhgncbaaDoorBB
import Derived.Test.YtjdbkpckhgncbaaDoorSpecFmt
import Derived.Deep.RegionHeld3
namespace Go.Proofs.YtjdbkpckhgncbaaDoor
open Go.RowKit
set_option linter.unusedVariables false

theorem txt_add {P : Program} {w : World} (a b : ByteArray) (h : a.size + b.size ≤ 9223372036854775807) : (Op.stringOp .add a b).run P w = .ok (.string (a ++ b)) w :=
  run_string_add_sum _ _ _ h
/-- The text of one flag. -/
def flagT (b : Bool) (x : UInt8) : ByteArray := if b = true then ⟨#[x]⟩ else ⟨#[]⟩
theorem flagT_size (b : Bool) (x : UInt8) : (flagT b x).size ≤ 1 := by
  cases b with
  | true => exact Nat.le_refl 1
  | false => exact Nat.zero_le 1
theorem flags_sum (a b c d e : Bool) : flagT a 114 ++ flagT b 100 ++ flagT c 108 ++ flagT d 101 ++ flagT e 109 = ⟨(flags5 a b c d e).toArray⟩ := by
  cases a <;> cases b <;> cases c <;> cases d <;> cases e <;> rfl
theorem flags5_len (a b c d e : Bool) : (flags5 a b c d e).length ≤ 5 := by cases a <;> cases b <;> cases c <;> cases d <;> cases e <;> decide
/-- What stands behind the numbers. -/
def tailB (c : Cfg) : ByteArray := ⟨(tailL c).toArray⟩
theorem tailB_size (c : Cfg) : (tailB c).size ≤ 5 := by
  show (tailL c).toArray.size ≤ 5
  unfold tailL tail5
  split
  · decide
  · simpa using flags5_len _ _ _ _ _
def flagsB (c : Cfg) : ByteArray := ⟨(flagsL c).toArray⟩
theorem flagsB_size (c : Cfg) : (flagsB c).size ≤ 5 := by
  show (flagsL c).toArray.size ≤ 5
  simpa [flagsL] using flags5_len _ _ _ _ _
theorem flagsB_none {c : Cfg} (h : flagsB c = ⟨#[]⟩) : tailB c = ⟨#[45]⟩ := by
  have : flagsL c = [] := by
    have := congrArg (fun x : ByteArray => x.data.toList) h
    simpa [flagsB] using this
  show (⟨(tail5 c.fr c.fd c.fl c.fe c.fm).toArray⟩ : ByteArray) = _
  unfold tail5
  rw [if_pos (show flags5 c.fr c.fd c.fl c.fe c.fm = [] from this)]
theorem flagsB_some {c : Cfg} (h : flagsB c ≠ ⟨#[]⟩) : tailB c = flagsB c := by
  have : flagsL c ≠ [] := fun e => h (by unfold flagsB; rw [e])
  show (⟨(tail5 c.fr c.fd c.fl c.fe c.fm).toArray⟩ : ByteArray) = _
  unfold tail5
  rw [if_neg (show ¬ flags5 c.fr c.fd c.fl c.fe c.fm = [] from this)]; rfl
theorem fmt_sum (c : Cfg) (h : validC c = true) : fmtB c.cmin ++ ⟨#[44]⟩ ++ fmtB c.ctab ++ ⟨#[44]⟩ ++ fmtB c.cpadding ++ ⟨#[44]⟩ ++ fmtB c.cpad ++ ⟨#[32]⟩ ++ tailB c = fmtCB c := by
  rw [fmtCB_yes h]
  apply ByteArray.ext
  apply Array.ext'
  simp [fmtB, tailB, fmtL, numsL]
theorem str_eq_yes {x y : ByteArray} (h : x = y) : (x.toList == y.toList) = true := by subst h; simp
theorem str_eq_no {x y : ByteArray} (h : x ≠ y) : (x.toList == y.toList) = false := by
  have : x.toList ≠ y.toList := fun e => h (bytes_inj e)
  simp [this]
theorem empty_no {x : ByteArray} (h : x ≠ ⟨#[]⟩) : x.toList.isEmpty = false := by
  cases hx : x.toList with
  | nil => exact absurd (bytes_inj (hx.trans (by rw [ByteArray.toList_eq]))) h
  | cons a l => rfl
end Go.Proofs.YtjdbkpckhgncbaaDoor
