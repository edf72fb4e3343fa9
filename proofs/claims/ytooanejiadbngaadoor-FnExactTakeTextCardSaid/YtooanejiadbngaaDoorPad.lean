/- PadZeros: the model's and the program's give the same text. -/
import Derived.Test.YtooanejiadbngaaDoorShelf
import Derived.Lib.Repeat
import Derived.Lib.Join
import Derived.Test.YtooanejiadbngaaDoorPre
namespace Go.Proofs.YtooanejiadbngaaDoor
open Go.RowKit

/-- k zeros ahead of a text. -/
def zpad (k : Nat) (s : ByteArray) : ByteArray := ⟨(List.replicate k 48 ++ s.data.toList).toArray⟩
theorem zpad_size (k : Nat) (s : ByteArray) : (zpad k s).size = k + s.size := by
  show (List.replicate k 48 ++ s.data.toList).toArray.size = _
  simp
theorem zpad_zero (s : ByteArray) : zpad 0 s = s := by
  apply ByteArray.ext; simp [zpad]
theorem zpad_succ (k : Nat) (s : ByteArray) : ByteArray.mk #[48] ++ zpad k s = zpad (k + 1) s := by
  show ByteArray.mk [48].toArray ++ _ = _
  unfold zpad
  rw [ByteArray.mk_append_mk]; rfl

/-- What PadZeros gives. -/
def padB (s : ByteArray) (n : Int) : ByteArray := if 2000 < n then s else zpad (n.toNat - s.size) s

/-- The texts of a list, joined. -/
def joinB (xs : List ByteArray) (sep : ByteArray) : ByteArray := ⟨(Lib.join (xs.map (·.data.toList)) sep.data.toList).toArray⟩

theorem impljoinTexts (bk o c : Nat) (xs : List ByteArray) (sep : ByteArray) (w : World) (hcells : ∀ (j : Nat) x, xs[j]? = some x → w.cell? ⟨bk, o + j, none⟩ = some (.string x))
    (hbk : bk < w.heap.size) (hN : xs.length ≤ 140737488355328) (hcap : xs.length ≤ c) (hlen : (joinB xs sep).size ≤ 140737488355328) :
    Calls Tryd.prog 14 #[.string sep, .slice (some ⟨bk, o, none⟩) xs.length c] w fun e w' => e = .returned (.string (joinB xs sep)) ∧ Below w.heap.size w w' := by
  have hj := Tryd.strings_Join bk o c xs sep w hcells hbk hN hcap hlen
  have HJ := Lib.hid hj
  clear hj hcells hN hcap hlen
  go_enter Tryd.func14, Tryd.ntmps14
  go_wp2_with (go_at_call 19; refine HJ.out.mono ?_; rintro e w' ⟨rfl, hb⟩)
  go_ret
  exact ⟨rfl, by assumption⟩

theorem joinB_two (a b : ByteArray) : joinB [a, b] ⟨#[]⟩ = a ++ b := by
  apply ByteArray.ext
  simp [joinB, Lib.join, List.intercalate]
theorem zeros_append (k : Nat) (s : ByteArray) : (⟨(Lib.repeatL [48] k).toArray⟩ : ByteArray) ++ s = zpad k s := by
  have e : ∀ j, Lib.repeatL [48] j = List.replicate j 48 := by
    intro j
    induction j with
    | zero => rfl
    | succ j ih => show [48] ++ Lib.repeatL [48] j = _; rw [ih]; rfl
  apply ByteArray.ext
  simp [zpad, e]

end Go.Proofs.YtooanejiadbngaaDoor
