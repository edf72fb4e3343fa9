/- Display widths: plain words. No walk. -/
import Derived.Test.YtionfjofojfaoaaDoorChars
import Derived.Test.YtionfjofojfaoaaDoorSpecChars
namespace Go.Proofs.YtionfjofojfaoaaDoor
open Go.RowKit
set_option linter.unusedVariables false

/-- Is r in one of the ranges that a list of ends gives? -/
def inAny (r : Int) : List Int → Bool
  | a :: b :: t => inB r a b || inAny r t
  | _ => false
def zeroL : List Int := [0, 31, 127, 159, 768, 879, 1155, 1161, 8203, 8207, 8400, 8447, 65024, 65039, 65279, 65279]
def wideL : List Int := [4352, 4447, 11904, 42191, 44032, 55203, 63744, 64255, 65280, 65376, 65504, 65510, 127744, 128591, 129280, 129535, 131072, 262141]
/-- The display width of a code. -/
def rw1 (r : Int) : Nat := if inAny r zeroL = true then 0 else if inAny r wideL = true then 2 else 1
theorem rw1_le (r : Int) : rw1 r ≤ 2 := by unfold rw1; (repeat' split) <;> omega
theorem inAny_yes (r : Int) (xs : List Int) (j : Nat) (h : j + 1 < xs.length) (hi : inB r xs[j] xs[j + 1] = true) : inAny r (xs.drop j) = true := by
  rw [List.drop_eq_getElem_cons (by omega), List.drop_eq_getElem_cons h, inAny, hi]; rfl
theorem inAny_no (r : Int) (xs : List Int) (j : Nat) (h : j + 1 < xs.length) (hi : inB r xs[j] xs[j + 1] = false) : inAny r (xs.drop j) = inAny r (xs.drop (j + 2)) := by
  rw [List.drop_eq_getElem_cons (by omega), List.drop_eq_getElem_cons h, inAny, hi]; rfl
theorem inAny_end (r : Int) (xs : List Int) (j : Nat) (h : ¬ j + 1 < xs.length) : inAny r (xs.drop j) = false := by
  have hl : (xs.drop j).length ≤ 1 := by rw [List.length_drop]; omega
  match hx : xs.drop j, hl with
  | [], _ => rfl
  | [a], _ => rfl
  | a :: b :: t, hl => simp at hl

/-- The width of a list of codes, and of a text. -/
def widthL (L : List Int) : Nat := (L.map rw1).sum
def textW (s : ByteArray) : Nat := widthL (runesB s)
theorem widthL_take (L : List Int) (k : Nat) (h : k < L.length) : widthL (L.take (k + 1)) = widthL (L.take k) + rw1 L[k] := by
  unfold widthL
  rw [List.take_succ_eq_append_getElem h, List.map_append, List.sum_append]
  simp
theorem widthL_whole (L : List Int) (k : Nat) (h : ¬ k < L.length) : widthL (L.take k) = widthL L := by
  rw [List.take_of_length_le (by omega)]
theorem widthL_le (L : List Int) : widthL L ≤ 2 * L.length := by
  induction L with
  | nil => exact Nat.le_refl _
  | cons a t ih =>
    have := rw1_le a
    simp only [widthL, List.map_cons, List.sum_cons, List.length_cons] at ih ⊢
    omega
theorem widthL_take_le (L : List Int) (k : Nat) : widthL (L.take k) ≤ 2 * L.length := by
  have h := widthL_le (L.take k)
  rw [List.length_take] at h
  omega
theorem textW_le (s : ByteArray) : textW s ≤ 2 * s.size := by
  have := widthL_le (runesB s)
  have := runesB_length s
  unfold textW
  omega

/-- Where the beginning ends that fits, from index i on, where sum columns are filled. -/
def fitFrom (s : ByteArray) (n : Nat) (i sum : Nat) : Nat :=
  if h : i < s.size then (if n < sum + rw1 (ch s i).1 then i else fitFrom s n (i + (ch s i).2) (sum + rw1 (ch s i).1)) else i
termination_by s.size - i
decreasing_by have := (ch_len s i h).1; omega
theorem fit_stop (s : ByteArray) (n i sum : Nat) (h : i < s.size) (hn : n < sum + rw1 (ch s i).1) : fitFrom s n i sum = i := by rw [fitFrom, dif_pos h, if_pos hn]
theorem fit_go (s : ByteArray) (n i sum : Nat) (h : i < s.size) (hn : ¬ n < sum + rw1 (ch s i).1) : fitFrom s n i sum = fitFrom s n (i + (ch s i).2) (sum + rw1 (ch s i).1) := by rw [fitFrom, dif_pos h, if_neg hn]
theorem fit_end (s : ByteArray) (n i sum : Nat) (h : ¬ i < s.size) : fitFrom s n i sum = i := by rw [fitFrom, dif_neg h]
/-- What FitWidth answers. -/
def fitB (s : ByteArray) (n : Int) : ByteArray := if n < 0 then ⟨#[]⟩ else s.extract 0 (fitFrom s n.toNat 0 0)

/-- k spaces. -/
def spaces (k : Nat) : ByteArray := ⟨(List.replicate k (32 : UInt8)).toArray⟩
theorem spaces_size (k : Nat) : (spaces k).size = k := by
  show (List.replicate k (32 : UInt8)).toArray.size = k
  simp
/-- How many spaces are wanted. -/
def roomB (s : ByteArray) (n : Int) : Nat := if 100000 < n ∨ n < 0 then 0 else (n - (textW s : Int)).toNat
theorem roomB_le (s : ByteArray) (n : Int) : roomB s n ≤ 100000 := by unfold roomB; split <;> omega
def padR (s : ByteArray) (n : Int) : ByteArray := s ++ spaces (roomB s n)
def padL (s : ByteArray) (n : Int) : ByteArray := spaces (roomB s n) ++ s
def padC (s : ByteArray) (n : Int) : ByteArray := spaces (roomB s n / 2) ++ s ++ spaces (roomB s n - roomB s n / 2)
end Go.Proofs.YtionfjofojfaoaaDoor
