/- Widths by blocks: plain words. No walk. A table is a function of the line. -/
import Derived.Test.YtooanejiadbngaaGreatDoorBlkL
namespace Go.Proofs.YtooanejiadbngaaGreatDoor
open Go.RowKit
set_option linter.unusedVariables false

/-- The cells of the first rows. -/
def sumF (f : Nat → List Int) : Nat → Nat
  | 0 => 0
  | j + 1 => sumF f j + (f j).length
theorem sumF_mono (f : Nat → List Int) (i j : Nat) (h : i ≤ j) : sumF f i ≤ sumF f j := by
  induction j with
  | zero => obtain rfl : i = 0 := by omega
            exact Nat.le_refl _
  | succ j ih =>
    rcases Nat.lt_or_ge i (j + 1) with h1 | h1
    · exact Nat.le_trans (ih (by omega)) (Nat.le_add_right _ _)
    · obtain rfl : i = j + 1 := by omega
      exact Nat.le_refl _
def widF0 (ls : List Ln) (i : Nat) : List Int := List.replicate (cellsN ls i) 0
/-- The block's width laid into its column, from its first line to (not with) line r. -/
def fillTo (f : Nat → List Int) (b : Bk) (r : Int) (i : Nat) : List Int := if b.frm ≤ (i : Int) ∧ (i : Int) < r then (f i).set b.col.toNat b.wid else f i
def fillF (f : Nat → List Int) (b : Bk) : Nat → List Int := fillTo f b b.to
def widB (ls : List Ln) (l : List Bk) : Nat → List Int := l.foldl fillF (widF0 ls)
def widN (c : Cfg) (ls : List Ln) : Nat := if (fitsB ls && validC c) = true then ls.length else 0
def widF (c : Cfg) (ls : List Ln) : Nat → List Int := widB ls (bksL c ls)
theorem fillTo_len (f : Nat → List Int) (b : Bk) (r : Int) (i : Nat) : (fillTo f b r i).length = (f i).length := by
  unfold fillTo; split
  · exact List.length_set
  · rfl
theorem widB_len (ls : List Ln) (l : List Bk) (i : Nat) : (widB ls l i).length = cellsN ls i := by
  unfold widB
  have key : ∀ (l : List Bk) (f : Nat → List Int), (l.foldl fillF f i).length = (f i).length := by
    intro l
    induction l with
    | nil => intro f; rfl
    | cons b r ih => intro f; rw [List.foldl_cons, ih]; exact fillTo_len f b b.to i
  rw [key]
  exact List.length_replicate
theorem widB_zero (ls : List Ln) : widB ls [] = widF0 ls := rfl
theorem widB_take (ls : List Ln) (l : List Bk) (k : Nat) (h : k < l.length) : widB ls (l.take (k + 1)) = fillF (widB ls (l.take k)) l[k] := by
  unfold widB
  rw [List.take_succ_eq_append_getElem h, List.foldl_append]
  rfl
theorem fillTo_start (f : Nat → List Int) (b : Bk) : fillTo f b b.frm = f := by
  funext i; unfold fillTo; split
  · omega
  · rfl
theorem fillTo_here (f : Nat → List Int) (b : Bk) (r : Nat) : fillTo f b r r = f r := by
  unfold fillTo; split
  · omega
  · rfl
theorem fillTo_step (f : Nat → List Int) (b : Bk) (r : Nat) (h : b.frm ≤ (r : Int)) (i : Nat) : fillTo f b ((r + 1 : Nat) : Int) i = if i = r then (f r).set b.col.toNat b.wid else fillTo f b r i := by
  unfold fillTo
  by_cases hi : i = r
  · subst hi
    rw [if_pos (by omega), if_pos rfl]
  · rw [if_neg hi]
    by_cases hj : b.frm ≤ (i : Int) ∧ (i : Int) < (r : Int)
    · rw [if_pos hj, if_pos (by omega)]
    · rw [if_neg hj, if_neg (by omega)]
theorem rlen_cells (k : Nat) : ∀ (ls : List Ln) (j : Nat), j < rlen k ls → k < cellsN ls j
  | [], j, h => by simp [rlen] at h
  | l :: t, j, h => by
    rw [rlen] at h
    split at h
    · rename_i hk
      cases j with
      | zero => exact hk
      | succ j =>
        split at h
        · omega
        · have := rlen_cells k t j (by omega)
          exact this
    · omega
/-- A block that lies within the lines. -/
def GoodB (ls : List Ln) (b : Bk) : Prop := ∃ k i t : Nat, b.col = (k : Int) ∧ b.frm = (i : Int) ∧ b.to = (t : Int) ∧ i ≤ t ∧ t ≤ ls.length ∧ ∀ j, i ≤ j → j < t → k < cellsN ls j
theorem blkOf_good (c : Cfg) (ls : List Ln) (i k : Nat) (hi : i ≤ ls.length) : GoodB ls (blkOf c ls i k) := by
  refine ⟨k, i, i + rlen k (ls.drop i), rfl, rfl, rfl, by omega, ?_, fun j h1 h2 => ?_⟩
  · have := rlen_le k (ls.drop i)
    rw [List.length_drop] at this
    omega
  · have h := rlen_cells k (ls.drop i) (j - i) (by omega)
    unfold cellsN at h ⊢
    rw [List.getElem?_drop, show i + (j - i) = j by omega] at h
    exact h
theorem bksL_good (c : Cfg) (ls : List Ln) (b : Bk) (h : b ∈ bksL c ls) : GoodB ls b := by
  unfold bksL lineBks at h
  obtain ⟨i, hi, hb⟩ := List.mem_flatMap.1 h
  unfold colBks at hb
  obtain ⟨k, _, rfl⟩ := List.mem_map.1 hb
  exact blkOf_good c ls i k (by have := List.mem_range.1 hi; omega)
theorem totL_two (a b : List Ln) : totL (a ++ b) = totL a + totL b := by
  induction a with
  | nil => simp [totL]
  | cons x r ih => simp only [List.cons_append, totL, ih]; omega
theorem sumF_le (f : Nat → List Int) (ls : List Ln) (hf : ∀ i, (f i).length = cellsN ls i) : ∀ n, n ≤ ls.length → sumF f n ≤ totL (ls.take n)
  | 0, _ => Nat.zero_le _
  | n + 1, h => by
    have ih := sumF_le f ls hf n (by omega)
    have hn : n < ls.length := by omega
    rw [List.take_succ_eq_append_getElem hn, totL_two]
    show sumF f n + (f n).length ≤ _
    rw [hf n, cellsN_lt ls n hn]
    simp only [totL]
    omega
theorem widN_len (c : Cfg) (ls : List Ln) : widN c ls ≤ ls.length := by
  unfold widN; split
  · exact Nat.le_refl _
  · exact Nat.zero_le _
theorem cellsN_le (ls : List Ln) (i : Nat) : cellsN ls i ≤ totL ls := by
  by_cases h : i < ls.length
  · rw [cellsN_lt ls i h]
    have := totL_mem ls _ (List.getElem_mem h)
    omega
  · rw [cellsN_out ls i h]; exact Nat.zero_le _
theorem widF_len (c : Cfg) (ls : List Ln) (i : Nat) : (widF c ls i).length ≤ totL ls := by
  unfold widF; rw [widB_len]; exact cellsN_le ls i
theorem widS_len (c : Cfg) (ls : List Ln) : sumF (widF c ls) (widN c ls) ≤ totL ls := by
  have h1 := sumF_le (widF c ls) ls (fun i => widB_len ls _ i) (widN c ls) (widN_len c ls)
  have h2 : totL (ls.take (widN c ls)) + totL (ls.drop (widN c ls)) = totL ls := by rw [← totL_two, List.take_append_drop]
  omega
end Go.Proofs.YtooanejiadbngaaGreatDoor
