/- Column blocks: plain words. No walk. -/
import Derived.Test.YtooanejiadbngaaGreatDoorBA
import Derived.Test.YtooanejiadbngaaGreatDoorBB
namespace Go.Proofs.YtooanejiadbngaaGreatDoor
open Go.RowKit
set_option linter.unusedVariables false

/-- A block: its column, the lines from and to, its width. -/
structure Bk where
  col : Int
  frm : Int
  to : Int
  wid : Int
/-- How many cells line i has; the byte that ends it. -/
def cellsN (ls : List Ln) (i : Nat) : Nat := match ls[i]? with | some l => l.cells.length | none => 0
def finN (ls : List Ln) (i : Nat) : Int := match ls[i]? with | some l => l.fin | none => 0
theorem cellsN_lt (ls : List Ln) (i : Nat) (h : i < ls.length) : cellsN ls i = ls[i].cells.length := by unfold cellsN; rw [List.getElem?_eq_getElem h]
theorem finN_lt (ls : List Ln) (i : Nat) (h : i < ls.length) : finN ls i = ls[i].fin := by unfold finN; rw [List.getElem?_eq_getElem h]
theorem cellsN_out (ls : List Ln) (i : Nat) (h : ¬ i < ls.length) : cellsN ls i = 0 := by unfold cellsN; rw [List.getElem?_eq_none (by omega)]
/-- Does a block of column k begin at line i? -/
def begB (ls : List Ln) (i k : Nat) : Bool := decide (k < cellsN ls i) && (decide (i = 0) || decide (cellsN ls (i - 1) ≤ k) || decide (finN ls (i - 1) = 12))
/-- The block of column k that begins at line i. -/
def blkOf (c : Cfg) (ls : List Ln) (i k : Nat) : Bk := ⟨(k : Int), (i : Int), ((i + rlen k (ls.drop i) : Nat) : Int), blockW c (rmax k (ls.drop i))⟩
/-- .. of the first n columns; of the first n lines. -/
def colBks (c : Cfg) (ls : List Ln) (i n : Nat) : List Bk := ((List.range n).filter (begB ls i)).map (blkOf c ls i)
def lineBks (c : Cfg) (ls : List Ln) (n : Nat) : List Bk := (List.range n).flatMap fun i => colBks c ls i (cellsN ls i)
/-- All blocks. -/
def bksL (c : Cfg) (ls : List Ln) : List Bk := lineBks c ls ls.length
theorem colBks_zero (c : Cfg) (ls : List Ln) (i : Nat) : colBks c ls i 0 = [] := rfl
theorem colBks_yes (c : Cfg) (ls : List Ln) (i k : Nat) (h : begB ls i k = true) : colBks c ls i (k + 1) = colBks c ls i k ++ [blkOf c ls i k] := by
  unfold colBks; rw [List.range_succ, List.filter_append, List.map_append]; simp [h]
theorem colBks_no (c : Cfg) (ls : List Ln) (i k : Nat) (h : begB ls i k = false) : colBks c ls i (k + 1) = colBks c ls i k := by
  unfold colBks; rw [List.range_succ, List.filter_append, List.map_append]; simp [h]
theorem lineBks_succ (c : Cfg) (ls : List Ln) (n : Nat) : lineBks c ls (n + 1) = lineBks c ls n ++ colBks c ls n (cellsN ls n) := by
  unfold lineBks; rw [List.range_succ, List.flatMap_append]; simp
theorem colBks_len (c : Cfg) (ls : List Ln) (i n : Nat) : (colBks c ls i n).length ≤ n := by
  unfold colBks
  rw [List.length_map]
  exact Nat.le_trans (List.length_filter_le _ _) (by rw [List.length_range]; exact Nat.le_refl _)
theorem lineBks_len (c : Cfg) (ls : List Ln) (n : Nat) (h : n ≤ ls.length) : (lineBks c ls n).length ≤ totL (ls.take n) := by
  induction n with
  | zero => exact Nat.zero_le _
  | succ n ih =>
    rw [lineBks_succ, List.length_append, List.take_succ_eq_append_getElem (by omega)]
    have h1 := ih (by omega)
    have h2 := colBks_len c ls n (cellsN ls n)
    rw [cellsN_lt ls n (by omega)] at h2 ⊢
    have h3 : totL (ls.take n ++ [ls[n]]) = totL (ls.take n) + (ls[n].cells.length + totC ls[n].cells + ls[n].tail.txt.size) := by
      generalize ls.take n = a
      induction a with
      | nil => simp [totL]
      | cons x r ihr => simp only [List.cons_append, totL, ihr]; omega
    omega
/-- Are all widths from 0 to 100000? -/
def fitsC (l : List Cel) : Bool := l.all fun x => decide (0 ≤ x.wid) && decide (x.wid ≤ 100000)
def fitsB (ls : List Ln) : Bool := ls.all fun l => fitsC l.cells
/-- What BlocksOf answers. -/
def bksB (c : Cfg) (ls : List Ln) : List Bk := if (fitsB ls && validC c) = true then bksL c ls else []
theorem bksB_yes {c : Cfg} {ls : List Ln} (h1 : fitsB ls = true) (h2 : validC c = true) : bksB c ls = bksL c ls := if_pos (by rw [h1, h2]; rfl)
theorem bksB_no {c : Cfg} {ls : List Ln} (h : fitsB ls = false ∨ validC c = false) : bksB c ls = [] := if_neg (by rcases h with h | h <;> rw [h] <;> simp)
theorem fitsC_take (l : List Cel) (k : Nat) (h : k < l.length) : fitsC (l.take (k + 1)) = (fitsC (l.take k) && (decide (0 ≤ l[k].wid) && decide (l[k].wid ≤ 100000))) := by
  unfold fitsC; rw [List.take_succ_eq_append_getElem h, List.all_append]; simp
theorem fitsB_take (ls : List Ln) (k : Nat) (h : k < ls.length) : fitsB (ls.take (k + 1)) = (fitsB (ls.take k) && fitsC ls[k].cells) := by
  unfold fitsB; rw [List.take_succ_eq_append_getElem h, List.all_append]; simp
theorem fitsC_bad (l : List Cel) (k : Nat) (h : k < l.length) (hb : ¬ (0 ≤ l[k].wid ∧ l[k].wid ≤ 100000)) : fitsC l = false := by
  unfold fitsC
  rw [List.all_eq_false]
  exact ⟨l[k], List.getElem_mem h, by simpa [Bool.and_eq_true, decide_eq_true_eq] using hb⟩
theorem fitsB_bad (ls : List Ln) (k : Nat) (h : k < ls.length) (hb : fitsC ls[k].cells = false) : fitsB ls = false := by
  unfold fitsB
  rw [List.all_eq_false]
  exact ⟨ls[k], List.getElem_mem h, by rw [hb]; decide⟩
theorem fitsB_wid {ls : List Ln} (h : fitsB ls = true) (i : Nat) (hi : i < ls.length) (k : Nat) (hk : k < ls[i].cells.length) : 0 ≤ ls[i].cells[k].wid ∧ ls[i].cells[k].wid ≤ 100000 := by
  unfold fitsB at h
  rw [List.all_eq_true] at h
  have h1 := h ls[i] (List.getElem_mem hi)
  unfold fitsC at h1
  rw [List.all_eq_true] at h1
  simpa using h1 _ (List.getElem_mem hk)
/-! ### a run of lines, walked from its head -/
/-- Does the run go on at its line j? -/
def goOn (ls : List Ln) (i j : Nat) : Bool := decide (j = 0) || decide (finN ls (i + j - 1) ≠ 12)
def runRest (ls : List Ln) (i k j : Nat) : Nat := if goOn ls i j = true then rlen k (ls.drop (i + j)) else 0
def maxRest (ls : List Ln) (i k j : Nat) : Int := if goOn ls i j = true then rmax k (ls.drop (i + j)) else 0
theorem runRest_zero (ls : List Ln) (i k : Nat) : runRest ls i k 0 = rlen k (ls.drop i) := if_pos rfl
theorem maxRest_zero (ls : List Ln) (i k : Nat) : maxRest ls i k 0 = rmax k (ls.drop i) := if_pos rfl
theorem goOn_succ (ls : List Ln) (i j : Nat) (h : i + j < ls.length) : goOn ls i (j + 1) = decide (ls[i + j].fin ≠ 12) := by
  unfold goOn
  rw [show i + (j + 1) - 1 = i + j by omega, finN_lt ls _ h]
  simp
theorem rest_step (ls : List Ln) (i k j : Nat) (h : i + j < ls.length) (hg : goOn ls i j = true) (hk : k < ls[i + j].cells.length) :
    runRest ls i k j = 1 + runRest ls i k (j + 1) ∧ maxRest ls i k j = max ls[i + j].cells[k].wid (maxRest ls i k (j + 1)) := by
  have hd : ls.drop (i + j) = ls[i + j] :: ls.drop (i + (j + 1)) := by rw [List.drop_eq_getElem_cons h]; rfl
  unfold runRest maxRest
  rw [if_pos hg, if_pos hg, hd, rlen, rmax, if_pos hk, List.getElem?_eq_getElem hk, goOn_succ ls i j h]
  simp only
  by_cases hf : ls[i + j].fin = 12
  · simp [hf]
  · simp [hf]
theorem rest_stop (ls : List Ln) (i k j : Nat) (h : ¬ i + j < ls.length ∨ goOn ls i j = false ∨ ¬ k < cellsN ls (i + j)) : runRest ls i k j = 0 ∧ maxRest ls i k j = 0 := by
  unfold runRest maxRest
  by_cases hg : goOn ls i j = true
  · rw [if_pos hg, if_pos hg]
    by_cases hl : i + j < ls.length
    · have hd : ls.drop (i + j) = ls[i + j] :: ls.drop (i + (j + 1)) := by rw [List.drop_eq_getElem_cons hl]; rfl
      have hk : ¬ k < ls[i + j].cells.length := by
        rcases h with h | h | h
        · exact absurd hl h
        · rw [hg] at h; cases h
        · rwa [cellsN_lt ls _ hl] at h
      rw [hd, rlen, rmax, if_neg hk, List.getElem?_eq_none (by omega)]
      exact ⟨rfl, rfl⟩
    · rw [List.drop_of_length_le (by omega)]; exact ⟨rfl, rfl⟩
  · rw [if_neg hg, if_neg hg]; exact ⟨rfl, rfl⟩
theorem rlen_le (k : Nat) : ∀ (ls : List Ln), rlen k ls ≤ ls.length
  | [] => Nat.le_refl _
  | l :: t => by
    have := rlen_le k t
    rw [rlen, List.length_cons]
    split
    · split <;> omega
    · omega
theorem rmax_bd {ls : List Ln} (h : fitsB ls = true) (k i : Nat) : 0 ≤ rmax k (ls.drop i) ∧ rmax k (ls.drop i) ≤ 100000 := by
  have key : ∀ (n : Nat) (i : Nat), ls.length - i ≤ n → 0 ≤ rmax k (ls.drop i) ∧ rmax k (ls.drop i) ≤ 100000 := by
    intro n
    induction n with
    | zero => intro i hi; rw [List.drop_of_length_le (by omega)]; exact ⟨Int.le_refl _, by show (0 : Int) ≤ _; omega⟩
    | succ n ih =>
      intro i hi
      by_cases hl : i < ls.length
      · rw [List.drop_eq_getElem_cons hl, rmax]
        have h1 := ih (i + 1) (by omega)
        by_cases hk : k < ls[i].cells.length
        · have h2 := fitsB_wid h i hl k hk
          rw [List.getElem?_eq_getElem hk]
          simp only
          split <;> omega
        · rw [List.getElem?_eq_none (by omega)]
          exact ⟨Int.le_refl _, by show (0 : Int) ≤ _; omega⟩
      · rw [List.drop_of_length_le (by omega)]; exact ⟨Int.le_refl _, by show (0 : Int) ≤ _; omega⟩
  exact key _ i (Nat.le_refl _)
/-- Widths of cells with a bound wide enough for every text that is asked of. -/
def wideB (ls : List Ln) : Prop := ∀ i (hi : i < ls.length) k (hk : k < ls[i].cells.length), 0 ≤ ls[i].cells[k].wid ∧ ls[i].cells[k].wid ≤ 3000000
theorem fits_wide {ls : List Ln} (h : fitsB ls = true) : wideB ls := fun i hi k hk => by have := fitsB_wid h i hi k hk; omega
theorem rmax_bdL {ls : List Ln} (h : wideB ls) (k i : Nat) : 0 ≤ rmax k (ls.drop i) ∧ rmax k (ls.drop i) ≤ 3000000 := by
  have key : ∀ (n : Nat) (i : Nat), ls.length - i ≤ n → 0 ≤ rmax k (ls.drop i) ∧ rmax k (ls.drop i) ≤ 3000000 := by
    intro n
    induction n with
    | zero => intro i hi; rw [List.drop_of_length_le (by omega)]; exact ⟨Int.le_refl _, by show (0 : Int) ≤ _; omega⟩
    | succ n ih =>
      intro i hi
      by_cases hl : i < ls.length
      · rw [List.drop_eq_getElem_cons hl, rmax]
        have h1 := ih (i + 1) (by omega)
        by_cases hk : k < ls[i].cells.length
        · have h2 := h i hl k hk
          rw [List.getElem?_eq_getElem hk]
          simp only
          split <;> omega
        · rw [List.getElem?_eq_none (by omega)]
          exact ⟨Int.le_refl _, by show (0 : Int) ≤ _; omega⟩
      · rw [List.drop_of_length_le (by omega)]; exact ⟨Int.le_refl _, by show (0 : Int) ≤ _; omega⟩
  exact key _ i (Nat.le_refl _)
end Go.Proofs.YtooanejiadbngaaGreatDoor
