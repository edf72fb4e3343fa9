/- Widths by blocks are the layout's widths. Plain words; no walk. -/
import Derived.Test.YtooanejiadbngaaGreatDoorBlkMath
namespace Go.Proofs.YtooanejiadbngaaGreatDoor
open Go.RowKit
set_option linter.unusedVariables false

theorem rmax_nonneg (k : Nat) : ∀ ls : List Ln, 0 ≤ rmax k ls
  | [] => Int.le_refl _
  | l :: t => by
    have ih := rmax_nonneg k t
    rw [rmax]
    split
    · exact Int.le_refl _
    · split <;> omega
/-- What the lines before line i leave for their columns. -/
def lmAt (ls : List Ln) (i : Nat) : Nat → Int := (ls.take i).foldl lnext (fun _ => 0)
theorem lmAt_succ (ls : List Ln) (i : Nat) (h : i < ls.length) : lmAt ls (i + 1) = lnext (lmAt ls i) ls[i] := by
  unfold lmAt
  rw [List.take_succ_eq_append_getElem h, List.foldl_append]
  rfl
theorem lm_run (ls : List Ln) (k : Nat) : ∀ i, k < cellsN ls i → ∃ s, s ≤ i ∧ begB ls s k = true ∧ i < s + rlen k (ls.drop s) ∧ max (lmAt ls i k) (rmax k (ls.drop i)) = rmax k (ls.drop s)
  | 0, hk => by
    have hp := rlen_pos k (ls.drop 0) (by rw [cellsN_drop]; exact hk)
    refine ⟨0, Nat.le_refl _, (begB_true ls 0 k).2 ⟨hk, .inl rfl⟩, by omega, ?_⟩
    have h0 : lmAt ls 0 k = 0 := rfl
    have := rmax_nonneg k (ls.drop 0)
    rw [h0]
    omega
  | i + 1, hk => by
    have hlen := cellsN_lt_len hk
    have hi : i < ls.length := by omega
    have hp := rlen_pos k (ls.drop (i + 1)) (by rw [cellsN_drop]; exact hk)
    have hn := rmax_nonneg k (ls.drop (i + 1))
    rw [lmAt_succ ls i hi]
    by_cases hc : k < ls[i].cells.length
    · have hc' : k < cellsN ls i := by rw [cellsN_lt ls i hi]; exact hc
      by_cases hf : ls[i].fin = 12
      · refine ⟨i + 1, Nat.le_refl _, (begB_true ls (i + 1) k).2 ⟨hk, .inr (.inr ?_)⟩, by omega, ?_⟩
        · rw [Nat.add_sub_cancel, finN_lt ls i hi]; exact hf
        · have h0 : lnext (lmAt ls i) ls[i] k = 0 := by
            unfold lnext
            rw [List.getElem?_eq_getElem hc]
            simp only
            rw [if_pos hf]
          rw [h0]
          omega
      · obtain ⟨s, hs, hb, hl, he⟩ := lm_run ls k i hc'
        have hnx := rlen_next k (ls.drop s) (i - s) (by omega) (by rw [finN_drop, show s + (i - s) = i by omega, finN_lt ls i hi]; exact hf) (by rw [cellsN_drop, show s + (i - s + 1) = i + 1 by omega]; exact hk)
        refine ⟨s, by omega, hb, by omega, ?_⟩
        have h0 : lnext (lmAt ls i) ls[i] k = max (lmAt ls i k) ls[i].cells[k].wid := by
          unfold lnext
          rw [List.getElem?_eq_getElem hc]
          simp only
          rw [if_neg hf]
        have h1 : rmax k (ls.drop i) = max ls[i].cells[k].wid (rmax k (ls.drop (i + 1))) := by
          rw [List.drop_eq_getElem_cons hi, rmax, List.getElem?_eq_getElem hc]
          simp only
          rw [if_neg hf]
        rw [h0, ← he, h1]
        omega
    · refine ⟨i + 1, Nat.le_refl _, (begB_true ls (i + 1) k).2 ⟨hk, .inr (.inl ?_)⟩, by omega, ?_⟩
      · rw [Nat.add_sub_cancel, cellsN_lt ls i hi]; omega
      · have h0 : lnext (lmAt ls i) ls[i] k = 0 := by
          unfold lnext
          rw [List.getElem?_eq_none (by omega)]
        rw [h0]
        omega
/-- A row of the table. -/
theorem widF_row (c : Cfg) (ls : List Ln) (i : Nat) : widF c ls i = rowW1 c (lmAt ls i) (ls.drop i) (cellsN ls i) := by
  have hl : (widF c ls i).length = cellsN ls i := widB_len ls _ i
  apply List.ext_getElem?
  intro k
  unfold rowW1
  by_cases hk : k < cellsN ls i
  · obtain ⟨s, hs, hlt, hf, hall⟩ := find_block c ls i k hk
    obtain ⟨s', hs', hb', hlt', he⟩ := lm_run ls k i hk
    have hss : blkOf c ls s' k = blkOf c ls s k := hall _ ((mem_bksL c ls _).2 ⟨s', k, by have := cellsN_lt_len hk; omega, hb', rfl⟩) ((holdsB_of c ls s' k i k).2 ⟨rfl, hs', hlt'⟩)
    rw [widF_get c ls i k s hk hf hall, ← hss, List.getElem?_map, List.getElem?_range hk]
    simp only [Option.map_some]
    rw [he]
    rfl
  · rw [List.getElem?_eq_none (by omega), List.getElem?_eq_none (by simp; omega)]
theorem widthsGo_get (c : Cfg) : ∀ (list : List Ln) (lm : Nat → Int) (i : Nat), i < list.length → (widthsGo c lm list)[i]? = some (rowW1 c ((list.take i).foldl lnext lm) (list.drop i) (cellsN list i))
  | [], _, i, h => by simp at h
  | l :: t, lm, 0, _ => rfl
  | l :: t, lm, i + 1, h => by
    have ih := widthsGo_get c t (lnext lm l) i (by simpa using h)
    rw [widthsGo, List.getElem?_cons_succ, ih]
    rfl
/-- The table is the layout's. -/
theorem widthsL_get (c : Cfg) (ls : List Ln) (i : Nat) (h : i < ls.length) : (widthsL c ls)[i]? = some (widF c ls i) := by
  unfold widthsL
  rw [widthsGo_get c ls _ i h, widF_row]
  rfl
theorem widthsL_all (c : Cfg) (ls : List Ln) : widthsL c ls = (List.range ls.length).map (widF c ls) := by
  have hl : (widthsL c ls).length = ls.length := widthsGo_length c ls _
  apply List.ext_getElem?
  intro i
  by_cases h : i < ls.length
  · rw [widthsL_get c ls i h, List.getElem?_map, List.getElem?_range h]
    rfl
  · rw [List.getElem?_eq_none (by omega), List.getElem?_eq_none (by simp; omega)]
end Go.Proofs.YtooanejiadbngaaGreatDoor
