/- What FnBlocks asks of the numbers. Plain words; no walk. -/
import Derived.Test.YtooanejiadbngaaGreatDoorBB
import Derived.Test.YtooanejiadbngaaGreatDoorBlkMath
namespace Go.Proofs.YtooanejiadbngaaGreatDoor
open Go.RowKit
set_option linter.unusedVariables false

theorem cellSum_take (ls : List Ln) : ∀ n, n ≤ ls.length → cellSum ls n = cntL (ls.take n)
  | 0, _ => by simp [cellSum, nsum, cntL]
  | n + 1, h => by
    have ih := cellSum_take ls n (by omega)
    have e : cellSum ls (n + 1) = cellSum ls n + cellsN ls n := rfl
    rw [e, ih, cntL_take ls n (by omega), cellsN_lt ls n (by omega)]
theorem sum_cnt (c : Cfg) (ls : List Ln) : sumB (bksL c ls) = ((cntL ls : Nat) : Int) := by
  rw [sum_blocks, cellSum_take ls _ (Nat.le_refl _), List.take_length]
theorem sumB_nonneg (ls : List Ln) : ∀ L : List Bk, (∀ b ∈ L, GoodB ls b) → 0 ≤ sumB L
  | [], _ => Int.le_refl _
  | b :: r, h => by
    have ih := sumB_nonneg ls r fun x hx => h x (List.mem_cons_of_mem _ hx)
    obtain ⟨k, i, t, _, h1, h2, h3, _⟩ := h b (List.mem_cons_self ..)
    simp only [sumB]
    omega
theorem sumB_take (ls : List Ln) (L : List Bk) (h : ∀ b ∈ L, GoodB ls b) (q : Nat) : 0 ≤ sumB (L.take q) ∧ sumB (L.take q) ≤ sumB L := by
  have h1 := sumB_nonneg ls (L.take q) fun b hb => h b (List.mem_of_mem_take hb)
  have h2 := sumB_nonneg ls (L.drop q) fun b hb => h b (List.mem_of_mem_drop hb)
  have h3 := sumB_append (L.take q) (L.drop q)
  rw [List.take_append_drop] at h3
  omega
theorem sumB_step (L : List Bk) (q : Nat) (h : q < L.length) : sumB (L.take (q + 1)) = sumB (L.take q) + (L[q].to - L[q].frm) := by
  rw [List.take_succ_eq_append_getElem h, sumB_append]
  simp [sumB]
theorem split_fits (c : Cfg) (s : ByteArray) (hv : validC c = true) (hs : s.size ≤ 50000) : fitsB (splitL c s) = true := by
  unfold fitsB
  rw [List.all_eq_true]
  intro l hl
  unfold fitsC
  rw [List.all_eq_true]
  intro x hx
  have h1 := split_fine c s hv l hl x hx
  rw [cellWB_yes _ hv] at h1
  have h2 := celW_le c.fm x.txt 0
  have h3 := totC_mem l.cells x hx
  have h4 := totL_mem _ l hl
  have h5 := (splitL_size c s).2
  rw [Bool.and_eq_true, decide_eq_true_iff, decide_eq_true_iff]
  omega
theorem cellW_at (ls : List Ln) (i k : Nat) (hi : i < ls.length) (hk : k < ls[i].cells.length) : cellW ls i k = ls[i].cells[k].wid := by
  unfold cellW
  rw [List.getElem?_eq_getElem hi]
  simp only
  rw [List.getElem?_eq_getElem hk]
end Go.Proofs.YtooanejiadbngaaGreatDoor
