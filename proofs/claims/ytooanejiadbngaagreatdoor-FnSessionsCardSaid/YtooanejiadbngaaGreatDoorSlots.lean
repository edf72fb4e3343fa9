/- Slots of a layout, and that they are aligned: plain words. No walk. -/
import Derived.Test.YtooanejiadbngaaGreatDoorBlkRun
namespace Go.Proofs.YtooanejiadbngaaGreatDoor
open Go.RowKit
set_option linter.unusedVariables false

/-- How far the first widths reach; one column more for each if columns are ruled. -/
def sumS (fl : Bool) (l : List Int) : Int := l.foldl (fun a n => a + n + if fl = true then 1 else 0) 0
theorem sumS_nil (fl : Bool) : sumS fl [] = 0 := rfl
theorem sumS_take (fl : Bool) (l : List Int) (k : Nat) (h : k < l.length) : sumS fl (l.take (k + 1)) = sumS fl (l.take k) + l[k] + if fl = true then 1 else 0 := by
  unfold sumS
  rw [List.take_succ_eq_append_getElem h, List.foldl_append]
  rfl
/-- The slots of the first k cells and the one behind them. -/
def slotN (fl : Bool) (l : List Int) (k : Nat) : List Int := (List.range (k + 1)).map fun j => sumS fl (l.take j)
def slotL (fl : Bool) (l : List Int) : List Int := slotN fl l l.length
theorem slotN_zero (fl : Bool) (l : List Int) : slotN fl l 0 = [0] := rfl
theorem slotN_succ (fl : Bool) (l : List Int) (k : Nat) : slotN fl l (k + 1) = slotN fl l k ++ [sumS fl (l.take (k + 1))] := by
  unfold slotN
  rw [List.range_succ, List.map_append]
  rfl
theorem slotN_len (fl : Bool) (l : List Int) (k : Nat) : (slotN fl l k).length = k + 1 := by unfold slotN; rw [List.length_map, List.length_range]
theorem slotL_len (fl : Bool) (l : List Int) : (slotL fl l).length = l.length + 1 := slotN_len fl l _
theorem slotL_get (fl : Bool) (l : List Int) (k : Nat) (h : k ≤ l.length) : (slotL fl l)[k]? = some (sumS fl (l.take k)) := by
  unfold slotL slotN
  rw [List.getElem?_map, List.getElem?_range (by omega)]
  rfl
theorem slotL_last (fl : Bool) (l : List Int) : (slotL fl l)[l.length]? = some (sumS fl l) := by rw [slotL_get fl l _ (Nat.le_refl _), List.take_length]
theorem sumS_bd (fl : Bool) (l : List Int) (m : Int) (h : ∀ n ∈ l, 0 ≤ n ∧ n ≤ m) : ∀ k, k ≤ l.length → 0 ≤ sumS fl (l.take k) ∧ sumS fl (l.take k) ≤ (k : Int) * (m + 1)
  | 0, _ => by
    have : sumS fl (l.take 0) = 0 := rfl
    rw [this]
    simp
  | k + 1, hk => by
    have ih := sumS_bd fl l m h k (by omega)
    have hm := h l[k] (List.getElem_mem (by omega))
    rw [sumS_take fl l k (by omega)]
    have e : ((k + 1 : Nat) : Int) * (m + 1) = (k : Int) * (m + 1) + (m + 1) := by rw [Int.natCast_add, Int.add_mul]; omega
    rw [e]
    split <;> omega
theorem sumS_le (fl : Bool) (l : List Int) (m : Int) (h : ∀ n ∈ l, 0 ≤ n ∧ n ≤ m) (k : Nat) (hk : k < l.length) : sumS fl (l.take k) ≤ sumS fl (l.take (k + 1)) := by
  have hm := h l[k] (List.getElem_mem hk)
  rw [sumS_take fl l k hk]
  split <;> omega
/-- The slots of line i. -/
def slotF (c : Cfg) (ls : List Ln) (i : Nat) : List Int := slotL c.fl (widF c ls i)
theorem widF_size (c : Cfg) (ls : List Ln) (i : Nat) : (widF c ls i).length = cellsN ls i := widB_len ls _ i
theorem slotF_len (c : Cfg) (ls : List Ln) (i : Nat) : (slotF c ls i).length = cellsN ls i + 1 := by unfold slotF; rw [slotL_len, widF_size]
/-- The width of a cell's block. -/
theorem widF_blk (c : Cfg) (ls : List Ln) (i k : Nat) (hk : k < cellsN ls i) : ∃ s, s ≤ i ∧ begB ls s k = true ∧ i < s + rlen k (ls.drop s) ∧ (widF c ls i)[k]? = some (blkOf c ls s k).wid := by
  obtain ⟨s, h1, h2, h3, h4⟩ := find_block c ls i k hk
  have hm := List.mem_of_find?_eq_some h3
  obtain ⟨s', k', _, hb, he⟩ := (mem_bksL c ls _).1 hm
  have e1 : k = k' := by have := congrArg Bk.col he; simp only [blkOf] at this; omega
  have e2 : s = s' := by have := congrArg Bk.frm he; simp only [blkOf] at this; omega
  subst e1 e2
  exact ⟨s, h1, hb, h2, widF_get c ls i k s hk h3 h4⟩
theorem widF_bd (c : Cfg) (ls : List Ln) (hv : validC c = true) (i : Nat) : ∀ n ∈ widF c ls i, 0 ≤ n := by
  intro n hn
  obtain ⟨k, hk, he⟩ := List.mem_iff_getElem.1 hn
  rw [widF_size] at hk
  obtain ⟨s, _, _, _, h⟩ := widF_blk c ls i k hk
  rw [List.getElem?_eq_getElem (by rw [widF_size]; exact hk)] at h
  have h' : (widF c ls i)[k]'(by rw [widF_size]; exact hk) = (blkOf c ls s k).wid := by simpa using h
  rw [← he, h']
  exact blockW_zero_le c _ hv
/-- Two lines of a block of column k have the same widths up to that column. -/
theorem wid_next (c : Cfg) (ls : List Ln) (i j : Nat) (hf : finN ls i ≠ 12) (h1 : j < cellsN ls i) (h2 : j < cellsN ls (i + 1)) : (widF c ls (i + 1))[j]? = (widF c ls i)[j]? := by
  obtain ⟨s, a1, a2, a3, a4⟩ := widF_blk c ls i j h1
  obtain ⟨s', b1, b2, b3, b4⟩ := widF_blk c ls (i + 1) j h2
  have hn := rlen_next j (ls.drop s) (i - s) (by omega) (by rw [finN_drop, show s + (i - s) = i by omega]; exact hf) (by rw [cellsN_drop, show s + (i - s + 1) = i + 1 by omega]; exact h2)
  have he := block_one ls j (i + 1) s s' a2 b2 (by omega) b1 (by omega) b3
  rw [a4, b4, he]
theorem take_same {a b : List Int} (k : Nat) (h : ∀ j, j < k → a[j]? = b[j]?) : a.take k = b.take k := by
  apply List.ext_getElem?
  intro j
  rw [List.getElem?_take, List.getElem?_take]
  by_cases hj : j < k
  · rw [if_pos hj, if_pos hj, h j hj]
  · rw [if_neg hj, if_neg hj]
theorem slots_aligned (c : Cfg) (ls : List Ln) (s k : Nat) : ∀ n, n < rlen k (ls.drop s) → (slotF c ls (s + n))[k]? = (slotF c ls s)[k]?
  | 0, _ => rfl
  | n + 1, h => by
    have ih := slots_aligned c ls s k n (by omega)
    have f1 := rlen_inside k (ls.drop s) n h
    have f2 := rlen_cells k (ls.drop s) n (by omega)
    have f3 := rlen_cells k (ls.drop s) (n + 1) h
    rw [finN_drop] at f1
    rw [cellsN_drop] at f2 f3
    rw [← ih, show s + (n + 1) = s + n + 1 by omega]
    have e : (widF c ls (s + n + 1)).take k = (widF c ls (s + n)).take k := take_same k fun j hj => wid_next c ls (s + n) j f1 (by omega) (by rw [show s + n + 1 = s + (n + 1) by omega]; omega)
    unfold slotF
    rw [slotL_get c.fl _ k (by rw [widF_size, show s + n + 1 = s + (n + 1) by omega]; omega), slotL_get c.fl _ k (by rw [widF_size]; omega), e]
/-- The cells of a block start at the same column. -/
theorem blk_aligned (c : Cfg) (ls : List Ln) (b : Bk) (hb : b ∈ bksL c ls) : ∃ bc bi bt : Nat, b.col = (bc : Int) ∧ b.frm = (bi : Int) ∧ b.to = (bt : Int) ∧ bi ≤ bt ∧ bt ≤ ls.length ∧ ∀ i, bi ≤ i → i < bt → bc < (slotF c ls i).length ∧ (slotF c ls i)[bc]? = (slotF c ls bi)[bc]? := by
  obtain ⟨s, k, hs, hbe, rfl⟩ := (mem_bksL c ls b).1 hb
  have hl := rlen_le k (ls.drop s)
  rw [List.length_drop] at hl
  refine ⟨k, s, s + rlen k (ls.drop s), rfl, rfl, rfl, by omega, by omega, fun i h1 h2 => ⟨?_, ?_⟩⟩
  · have := rlen_cells k (ls.drop s) (i - s) (by omega)
    rw [cellsN_drop, show s + (i - s) = i by omega] at this
    rw [slotF_len]
    omega
  · have := slots_aligned c ls s k (i - s) (by omega)
    rw [show s + (i - s) = i by omega] at this
    exact this
theorem rmax_bdN (M : Int) (hM : 0 ≤ M) : ∀ (ls : List Ln) (k : Nat), (∀ i, cellW ls i k ≤ M) → rmax k ls ≤ M
  | [], k, _ => hM
  | l :: t, k, h => by
    rw [rmax]
    by_cases hk : k < l.cells.length
    · rw [List.getElem?_eq_getElem hk]
      simp only
      have h0 := h 0
      have e0 : cellW (l :: t) 0 k = l.cells[k].wid := by
        show (match l.cells[k]? with | some x => x.wid | none => 0) = _
        rw [List.getElem?_eq_getElem hk]
      rw [e0] at h0
      have ih := rmax_bdN M hM t k (fun i => h (i + 1))
      split <;> omega
    · rw [List.getElem?_eq_none (by omega)]
      exact hM
/-- Widths have a bound. -/
theorem roundI_hi (c : Cfg) (n : Int) (hv : validC c = true) : roundI c n ≤ n + 31 ∨ roundI c n = n := by
  have ht := (validC_iff c).1 hv
  unfold roundI
  split
  · left
    have e3 := Int.ediv_mul_le (n + c.ctab - 1) (show c.ctab ≠ 0 by omega)
    omega
  · exact .inr rfl
theorem widF_hi (c : Cfg) (ls : List Ln) (hv : validC c = true) (M : Int) (hM : 0 ≤ M) (h : ∀ i k, cellW ls i k ≤ M) (i : Nat) : ∀ n ∈ widF c ls i, 0 ≤ n ∧ n ≤ M + 263 := by
  intro n hn
  have h0 := widF_bd c ls hv i n hn
  obtain ⟨k, hk, he⟩ := List.mem_iff_getElem.1 hn
  rw [widF_size] at hk
  obtain ⟨s, _, _, _, hg⟩ := widF_blk c ls i k hk
  rw [List.getElem?_eq_getElem (by rw [widF_size]; exact hk)] at hg
  have h' : (widF c ls i)[k]'(by rw [widF_size]; exact hk) = (blkOf c ls s k).wid := by simpa using hg
  refine ⟨h0, ?_⟩
  rw [← he, h']
  show blockW c (rmax k (ls.drop s)) ≤ _
  have hr := rmax_bdN M hM (ls.drop s) k (fun j => by rw [cellW_drop]; exact h _ _)
  have ht := (validC_iff c).1 hv
  unfold blockW
  split
  · rcases roundI_hi c (max c.cmin (rmax k (ls.drop s) + c.cpadding)) hv with h | h <;> omega
  · omega
end Go.Proofs.YtooanejiadbngaaGreatDoor
