/- What IsAligned asks of the numbers: plain words. No walk. -/
import Derived.Test.YtjdbkpckhgncbaaDoorLytMath
import Derived.Test.YtjdbkpckhgncbaaDoorBlkRun
namespace Go.Proofs.YtjdbkpckhgncbaaDoor
open Go.RowKit
set_option linter.unusedVariables false

theorem cells_bd (ls : List Ln) (N : Nat) (h : totL ls ≤ N) (i : Nat) : cellsN ls i ≤ N := by
  by_cases hi : i < ls.length
  · rw [cellsN_lt ls i hi]
    have := totL_mem ls _ (List.getElem_mem hi)
    omega
  · unfold cellsN
    rw [List.getElem?_eq_none (by omega)]
    exact Nat.zero_le _
/-- A block of a list: its numbers, and that its cells start at one column. -/
theorem ali_blk (c : Cfg) (ls : List Ln) (b : Bk) (h : b ∈ bksL c ls) : ∃ (bc bi bt : Nat) (y : Int), b.col = (bc : Int) ∧ b.frm = (bi : Int) ∧ b.to = (bt : Int) ∧ bi < bt ∧ bt ≤ ls.length ∧ ∀ i, bi ≤ i → i < bt → (slotF c ls i)[bc]? = some y := by
  obtain ⟨i, k, hi, hb, he⟩ := (mem_bksL c ls b).1 h
  obtain ⟨bc, bi, bt, h1, h2, h3, h4, h5, h6⟩ := blk_aligned c ls b h
  have hk := ((begB_true ls i k).1 hb).1
  have hpos : 0 < rlen k (ls.drop i) := rlen_pos k _ (by rw [cellsN_drop]; exact hk)
  have hlt : bi < bt := by
    rw [he] at h2 h3
    have e2 : ((i : Nat) : Int) = (bi : Int) := h2
    have e3 : ((i + rlen k (ls.drop i) : Nat) : Int) = (bt : Int) := h3
    omega
  have hlen := (h6 bi (Nat.le_refl _) hlt).1
  refine ⟨bc, bi, bt, (slotF c ls bi)[bc], h1, h2, h3, hlt, h5, fun j hj1 hj2 => ?_⟩
  rw [(h6 j hj1 hj2).2, List.getElem?_eq_getElem hlen]
theorem ali_pack (c : Cfg) (ls : List Ln) : ∀ b ∈ bksB c ls, ∃ (bc bi bt : Nat) (y : Int), b.col = (bc : Int) ∧ b.frm = (bi : Int) ∧ b.to = (bt : Int) ∧ bi < bt ∧ bt ≤ widN c ls ∧ ∀ i, bi ≤ i → i < bt → (slotF c ls i)[bc]? = some y := by
  intro b hb
  cases hok : fitsB ls && validC c with
  | false =>
    unfold bksB at hb
    rw [hok] at hb
    simp at hb
  | true =>
    have hn : widN c ls = ls.length := by unfold widN; rw [hok]; rfl
    simp only [Bool.and_eq_true] at hok
    rw [bksB_yes hok.1 hok.2] at hb
    rw [hn]
    exact ali_blk c ls b hb
theorem bksB_len (c : Cfg) (ls : List Ln) (N : Nat) (h : totL ls ≤ N) : (bksB c ls).length ≤ N := by
  unfold bksB
  split
  · have h2 := lineBks_len c ls ls.length (Nat.le_refl _)
    rw [List.take_length] at h2
    exact Nat.le_trans h2 h
  · exact Nat.zero_le _
theorem slot_packW (fl : Bool) (ws : List Int) (hl : ws.length ≤ 100000000) (hb : ∀ n ∈ ws, 0 ≤ n ∧ n ≤ 3000263) : ∃ (S : Nat → Int) (L : Nat → List Int), S 0 = 0 ∧ L 0 = [0] ∧ (∀ k (h : k < ws.length), S (k + 1) = S k + ws[k] + if fl = true then 1 else 0) ∧ (∀ k, L (k + 1) = L k ++ [S (k + 1)]) ∧ (∀ k, (L k).length = k + 1) ∧
    (∀ k, k ≤ ws.length → 0 ≤ S k ∧ S k ≤ 400000000000000) ∧ L ws.length = slotL fl ws ∧ (∀ k (h : k < ws.length), 0 ≤ ws[k] ∧ ws[k] ≤ 3000263) := by
  refine ⟨fun k => sumS fl (ws.take k), slotN fl ws, rfl, rfl, fun k h => sumS_take fl ws k h, fun k => slotN_succ fl ws k, fun k => slotN_len fl ws k, fun k hk => ?_, rfl, fun k h => hb _ (List.getElem_mem h)⟩
  have h := sumS_bd fl ws 3000263 hb k hk
  have h2 : (k : Int) * (3000263 + 1) ≤ 100000000 * (3000263 + 1) := Int.mul_le_mul_of_nonneg_right (by omega) (by omega)
  show 0 ≤ sumS fl (ws.take k) ∧ sumS fl (ws.take k) ≤ 400000000000000
  omega
theorem cellW_wide {ls : List Ln} (h : wideB ls) (i k : Nat) : cellW ls i k ≤ 3000000 := by
  unfold cellW
  by_cases hi : i < ls.length
  · rw [List.getElem?_eq_getElem hi]
    simp only
    by_cases hk : k < ls[i].cells.length
    · rw [List.getElem?_eq_getElem hk]
      exact (h i hi k hk).2
    · rw [List.getElem?_eq_none (by omega)]
      simp only
      omega
  · rw [List.getElem?_eq_none (by omega)]
    simp only
    omega
theorem text_wide (c : Cfg) (s : ByteArray) (hv : validC c = true) (hs : s.size ≤ 1048576) : wideB (splitL c s) := by
  intro i hi k hk
  have h1 := split_fine c s hv _ (List.getElem_mem hi) _ (List.getElem_mem hk)
  have h2 := split_wid c s hv i k
  rw [cellW_at _ i k hi hk] at h2
  rw [cellWB_yes _ hv] at h1
  omega
end Go.Proofs.YtjdbkpckhgncbaaDoor
