/- Column blocks: every cell lies in exactly one block, which is at least as wide. Plain words; no walk. -/
import Derived.Test.YtooanejiadbngaaGreatDoorWidL
namespace Go.Proofs.YtooanejiadbngaaGreatDoor
open Go.RowKit
set_option linter.unusedVariables false

/-! ### one run of one column -/
theorem rlen_pos (k : Nat) (ls : List Ln) (h : k < cellsN ls 0) : 0 < rlen k ls := by
  cases ls with
  | nil => simp [cellsN] at h
  | cons l t =>
    have h' : k < l.cells.length := h
    rw [rlen, if_pos h']
    omega
theorem rlen_none (k : Nat) (ls : List Ln) (h : ¬ k < cellsN ls 0) : rlen k ls = 0 := by
  cases ls with
  | nil => rfl
  | cons l t =>
    have h' : ¬ k < l.cells.length := h
    rw [rlen, if_neg h']
theorem rlen_cons (k : Nat) (l : Ln) (t : List Ln) (h : k < l.cells.length) : rlen k (l :: t) = 1 + (if l.fin = 12 then 0 else rlen k t) := by rw [rlen, if_pos h]
theorem rlen_next (k : Nat) : ∀ (ls : List Ln) (j : Nat), j < rlen k ls → finN ls j ≠ 12 → k < cellsN ls (j + 1) → j + 1 < rlen k ls
  | [], j, h, _, _ => by simp [rlen] at h
  | l :: t, j, h, hf, hc => by
    have h0 : k < l.cells.length := rlen_cells k (l :: t) 0 (by omega)
    rw [rlen_cons k l t h0] at h ⊢
    have hc' : k < cellsN t j := hc
    cases j with
    | zero =>
      have hf' : ¬ l.fin = 12 := hf
      have := rlen_pos k t hc'
      rw [if_neg hf']
      omega
    | succ j =>
      split at h
      · omega
      · rename_i hl
        have := rlen_next k t j (by omega) hf hc'
        rw [if_neg hl]
        omega
theorem rlen_inside (k : Nat) : ∀ (ls : List Ln) (j : Nat), j + 1 < rlen k ls → finN ls j ≠ 12
  | [], j, h => by simp [rlen] at h
  | l :: t, j, h => by
    have h0 : k < l.cells.length := rlen_cells k (l :: t) 0 (by omega)
    rw [rlen_cons k l t h0] at h
    split at h
    · omega
    · rename_i hl
      cases j with
      | zero => exact hl
      | succ j => exact rlen_inside k t j (by omega)
def cellW (ls : List Ln) (i k : Nat) : Int := match ls[i]? with
  | some l => match l.cells[k]? with
    | some x => x.wid
    | none => 0
  | none => 0
theorem rmax_ge (k : Nat) : ∀ (ls : List Ln) (j : Nat), j < rlen k ls → cellW ls j k ≤ rmax k ls
  | [], j, h => by simp [rlen] at h
  | l :: t, j, h => by
    have h0 : k < l.cells.length := rlen_cells k (l :: t) 0 (by omega)
    rw [rlen_cons k l t h0] at h
    rw [rmax, List.getElem?_eq_getElem h0]
    simp only
    cases j with
    | zero =>
      have : cellW (l :: t) 0 k = l.cells[k].wid := by unfold cellW; simp [List.getElem?_eq_getElem h0]
      rw [this]
      omega
    | succ j =>
      split at h
      · omega
      · rename_i hl
        have := rmax_ge k t j (by omega)
        have e : cellW (l :: t) (j + 1) k = cellW t j k := rfl
        rw [e, if_neg hl]
        omega
theorem cellsN_drop (ls : List Ln) (s j : Nat) : cellsN (ls.drop s) j = cellsN ls (s + j) := by unfold cellsN; rw [List.getElem?_drop]
theorem finN_drop (ls : List Ln) (s j : Nat) : finN (ls.drop s) j = finN ls (s + j) := by unfold finN; rw [List.getElem?_drop]
theorem cellW_drop (ls : List Ln) (s j k : Nat) : cellW (ls.drop s) j k = cellW ls (s + j) k := by unfold cellW; rw [List.getElem?_drop]

/-! ### where a cell's block begins -/
theorem begB_true (ls : List Ln) (i k : Nat) : begB ls i k = true ↔ k < cellsN ls i ∧ (i = 0 ∨ cellsN ls (i - 1) ≤ k ∨ finN ls (i - 1) = 12) := by
  unfold begB
  simp [Bool.or_eq_true, or_assoc]
/-- Every cell lies in a block of its column. -/
theorem block_of (ls : List Ln) (k : Nat) : ∀ i, k < cellsN ls i → ∃ s, s ≤ i ∧ begB ls s k = true ∧ i < s + rlen k (ls.drop s)
  | i, hk => by
    by_cases hb : begB ls i k = true
    · have := rlen_pos k (ls.drop i) (by rw [cellsN_drop]; exact hk)
      exact ⟨i, Nat.le_refl _, hb, by omega⟩
    · rw [begB_true] at hb
      match i, hk, hb with
      | 0, hk, hb => exact absurd ⟨hk, .inl rfl⟩ hb
      | i + 1, hk, hb =>
        have h1 : k < cellsN ls i := by
          rcases Nat.lt_or_ge k (cellsN ls i) with h | h
          · exact h
          · exact absurd ⟨hk, .inr (.inl h)⟩ hb
        have h2 : finN ls i ≠ 12 := fun h => hb ⟨hk, .inr (.inr h)⟩
        obtain ⟨s, hs, hbs, hlt⟩ := block_of ls k i h1
        refine ⟨s, by omega, hbs, ?_⟩
        have := rlen_next k (ls.drop s) (i - s) (by omega) (by rw [finN_drop, show s + (i - s) = i by omega]; exact h2) (by rw [cellsN_drop, show s + (i - s + 1) = i + 1 by omega]; exact hk)
        omega
/-- .. and in one only. -/
theorem block_one (ls : List Ln) (k i s s' : Nat) (h1 : begB ls s k = true) (h2 : begB ls s' k = true) (hs : s ≤ i) (hs' : s' ≤ i) (hl : i < s + rlen k (ls.drop s)) (hl' : i < s' + rlen k (ls.drop s')) : s = s' := by
  have key : ∀ a b, begB ls b k = true → a < b → b ≤ i → i < a + rlen k (ls.drop a) → False := by
    intro a b hb hab hbi hli
    have f1 := rlen_inside k (ls.drop a) (b - 1 - a) (by omega)
    have f2 := rlen_cells k (ls.drop a) (b - 1 - a) (by omega)
    rw [finN_drop, show a + (b - 1 - a) = b - 1 by omega] at f1
    rw [cellsN_drop, show a + (b - 1 - a) = b - 1 by omega] at f2
    obtain ⟨_, h⟩ := (begB_true ls b k).1 hb
    rcases h with h | h | h
    · omega
    · omega
    · exact f1 h
  rcases Nat.lt_trichotomy s s' with h | h | h
  · exact (key s s' h2 h hs' hl).elim
  · exact h
  · exact (key s' s h1 h hs hl').elim
/-! ### the list of blocks -/
theorem mem_bksL (c : Cfg) (ls : List Ln) (b : Bk) : b ∈ bksL c ls ↔ ∃ i k, i < ls.length ∧ begB ls i k = true ∧ b = blkOf c ls i k := by
  unfold bksL lineBks colBks
  rw [List.mem_flatMap]
  constructor
  · rintro ⟨i, hi, hb⟩
    obtain ⟨k, hk, rfl⟩ := List.mem_map.1 hb
    exact ⟨i, k, List.mem_range.1 hi, (List.mem_filter.1 hk).2, rfl⟩
  · rintro ⟨i, k, hi, hb, rfl⟩
    exact ⟨i, List.mem_range.2 hi, List.mem_map.2 ⟨k, List.mem_filter.2 ⟨List.mem_range.2 ((begB_true ls i k).1 hb).1, hb⟩, rfl⟩⟩
/-- The block holds the cell. -/
def holdsB (i k : Nat) (b : Bk) : Bool := decide (b.col = (k : Int)) && (decide (b.frm ≤ (i : Int)) && decide ((i : Int) < b.to))
theorem holdsB_of (c : Cfg) (ls : List Ln) (s j i k : Nat) : holdsB i k (blkOf c ls s j) = true ↔ j = k ∧ s ≤ i ∧ i < s + rlen j (ls.drop s) := by
  unfold holdsB blkOf
  simp only [Bool.and_eq_true, decide_eq_true_eq]
  omega
theorem cellsN_lt_len {ls : List Ln} {i k : Nat} (h : k < cellsN ls i) : i < ls.length := by
  rcases Nat.lt_or_ge i ls.length with h1 | h1
  · exact h1
  · rw [cellsN_out ls i (by omega)] at h; omega
/-- The block of a cell: the one that a search finds, whatever the order. -/
theorem find_block (c : Cfg) (ls : List Ln) (i k : Nat) (hk : k < cellsN ls i) : ∃ s, s ≤ i ∧ i < s + rlen k (ls.drop s) ∧ (bksL c ls).find? (holdsB i k) = some (blkOf c ls s k) ∧ ∀ b ∈ bksL c ls, holdsB i k b = true → b = blkOf c ls s k := by
  obtain ⟨s, hs, hb, hl⟩ := block_of ls k i hk
  have hi := cellsN_lt_len hk
  have hall : ∀ b ∈ bksL c ls, holdsB i k b = true → b = blkOf c ls s k := by
    intro b hbm hh
    obtain ⟨s', k', hs', hb', rfl⟩ := (mem_bksL c ls b).1 hbm
    obtain ⟨rfl, h1, h2⟩ := (holdsB_of c ls s' k' i k).1 hh
    rw [block_one ls k' i s' s hb' hb h1 hs h2 hl]
  refine ⟨s, hs, hl, ?_, hall⟩
  cases hf : (bksL c ls).find? (holdsB i k) with
  | none =>
    have := List.find?_eq_none.1 hf (blkOf c ls s k) ((mem_bksL c ls _).2 ⟨s, k, by omega, hb, rfl⟩)
    exact absurd ((holdsB_of c ls s k i k).2 ⟨rfl, hs, hl⟩) this
  | some b => rw [hall b (List.mem_of_find?_eq_some hf) (List.find?_some hf)]
/-! ### widths -/
theorem fill_get (i k : Nat) (W : Int) : ∀ (L : List Bk) (f : Nat → List Int), k < (f i).length → (∀ b ∈ L, 0 ≤ b.col ∧ (holdsB i k b = true → b.wid = W)) → ((f i)[k]? = some W ∨ ∃ b ∈ L, holdsB i k b = true) → (L.foldl fillF f i)[k]? = some W
  | [], f, hk, _, h => by
    rcases h with h | ⟨b, hb, _⟩
    · exact h
    · cases hb
  | b :: r, f, hk, hL, h => by
    rw [List.foldl_cons]
    have hlen : (fillF f b i).length = (f i).length := fillTo_len f b b.to i
    refine fill_get i k W r (fillF f b) (by rw [hlen]; exact hk) (fun x hx => hL x (List.mem_cons_of_mem _ hx)) ?_
    obtain ⟨hc0, hw⟩ := hL b (List.mem_cons_self ..)
    by_cases hh : holdsB i k b = true
    · left
      have hw' := hw hh
      unfold holdsB at hh
      simp only [Bool.and_eq_true, decide_eq_true_eq] at hh
      have e : fillF f b i = (f i).set k W := by
        unfold fillF fillTo
        rw [if_pos hh.2, hw', hh.1]
        rfl
      rw [e, List.getElem?_set_self hk]
    · have e : (fillF f b i)[k]? = (f i)[k]? := by
        unfold fillF fillTo
        split
        · rename_i hi
          have hne : b.col.toNat ≠ k := by
            intro hk'
            apply hh
            unfold holdsB
            simp only [Bool.and_eq_true, decide_eq_true_eq]
            exact ⟨by omega, hi⟩
          rw [List.getElem?_set_ne hne]
        · rfl
      rcases h with h | ⟨x, hx, hxh⟩
      · exact .inl (by rw [e]; exact h)
      · rcases List.mem_cons.1 hx with rfl | hx
        · exact absurd hxh hh
        · exact .inr ⟨x, hx, hxh⟩
/-- The width laid for a cell is its block's. -/
theorem widF_get (c : Cfg) (ls : List Ln) (i k s : Nat) (hk : k < cellsN ls i) (hf : (bksL c ls).find? (holdsB i k) = some (blkOf c ls s k)) (hall : ∀ b ∈ bksL c ls, holdsB i k b = true → b = blkOf c ls s k) : (widF c ls i)[k]? = some (blkOf c ls s k).wid := by
  unfold widF widB
  refine fill_get i k _ _ _ (by unfold widF0; rw [List.length_replicate]; exact hk) (fun b hb => ⟨?_, fun hh => by rw [hall b hb hh]⟩) (.inr ⟨_, List.mem_of_find?_eq_some hf, List.find?_some hf⟩)
  obtain ⟨_, _, _, h, _⟩ := bksL_good c ls b hb
  omega
theorem roundI_ge (c : Cfg) (n : Int) (ht : 1 ≤ c.ctab) : n ≤ roundI c n := by
  unfold roundI
  split
  · have e3 := Int.emod_add_ediv_mul (n + c.ctab - 1) c.ctab
    have e4 := Int.emod_lt_of_pos (n + c.ctab - 1) (show 0 < c.ctab by omega)
    omega
  · exact Int.le_refl _
/-- A block is at least as wide as each of its cells. -/
theorem block_wide (c : Cfg) (ls : List Ln) (i k s : Nat) (hv : validC c = true) (hs : s ≤ i) (hl : i < s + rlen k (ls.drop s)) : cellW ls i k ≤ (blkOf c ls s k).wid := by
  have h1 := rmax_ge k (ls.drop s) (i - s) (by omega)
  rw [cellW_drop, show s + (i - s) = i by omega] at h1
  have ht := (validC_iff c).1 hv
  refine Int.le_trans h1 ?_
  show _ ≤ blockW c _
  unfold blockW
  split
  · have := roundI_ge c (max c.cmin (rmax k (ls.drop s) + c.cpadding)) (by omega)
    omega
  · rename_i h
    omega
/-! ### the sum of the blocks' lengths -/
def nsum (f : Nat → Nat) : Nat → Nat
  | 0 => 0
  | n + 1 => nsum f n + f n
theorem nsum_add (f g : Nat → Nat) (n : Nat) : nsum (fun k => f k + g k) n = nsum f n + nsum g n := by
  induction n with
  | zero => rfl
  | succ n ih => simp only [nsum, ih]; omega
theorem nsum_eq (f g : Nat → Nat) (n : Nat) (h : ∀ k, f k = g k) : nsum f n = nsum g n := by
  rw [show f = g from funext h]
theorem nsum_zero (f : Nat → Nat) (n : Nat) (h : ∀ k, f k = 0) : nsum f n = 0 := by
  induction n with
  | zero => rfl
  | succ n ih => simp only [nsum, ih, h]
theorem nsum_ind (m n : Nat) (h : m ≤ n) : nsum (fun k => if k < m then 1 else 0) n = m := by
  have key : ∀ n, nsum (fun k => if k < m then 1 else 0) n = if n ≤ m then n else m := by
    intro n
    induction n with
    | zero => simp [nsum]
    | succ n ih =>
      simp only [nsum, ih]
      split <;> split <;> split <;> omega
  rw [key]
  split <;> omega
theorem nsum_more (f : Nat → Nat) (m n : Nat) (h : m ≤ n) (hz : ∀ k, m ≤ k → f k = 0) : nsum f n = nsum f m := by
  induction n with
  | zero => obtain rfl : m = 0 := by omega
            rfl
  | succ n ih =>
    rcases Nat.lt_or_ge n m with h1 | h1
    · obtain rfl : m = n + 1 := by omega
      rfl
    · simp only [nsum, ih h1, hz n h1, Nat.add_zero]
def sumB : List Bk → Int
  | [] => 0
  | b :: r => (b.to - b.frm) + sumB r
theorem sumB_append (a b : List Bk) : sumB (a ++ b) = sumB a + sumB b := by
  induction a with
  | nil => simp [sumB]
  | cons x r ih => simp only [List.cons_append, sumB, ih]; omega
def begCol (ls : List Ln) (i k : Nat) : Nat := if begB ls i k = true then rlen k (ls.drop i) else 0
def opnN (ls : List Ln) (i k : Nat) : Nat := if begB ls i k = true then 0 else rlen k (ls.drop i)
theorem col_step (ls : List Ln) (i k : Nat) (hi : i < ls.length) : begCol ls i k + opnN ls i k = (if k < cellsN ls i then 1 else 0) + opnN ls (i + 1) k := by
  have e1 : begCol ls i k + opnN ls i k = rlen k (ls.drop i) := by unfold begCol opnN; split <;> omega
  rw [e1]
  have hb := begB_true ls (i + 1) k
  rw [Nat.add_sub_cancel] at hb
  by_cases hk : k < cellsN ls i
  · have hk' : k < ls[i].cells.length := by rw [cellsN_lt ls i hi] at hk; exact hk
    rw [List.drop_eq_getElem_cons hi, rlen_cons k _ _ hk', if_pos hk]
    have hfin : finN ls i = ls[i].fin := finN_lt ls i hi
    unfold opnN
    by_cases hn : k < cellsN ls (i + 1)
    · by_cases hf : ls[i].fin = 12
      · rw [if_pos hf, if_pos (hb.2 ⟨hn, .inr (.inr (by rw [hfin]; exact hf))⟩)]
      · rw [if_neg hf, if_neg]
        intro h
        rcases (hb.1 h).2 with h | h | h
        · omega
        · omega
        · rw [hfin] at h; exact hf h
    · have hz : rlen k (ls.drop (i + 1)) = 0 := rlen_none k _ (by rw [cellsN_drop]; exact hn)
      rw [hz]
      split <;> split <;> rfl
  · have hz : rlen k (ls.drop i) = 0 := rlen_none k _ (by rw [cellsN_drop]; exact hk)
    rw [hz, if_neg hk]
    unfold opnN
    by_cases hn : k < cellsN ls (i + 1)
    · rw [if_pos (hb.2 ⟨hn, .inr (.inl (by omega))⟩)]
    · have hz : rlen k (ls.drop (i + 1)) = 0 := rlen_none k _ (by rw [cellsN_drop]; exact hn)
      rw [hz]
      split <;> rfl
theorem sum_col (c : Cfg) (ls : List Ln) (i n : Nat) : sumB (colBks c ls i n) = ((nsum (begCol ls i) n : Nat) : Int) := by
  induction n with
  | zero => rfl
  | succ n ih =>
    cases hb : begB ls i n with
    | true =>
      rw [colBks_yes c ls i n hb, sumB_append, ih]
      have e : begCol ls i n = rlen n (ls.drop i) := by unfold begCol; rw [if_pos hb]
      simp only [nsum, e, sumB, blkOf]
      omega
    | false =>
      rw [colBks_no c ls i n hb, ih]
      have e : begCol ls i n = 0 := by unfold begCol; rw [hb]; rfl
      simp only [nsum, e, Nat.add_zero]
def cellSum (ls : List Ln) : Nat → Nat := nsum (cellsN ls)
theorem sum_lines (c : Cfg) (ls : List Ln) : ∀ n, n ≤ ls.length → sumB (lineBks c ls n) = ((cellSum ls n + nsum (opnN ls n) (totL ls) : Nat) : Int)
  | 0, _ => by
    have hz : nsum (opnN ls 0) (totL ls) = 0 := nsum_zero _ _ fun k => by
      unfold opnN
      by_cases hk : k < cellsN ls 0
      · rw [if_pos ((begB_true ls 0 k).2 ⟨hk, .inl rfl⟩)]
      · have hz : rlen k (ls.drop 0) = 0 := rlen_none k _ (by rw [cellsN_drop]; exact hk)
        rw [hz]
        split <;> rfl
    rw [hz]
    rfl
  | n + 1, h => by
    have ih := sum_lines c ls n (by omega)
    have hn : n < ls.length := by omega
    rw [lineBks_succ, sumB_append, ih, sum_col]
    have hc := cellsN_le ls n
    have e1 : nsum (begCol ls n) (totL ls) = nsum (begCol ls n) (cellsN ls n) := nsum_more _ _ _ hc fun k hk => by
      unfold begCol
      rw [if_neg]
      intro hb
      have := ((begB_true ls n k).1 hb).1
      omega
    have e2 : nsum (begCol ls n) (totL ls) + nsum (opnN ls n) (totL ls) = cellsN ls n + nsum (opnN ls (n + 1)) (totL ls) := by
      rw [← nsum_add, nsum_eq _ _ _ (fun k => col_step ls n k hn), nsum_add, nsum_ind _ _ hc]
    have e3 : cellSum ls (n + 1) = cellSum ls n + cellsN ls n := rfl
    rw [e3]
    omega
/-- The blocks' lengths add up to the number of cells. -/
theorem sum_blocks (c : Cfg) (ls : List Ln) : sumB (bksL c ls) = ((cellSum ls ls.length : Nat) : Int) := by
  have h := sum_lines c ls ls.length (Nat.le_refl _)
  have hz : nsum (opnN ls ls.length) (totL ls) = 0 := nsum_zero _ _ fun k => by
    unfold opnN
    rw [List.drop_of_length_le (Nat.le_refl _)]
    split <;> rfl
  rw [hz] at h
  exact h
end Go.Proofs.YtooanejiadbngaaGreatDoor
