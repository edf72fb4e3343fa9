/- Column blocks as the program keeps them, cell by cell: plain words. No walk. -/
import Derived.Test.YtooanejiadbngaaGreatDoorBlkMath
namespace Go.Proofs.YtooanejiadbngaaGreatDoor
open Go.RowKit
set_option linter.unusedVariables false

/-! ### the width of a block so far -/
/-- The greatest cell of the first n lines; the greatest of their cells' own block widths. -/
def topW (ls : List Ln) (s k : Nat) : Nat → Int
  | 0 => 0
  | n + 1 => max (topW ls s k n) (cellW ls (s + n) k)
def runW (c : Cfg) (ls : List Ln) (s k : Nat) : Nat → Int
  | 0 => 0
  | n + 1 => max (runW c ls s k n) (blockW c (cellW ls (s + n) k))
theorem roundI_mono (c : Cfg) (a b : Int) (ht : 1 ≤ c.ctab) (h : a ≤ b) : roundI c a ≤ roundI c b := by
  unfold roundI
  split
  · exact Int.mul_le_mul_of_nonneg_right (Int.ediv_le_ediv (by omega) (by omega)) (by omega)
  · exact h
theorem blockW_zero_le (c : Cfg) (a : Int) (hv : validC c = true) : 0 ≤ blockW c a := by
  have ht := (validC_iff c).1 hv
  unfold blockW
  split
  · have := roundI_ge c (max c.cmin (a + c.cpadding)) (by omega)
    omega
  · exact Int.le_refl _
theorem blockW_mono (c : Cfg) (a b : Int) (hv : validC c = true) (h : a ≤ b) : blockW c a ≤ blockW c b := by
  have ht := (validC_iff c).1 hv
  by_cases h1 : 0 < a ∨ c.fd = false
  · have h2 : 0 < b ∨ c.fd = false := h1.imp (fun h => by omega) id
    unfold blockW
    rw [if_pos h1, if_pos h2]
    exact roundI_mono c _ _ (by omega) (by omega)
  · have : blockW c a = 0 := if_neg h1
    rw [this]
    exact blockW_zero_le c b hv
theorem blockW_max (c : Cfg) (a b : Int) (hv : validC c = true) : blockW c (max a b) = max (blockW c a) (blockW c b) := by
  rcases Int.le_total a b with h | h
  · rw [Int.max_eq_right h, Int.max_eq_right (blockW_mono c a b hv h)]
  · rw [Int.max_eq_left h, Int.max_eq_left (blockW_mono c b a hv h)]
theorem cellW_pos {ls : List Ln} (hf : fitsB ls = true) (i k : Nat) : 0 ≤ cellW ls i k ∧ cellW ls i k ≤ 100000 := by
  unfold cellW
  by_cases hi : i < ls.length
  · rw [List.getElem?_eq_getElem hi]
    simp only
    by_cases hk : k < ls[i].cells.length
    · rw [List.getElem?_eq_getElem hk]
      exact fitsB_wid hf i hi k hk
    · rw [List.getElem?_eq_none (by omega)]
      exact ⟨Int.le_refl _, by show (0 : Int) ≤ _; omega⟩
  · rw [List.getElem?_eq_none (by omega)]
    exact ⟨Int.le_refl _, by show (0 : Int) ≤ _; omega⟩
theorem cellW_at {ls : List Ln} {i k : Nat} (hi : i < ls.length) (hk : k < ls[i].cells.length) : cellW ls i k = ls[i].cells[k].wid := by
  unfold cellW
  rw [List.getElem?_eq_getElem hi]
  simp only
  rw [List.getElem?_eq_getElem hk]
theorem topW_bd {ls : List Ln} (hf : fitsB ls = true) (s k : Nat) : ∀ n, 0 ≤ topW ls s k n ∧ topW ls s k n ≤ 100000
  | 0 => ⟨Int.le_refl _, by show (0 : Int) ≤ _; omega⟩
  | n + 1 => by
    have h1 := topW_bd hf s k n
    have h2 := cellW_pos hf (s + n) k
    rw [topW]
    omega
theorem runW_top (c : Cfg) {ls : List Ln} (hv : validC c = true) (hf : fitsB ls = true) (s k : Nat) : ∀ n, runW c ls s k (n + 1) = blockW c (topW ls s k (n + 1))
  | 0 => by
    have h1 := cellW_pos hf s k
    have h2 := blockW_zero_le c (cellW ls s k) hv
    rw [runW, runW, topW, topW, Nat.add_zero, Int.max_eq_right h2, Int.max_eq_right h1.1]
  | n + 1 => by
    rw [runW, topW, runW_top c hv hf s k n, blockW_max c _ _ hv]
theorem runW_bd (c : Cfg) {ls : List Ln} (hv : validC c = true) (hf : fitsB ls = true) (s k n : Nat) : 0 ≤ runW c ls s k n := by
  cases n with
  | zero => exact Int.le_refl _
  | succ n => rw [runW_top c hv hf]; exact blockW_zero_le c _ hv
/-- The greatest of the whole run. -/
theorem topW_cons (l : Ln) (t : List Ln) (s k n : Nat) : topW (l :: t) (s + 1) k n = topW t s k n := by
  induction n with
  | zero => rfl
  | succ n ih =>
    rw [topW, topW, ih]
    have : cellW (l :: t) (s + 1 + n) k = cellW t (s + n) k := by
      rw [show s + 1 + n = (s + n) + 1 by omega]
      rfl
    rw [this]
theorem topW_drop (ls : List Ln) (s k n : Nat) : topW ls s k n = topW (ls.drop s) 0 k n := by
  induction n with
  | zero => rfl
  | succ n ih => rw [topW, topW, ih, cellW_drop, Nat.zero_add]
theorem topW_head (ls : List Ln) (k : Nat) : ∀ n, topW ls 0 k (n + 1) = max (max 0 (cellW ls 0 k)) (topW ls 1 k n)
  | 0 => by
    show max (0 : Int) (cellW ls (0 + 0) k) = max (max 0 (cellW ls 0 k)) 0
    rw [Nat.add_zero]
    omega
  | n + 1 => by
    rw [topW, topW_head ls k n, topW]
    rw [show 0 + (n + 1) = 1 + n by omega]
    omega
theorem topW_rmax : ∀ (ls : List Ln) (k : Nat), (∀ i, 0 ≤ cellW ls i k) → topW ls 0 k (rlen k ls) = rmax k ls
  | [], k, _ => rfl
  | l :: t, k, h => by
    by_cases hk : k < l.cells.length
    · have e0 : cellW (l :: t) 0 k = l.cells[k].wid := by
        show (match l.cells[k]? with | some x => x.wid | none => 0) = _
        rw [List.getElem?_eq_getElem hk]
      have h0 := h 0
      rw [e0] at h0
      rw [rlen_cons k l t hk, Nat.add_comm, topW_head, e0, rmax, List.getElem?_eq_getElem hk, topW_cons]
      simp only
      by_cases hf : l.fin = 12
      · rw [if_pos hf, if_pos hf]
        show max (max (0 : Int) _) 0 = max _ 0
        omega
      · rw [if_neg hf, if_neg hf, topW_rmax t k (fun i => h (i + 1))]
        omega
    · have h1 : rlen k (l :: t) = 0 := by rw [rlen, if_neg hk]
      have h2 : rmax k (l :: t) = 0 := by rw [rmax, List.getElem?_eq_none (by omega)]
      rw [h1, h2]
      rfl
theorem runW_all (c : Cfg) {ls : List Ln} (hv : validC c = true) (hf : fitsB ls = true) (s k : Nat) (hb : begB ls s k = true) : runW c ls s k (rlen k (ls.drop s)) = blockW c (rmax k (ls.drop s)) := by
  have hp := rlen_pos k (ls.drop s) (by rw [cellsN_drop]; exact ((begB_true ls s k).1 hb).1)
  have h1 := topW_rmax (ls.drop s) k (fun i => by rw [cellW_drop]; exact (cellW_pos hf _ k).1)
  rw [← topW_drop] at h1
  rw [← h1]
  obtain ⟨n, hn⟩ : ∃ n, rlen k (ls.drop s) = n + 1 := ⟨rlen k (ls.drop s) - 1, by omega⟩
  rw [hn]
  exact runW_top c hv hf s k n
/-! ### the blocks so far -/
/-- Where blocks begin: in the first n columns of line i; in the first n lines. -/
def begP (ls : List Ln) (i n : Nat) : List (Nat × Nat) := ((List.range n).filter (begB ls i)).map fun k => (i, k)
def linP (ls : List Ln) (n : Nat) : List (Nat × Nat) := (List.range n).flatMap fun i => begP ls i (cellsN ls i)
/-- .. ahead of column k of line i. -/
def curP (ls : List Ln) (i k : Nat) : List (Nat × Nat) := linP ls i ++ begP ls i k
theorem begP_zero (ls : List Ln) (i : Nat) : begP ls i 0 = [] := rfl
theorem begP_yes (ls : List Ln) (i k : Nat) (h : begB ls i k = true) : begP ls i (k + 1) = begP ls i k ++ [(i, k)] := by
  unfold begP; rw [List.range_succ, List.filter_append, List.map_append]; simp [h]
theorem begP_no (ls : List Ln) (i k : Nat) (h : begB ls i k = false) : begP ls i (k + 1) = begP ls i k := by
  unfold begP; rw [List.range_succ, List.filter_append, List.map_append]; simp [h]
theorem linP_succ (ls : List Ln) (n : Nat) : linP ls (n + 1) = curP ls n (cellsN ls n) := by
  unfold linP curP; rw [List.range_succ, List.flatMap_append]; simp [linP]
theorem curP_next (ls : List Ln) (i : Nat) : curP ls (i + 1) 0 = curP ls i (cellsN ls i) := by
  have h : curP ls (i + 1) 0 = linP ls (i + 1) := by show linP ls (i + 1) ++ [] = _; rw [List.append_nil]
  rw [h, linP_succ]
theorem curP_yes (ls : List Ln) (i k : Nat) (h : begB ls i k = true) : curP ls i (k + 1) = curP ls i k ++ [(i, k)] := by
  unfold curP; rw [begP_yes ls i k h, List.append_assoc]
theorem curP_no (ls : List Ln) (i k : Nat) (h : begB ls i k = false) : curP ls i (k + 1) = curP ls i k := by
  unfold curP; rw [begP_no ls i k h]
theorem mem_begP (ls : List Ln) (i n : Nat) (p : Nat × Nat) (h : p ∈ begP ls i n) : p.1 = i ∧ p.2 < n ∧ begB ls p.1 p.2 = true := by
  unfold begP at h
  obtain ⟨k, hk, rfl⟩ := List.mem_map.1 h
  obtain ⟨h1, h2⟩ := List.mem_filter.1 hk
  exact ⟨rfl, List.mem_range.1 h1, h2⟩
theorem mem_linP (ls : List Ln) (n : Nat) (p : Nat × Nat) (h : p ∈ linP ls n) : p.1 < n ∧ begB ls p.1 p.2 = true := by
  unfold linP at h
  obtain ⟨i, hi, hp⟩ := List.mem_flatMap.1 h
  obtain ⟨h1, h2, h3⟩ := mem_begP ls i _ p hp
  have := List.mem_range.1 hi
  exact ⟨by omega, h3⟩
theorem mem_curP (ls : List Ln) (i k : Nat) (p : Nat × Nat) (h : p ∈ curP ls i k) : begB ls p.1 p.2 = true ∧ (p.1 < i ∨ p.1 = i ∧ p.2 < k) := by
  rcases List.mem_append.1 h with h | h
  · obtain ⟨h1, h2⟩ := mem_linP ls i p h
    exact ⟨h2, .inl h1⟩
  · obtain ⟨h1, h2, h3⟩ := mem_begP ls i k p h
    exact ⟨h3, .inr ⟨h1, h2⟩⟩
theorem begP_nodup (ls : List Ln) (i n : Nat) : (begP ls i n).Nodup := by
  unfold begP
  refine List.Pairwise.map _ (fun a b h => ?_) (List.nodup_range.filter _)
  simpa using h
theorem linP_nodup (ls : List Ln) : ∀ n, (linP ls n).Nodup
  | 0 => List.nodup_nil
  | n + 1 => by
    rw [linP_succ]
    unfold curP
    rw [List.nodup_append]
    refine ⟨linP_nodup ls n, begP_nodup ls n _, fun a ha b hb he => ?_⟩
    have h1 := (mem_linP ls n a ha).1
    have h2 := (mem_begP ls n _ b hb).1
    rw [he] at h1
    omega
theorem curP_nodup (ls : List Ln) (i k : Nat) : (curP ls i k).Nodup := by
  unfold curP
  rw [List.nodup_append]
  refine ⟨linP_nodup ls i, begP_nodup ls i k, fun a ha b hb he => ?_⟩
  have h1 := (mem_linP ls i a ha).1
  have h2 := (mem_begP ls i _ b hb).1
  rw [he] at h1
  omega
/-- How many lines of the block that begins at p have been seen, ahead of column k of line i. -/
def seenN (ls : List Ln) (i k : Nat) (p : Nat × Nat) : Nat := min (rlen p.2 (ls.drop p.1)) ((i - p.1) + if p.2 < k then 1 else 0)
/-- The block so far. -/
def parB (c : Cfg) (ls : List Ln) (i k : Nat) (p : Nat × Nat) : Bk := ⟨(p.2 : Int), (p.1 : Int), ((p.1 + seenN ls i k p : Nat) : Int), runW c ls p.1 p.2 (seenN ls i k p)⟩
/-- All blocks so far. -/
def curB (c : Cfg) (ls : List Ln) (i k : Nat) : List Bk := (curP ls i k).map (parB c ls i k)
theorem curB_len (c : Cfg) (ls : List Ln) (i k : Nat) : (curB c ls i k).length = (curP ls i k).length := List.length_map _
theorem curB_zero (c : Cfg) (ls : List Ln) : curB c ls 0 0 = [] := rfl
/-- A block that begins at s does not hold a line where another one of its column begins. -/
theorem ended_by (ls : List Ln) (k s i : Nat) (hs : s < i) (hb : begB ls i k = true) : s + rlen k (ls.drop s) ≤ i := by
  rcases Nat.lt_or_ge i (s + rlen k (ls.drop s)) with hl | hl
  · exfalso
    have f1 := rlen_inside k (ls.drop s) (i - 1 - s) (by omega)
    have f2 := rlen_cells k (ls.drop s) (i - 1 - s) (by omega)
    rw [finN_drop, show s + (i - 1 - s) = i - 1 by omega] at f1
    rw [cellsN_drop, show s + (i - 1 - s) = i - 1 by omega] at f2
    obtain ⟨_, h⟩ := (begB_true ls i k).1 hb
    rcases h with h | h | h
    · omega
    · omega
    · exact f1 h
  · exact hl
theorem seenN_other (ls : List Ln) (i k : Nat) (p : Nat × Nat) (h : p.2 ≠ k) : seenN ls i (k + 1) p = seenN ls i k p := by
  unfold seenN
  by_cases h1 : p.2 < k
  · rw [if_pos h1, if_pos (by omega)]
  · rw [if_neg h1, if_neg (by omega)]
theorem seenN_ended (ls : List Ln) (i k : Nat) (p : Nat × Nat) (hs : p.1 + rlen p.2 (ls.drop p.1) ≤ i) : seenN ls i k p = rlen p.2 (ls.drop p.1) := by
  unfold seenN
  split <;> omega
/-- A new block. -/
theorem curB_new (c : Cfg) {ls : List Ln} (hv : validC c = true) (hf : fitsB ls = true) (i k : Nat) (h : begB ls i k = true) :
    curB c ls i (k + 1) = curB c ls i k ++ [⟨(k : Int), (i : Int), ((i + 1 : Nat) : Int), max 0 (blockW c (cellW ls i k))⟩] := by
  unfold curB
  rw [curP_yes ls i k h, List.map_append]
  have e1 : (curP ls i k).map (parB c ls i (k + 1)) = (curP ls i k).map (parB c ls i k) := by
    refine List.map_congr_left fun p hp => ?_
    have hs : seenN ls i (k + 1) p = seenN ls i k p := by
      by_cases hk : p.2 = k
      · have hm := (mem_curP ls i k p hp).2
        have he := ended_by ls p.2 p.1 i (by omega) (by rw [hk]; exact h)
        rw [seenN_ended ls i _ p he, seenN_ended ls i _ p he]
      · exact seenN_other ls i k p hk
    unfold parB
    rw [hs]
  rw [e1]
  have hp := rlen_pos k (ls.drop i) (by rw [cellsN_drop]; exact ((begB_true ls i k).1 h).1)
  have hs : seenN ls i (k + 1) (i, k) = 1 := by
    unfold seenN
    simp only
    rw [if_pos (by omega)]
    omega
  congr 1
  show [parB c ls i (k + 1) (i, k)] = _
  unfold parB
  rw [hs]
  rfl
/-- The block at place j of the list holds line i, in column q. -/
def HoldsP (P : List (Nat × Nat)) (ls : List Ln) (i q j : Nat) : Prop := ∃ s, P[j]? = some (s, q) ∧ s ≤ i ∧ i < s + rlen q (ls.drop s)
theorem HoldsP.more {P : List (Nat × Nat)} {ls : List Ln} {i q j : Nat} (h : HoldsP P ls i q j) (R : List (Nat × Nat)) : HoldsP (P ++ R) ls i q j := by
  obtain ⟨s, h1, h2⟩ := h
  exact ⟨s, by rw [List.getElem?_append_left (List.getElem?_eq_some_iff.1 h1).1]; exact h1, h2⟩
theorem HoldsP.lt {P : List (Nat × Nat)} {ls : List Ln} {i q j : Nat} (h : HoldsP P ls i q j) : j < P.length := by
  obtain ⟨s, h1, _⟩ := h
  exact (List.getElem?_eq_some_iff.1 h1).1
theorem HoldsP.next {P : List (Nat × Nat)} {ls : List Ln} {i q j : Nat} (h : HoldsP P ls i q j) (hf : finN ls i ≠ 12) (hc : q < cellsN ls (i + 1)) : HoldsP P ls (i + 1) q j := by
  obtain ⟨s, h1, h2, h3⟩ := h
  refine ⟨s, h1, by omega, ?_⟩
  have := rlen_next q (ls.drop s) (i - s) (by omega) (by rw [finN_drop, show s + (i - s) = i by omega]; exact hf) (by rw [cellsN_drop, show s + (i - s + 1) = i + 1 by omega]; exact hc)
  omega
theorem HoldsP.made {ls : List Ln} {i k : Nat} (h : begB ls i k = true) : HoldsP (curP ls i (k + 1)) ls i k (curP ls i k).length := by
  refine ⟨i, ?_, Nat.le_refl _, ?_⟩
  · rw [curP_yes ls i k h, List.getElem?_append_right (Nat.le_refl _), Nat.sub_self]
    rfl
  · have := rlen_pos k (ls.drop i) (by rw [cellsN_drop]; exact ((begB_true ls i k).1 h).1)
    omega
/-- An open block takes a line more. -/
theorem curB_more (c : Cfg) (ls : List Ln) (i k j : Nat) (hb : begB ls i k = false) (h : HoldsP (curP ls i k) ls i k j) :
    ∃ b : Bk, (curB c ls i k)[j]? = some b ∧ curB c ls i (k + 1) = (curB c ls i k).set j ⟨b.col, b.frm, ((i + 1 : Nat) : Int), max b.wid (blockW c (cellW ls i k))⟩ := by
  obtain ⟨s, h1, h2, h3⟩ := h
  have hj := (List.getElem?_eq_some_iff.1 h1).1
  have hsi : s < i := by
    rcases Nat.lt_or_ge s i with h | h
    · exact h
    · obtain rfl : s = i := by omega
      have := (mem_curP ls s k (s, k) (List.mem_of_getElem? h1)).1
      rw [hb] at this
      cases this
  have hold : seenN ls i k (s, k) = i - s := by unfold seenN; simp only; rw [if_neg (by omega)]; omega
  have hnew : seenN ls i (k + 1) (s, k) = i - s + 1 := by unfold seenN; simp only; rw [if_pos (by omega)]; omega
  refine ⟨parB c ls i k (s, k), by unfold curB; rw [List.getElem?_map, h1]; rfl, ?_⟩
  unfold curB
  rw [curP_no ls i k hb]
  apply List.ext_getElem?
  intro t
  rw [List.getElem?_map, List.getElem?_set]
  by_cases ht : j = t
  · subst ht
    rw [if_pos rfl, List.length_map, if_pos hj, h1]
    show some (parB c ls i (k + 1) (s, k)) = _
    unfold parB
    rw [hold, hnew]
    congr 2
    · omega
    · rw [runW, show s + (i - s) = i by omega]
  · rw [if_neg ht, List.getElem?_map]
    cases hp : (curP ls i k)[t]? with
    | none => rfl
    | some p =>
      have hs : seenN ls i (k + 1) p = seenN ls i k p := by
        by_cases hk : p.2 = k
        · have hm := mem_curP ls i k p (List.mem_of_getElem? hp)
          have hne : p.1 ≠ s := by
            intro he
            have hpe : p = (s, k) := by rw [← he, ← hk]
            have ht' := (List.getElem?_eq_some_iff.1 hp).1
            exact ht ((List.getElem?_inj hj (curP_nodup ls i k)).1 (by rw [h1, hp, hpe]))
          rcases Nat.lt_trichotomy p.1 s with hl | hl | hl
          · have hbs := (mem_curP ls i k (s, k) (List.mem_of_getElem? h1)).1
            have he := ended_by ls p.2 p.1 s hl (by rw [hk]; exact hbs)
            rw [seenN_ended ls i _ p (by omega), seenN_ended ls i _ p (by omega)]
          · exact absurd hl hne
          · have he := ended_by ls k s p.1 hl (by have := hm.1; rw [hk] at this; exact this)
            have := hm.2
            omega
        · exact seenN_other ls i k p hk
      show some (parB c ls i (k + 1) p) = some (parB c ls i k p)
      unfold parB
      rw [hs]
/-- The end of a line. -/
theorem curB_next (c : Cfg) (ls : List Ln) (i : Nat) : curB c ls (i + 1) 0 = curB c ls i (cellsN ls i) := by
  unfold curB
  rw [curP_next]
  refine List.map_congr_left fun p hp => ?_
  have hm := (mem_curP ls i _ p hp).2
  have hs : seenN ls (i + 1) 0 p = seenN ls i (cellsN ls i) p := by
    unfold seenN
    rw [if_neg (by omega)]
    by_cases hk : p.2 < cellsN ls i
    · rw [if_pos hk]
      omega
    · rw [if_neg hk]
      have : rlen p.2 (ls.drop p.1) ≤ i - p.1 := by
        rcases Nat.lt_or_ge (i - p.1) (rlen p.2 (ls.drop p.1)) with h | h
        · exfalso
          have := rlen_cells p.2 (ls.drop p.1) (i - p.1) h
          rw [cellsN_drop, show p.1 + (i - p.1) = i by omega] at this
          exact hk this
        · exact h
      omega
  unfold parB
  rw [hs]
/-- The end of the lines: all blocks. -/
theorem curB_all (c : Cfg) {ls : List Ln} (hv : validC c = true) (hf : fitsB ls = true) : curB c ls ls.length 0 = bksL c ls := by
  have e : ∀ n, lineBks c ls n = (linP ls n).map fun p => blkOf c ls p.1 p.2 := by
    intro n
    unfold lineBks linP
    rw [List.map_flatMap]
    congr 1
    funext i
    unfold colBks begP
    rw [List.map_map]
    rfl
  unfold bksL
  rw [e]
  unfold curB
  have hc : curP ls ls.length 0 = linP ls ls.length := by show linP ls ls.length ++ [] = _; rw [List.append_nil]
  rw [hc]
  refine List.map_congr_left fun p hp => ?_
  obtain ⟨h1, h2⟩ := mem_linP ls _ p hp
  have hl := rlen_le p.2 (ls.drop p.1)
  rw [List.length_drop] at hl
  have hs : seenN ls ls.length 0 p = rlen p.2 (ls.drop p.1) := by unfold seenN; omega
  unfold parB blkOf
  rw [hs, runW_all c hv hf p.1 p.2 h2]
/-! ### which columns are open -/
/-- How many columns are open ahead of line i. -/
def opnM (ls : List Ln) (i : Nat) : Nat := if i = 0 then 0 else if finN ls (i - 1) = 12 then 0 else cellsN ls (i - 1)
theorem opnM_zero (ls : List Ln) : opnM ls 0 = 0 := rfl
theorem opnM_succ (ls : List Ln) (i : Nat) : opnM ls (i + 1) = if finN ls i = 12 then 0 else cellsN ls i := by
  unfold opnM; rw [if_neg (by omega), Nat.add_sub_cancel]
/-- .. ahead of column k of line i, the columns that this line lacks ended. -/
def opnK (ls : List Ln) (i k : Nat) : Nat := max (min (opnM ls i) (cellsN ls i)) k
theorem beg_opn (ls : List Ln) (i k : Nat) (hk : k < cellsN ls i) : begB ls i k = decide (opnK ls i k = k) := by
  rw [Bool.eq_iff_iff, begB_true, decide_eq_true_iff]
  unfold opnK opnM
  constructor
  · rintro ⟨_, h⟩
    rcases h with h | h | h
    · rw [if_pos h]; omega
    · split
      · omega
      · split <;> omega
    · split
      · omega
      · omega
  · intro h
    refine ⟨hk, ?_⟩
    by_cases h0 : i = 0
    · exact .inl h0
    · rw [if_neg h0] at h
      by_cases h1 : finN ls (i - 1) = 12
      · exact .inr (.inr h1)
      · rw [if_neg h1] at h
        exact .inr (.inl (by omega))
theorem opnK_zero (ls : List Ln) (i : Nat) : opnK ls i 0 = min (opnM ls i) (cellsN ls i) := by unfold opnK; omega
theorem opnK_yes (ls : List Ln) (i k : Nat) (hk : k < cellsN ls i) (h : begB ls i k = true) : opnK ls i k = k ∧ opnK ls i (k + 1) = k + 1 := by
  rw [beg_opn ls i k hk, decide_eq_true_iff] at h
  refine ⟨h, ?_⟩
  unfold opnK at *
  omega
theorem opnK_no (ls : List Ln) (i k : Nat) (hk : k < cellsN ls i) (h : begB ls i k = false) : k < opnK ls i k ∧ opnK ls i (k + 1) = opnK ls i k := by
  rw [beg_opn ls i k hk, decide_eq_false_iff_not] at h
  unfold opnK at *
  omega
theorem opnK_end (ls : List Ln) (i : Nat) : opnK ls i (cellsN ls i) = cellsN ls i := by unfold opnK; omega
theorem opnK_le (ls : List Ln) (i k : Nat) (hk : k ≤ cellsN ls i) : opnK ls i k ≤ cellsN ls i := by unfold opnK; omega
theorem opnM_le (ls : List Ln) (i : Nat) : opnM ls i ≤ totL ls := by
  unfold opnM
  split
  · omega
  · split
    · omega
    · exact cellsN_le ls _
/-- Where the open columns' blocks stand. -/
def OpnS (ls : List Ln) (f : Nat → Nat) (i : Nat) : Prop := ∀ q, q < opnM ls (i + 1) → HoldsP (curP ls (i + 1) 0) ls i q (f q)
def OpnK (ls : List Ln) (f : Nat → Nat) (i k : Nat) : Prop := ∀ q, q < opnK ls i k → HoldsP (curP ls i k) ls i q (f q)
theorem OpnK.first (ls : List Ln) (f : Nat → Nat) : OpnK ls f 0 0 := fun q hq => by
  rw [opnK_zero, opnM_zero] at hq
  omega
theorem OpnS.line {ls : List Ln} {f : Nat → Nat} {i : Nat} (h : OpnS ls f i) : OpnK ls f (i + 1) 0 := fun q hq => by
  rw [opnK_zero] at hq
  have h1 := h q (by omega)
  refine h1.next ?_ (by omega)
  intro hf
  rw [opnM_succ, if_pos hf] at hq
  omega
theorem OpnK.close {ls : List Ln} {f : Nat → Nat} {i : Nat} (h : OpnK ls f i (cellsN ls i)) : OpnS ls f i := fun q hq => by
  rw [opnM_succ] at hq
  rw [curP_next]
  refine h q ?_
  rw [opnK_end]
  split at hq <;> omega
theorem OpnK.no {ls : List Ln} {f : Nat → Nat} {i k : Nat} (h : OpnK ls f i k) (hk : k < cellsN ls i) (hb : begB ls i k = false) : OpnK ls f i (k + 1) := fun q hq => by
  rw [(opnK_no ls i k hk hb).2] at hq
  rw [curP_no ls i k hb]
  exact h q hq
def putF (f : Nat → Nat) (k v : Nat) : Nat → Nat := fun q => if q = k then v else f q
theorem putF_at (f : Nat → Nat) (k v : Nat) : putF f k v k = v := if_pos rfl
theorem putF_ne (f : Nat → Nat) {k q : Nat} (v : Nat) (h : ¬ q = k) : putF f k v q = f q := if_neg h
theorem OpnK.yes {ls : List Ln} {f : Nat → Nat} {i k : Nat} (h : OpnK ls f i k) (hk : k < cellsN ls i) (hb : begB ls i k = true) : OpnK ls (putF f k (curP ls i k).length) i (k + 1) := fun q hq => by
  obtain ⟨h1, h2⟩ := opnK_yes ls i k hk hb
  rw [h2] at hq
  by_cases hqk : q = k
  · subst hqk
    rw [putF_at]
    exact HoldsP.made hb
  · rw [putF_ne _ _ hqk, curP_yes ls i k hb]
    exact (h q (by omega)).more _
theorem lineBks_bound (c : Cfg) (ls : List Ln) (i k : Nat) (hi : i < ls.length) (hk : k ≤ cellsN ls i) : (lineBks c ls i ++ colBks c ls i k).length ≤ totL ls := by
  have h1 := lineBks_len c ls i (by omega)
  have h2 := colBks_len c ls i k
  have h3 := totL_drop ls i hi
  have h4 : totL (ls.take i) + totL (ls.drop i) = totL ls := by
    have key : ∀ a b : List Ln, totL (a ++ b) = totL a + totL b := by
      intro a b
      induction a with
      | nil => simp [totL]
      | cons x r ih => simp only [List.cons_append, totL, ih]; omega
    rw [← key, List.take_append_drop]
  rw [cellsN_lt ls i hi] at hk
  rw [List.length_append]
  omega
theorem curP_bd (ls : List Ln) (i k : Nat) (hi : i < ls.length) (hk : k ≤ cellsN ls i) : (curP ls i k).length ≤ totL ls := by
  have h1 : (curP ls i k).length = (lineBks ⟨0, 0, 0, 0, false, false, false, false, false⟩ ls i ++ colBks ⟨0, 0, 0, 0, false, false, false, false, false⟩ ls i k).length := by
    have e : ∀ n, (linP ls n).length = (lineBks ⟨0, 0, 0, 0, false, false, false, false, false⟩ ls n).length := by
      intro n
      induction n with
      | zero => rfl
      | succ n ih =>
        rw [linP_succ, lineBks_succ]
        unfold curP
        rw [List.length_append, List.length_append, ih]
        unfold begP colBks
        rw [List.length_map, List.length_map]
    unfold curP
    rw [List.length_append, List.length_append, e]
    unfold begP colBks
    rw [List.length_map, List.length_map]
  rw [h1]
  exact lineBks_bound _ ls i k hi hk
end Go.Proofs.YtooanejiadbngaaGreatDoor
