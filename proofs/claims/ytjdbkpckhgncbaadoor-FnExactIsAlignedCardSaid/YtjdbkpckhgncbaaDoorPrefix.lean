/- What follows cannot change the characters ahead of an incomplete one. No walk. -/
import Derived.Test.YtjdbkpckhgncbaaDoorSpecCompl
namespace Go.Proofs.YtjdbkpckhgncbaaDoor
open Go.RowKit
set_option linter.unusedVariables false

theorem foldC_congr (t s : ByteArray) (sh n : Nat) : ∀ p r, (∀ j, p ≤ j → j < p + n → by8 t j = by8 s (j + sh)) → foldC t n p r = foldC s n (p + sh) r := by
  induction n with
  | zero => intro p r _; rfl
  | succ n ih =>
    intro p r h
    have h0 := h p (Nat.le_refl _) (by omega)
    rw [foldC, foldC, h0, ih (p + 1) _ (fun j h1 h2 => h j (by omega) (by omega)), show p + 1 + sh = p + sh + 1 by omega]
theorem foldC_split (s : ByteArray) (d n : Nat) : ∀ p r, foldC s (n + d) p r = (foldC s n p r).bind (fun q => foldC s d (p + n) q) := by
  induction n with
  | zero => intro p r; simp [foldC]
  | succ n ih =>
    intro p r
    rw [show n + 1 + d = (n + d) + 1 by omega, foldC, foldC]
    by_cases h : 128 ≤ by8 s p ∧ by8 s p ≤ 191
    · rw [if_pos h, if_pos h, ih, show p + 1 + n = p + (n + 1) by omega]
    · rw [if_neg h, if_neg h]; rfl
theorem foldC_cont (s : ByteArray) (n : Nat) : ∀ p r v, foldC s n p r = some v → ∀ j, p ≤ j → j < p + n → 128 ≤ by8 s j ∧ by8 s j ≤ 191 := by
  induction n with
  | zero => intro p r v _ j h1 h2; omega
  | succ n ih =>
    intro p r v h j h1 h2
    by_cases hc : 128 ≤ by8 s p ∧ by8 s p ≤ 191
    · rw [foldC, if_pos hc] at h
      by_cases hj : j = p
      · subst hj; exact hc
      · exact ih (p + 1) _ v h j (by omega) (by omega)
    · rw [foldC, if_neg hc] at h; cases h
theorem lowE_le (d : Nat) : ∀ a b, a ≤ b → lowE d a ≤ lowE d b := by
  induction d with
  | zero => intro a b h; exact h
  | succ d ih => intro a b h; exact ih _ _ (by omega)
theorem highE_le (d : Nat) : ∀ a b, a ≤ b → highE d a ≤ highE d b := by
  induction d with
  | zero => intro a b h; exact h
  | succ d ih => intro a b h; exact ih _ _ (by omega)
theorem foldC_range (s : ByteArray) (d : Nat) : ∀ p q v, foldC s d p q = some v → lowE d q ≤ v ∧ v ≤ highE d q := by
  induction d with
  | zero => intro p q v h; injection h with h; subst h; exact ⟨Nat.le_refl _, Nat.le_refl _⟩
  | succ d ih =>
    intro p q v h
    by_cases hc : 128 ≤ by8 s p ∧ by8 s p ≤ 191
    · rw [foldC, if_pos hc] at h
      have := ih _ _ _ h
      have a := lowE_le d (64 * q) (64 * q + by8 s p - 128) (by omega)
      have b := highE_le d (64 * q + by8 s p - 128) (64 * q + 63) (by omega)
      show lowE d (64 * q) ≤ v ∧ v ≤ highE d (64 * q + 63)
      omega
    · rw [foldC, if_neg hc] at h; cases h
theorem range_of (n lo hi v : Nat) (h1 : lo ≤ v) (h2 : v ≤ hi) (h3 : ¬ v < leastN n) (h4 : pointB (v : Int) = true) : rangeB n lo hi = true := by
  rw [pointB_iff] at h4
  have hL := leastN_le n
  rw [rangeB_iff n lo hi (by omega)]
  omega
/-- The m bytes from index i on are a proper beginning of an encoding. -/
def begAt (s : ByteArray) (i m : Nat) : Bool :=
  if needN (by8 s i) ≤ m then false else endB (needN (by8 s i)) (needN (by8 s i) - m) (foldC s (m - 1) (i + 1) (needR (by8 s i)))
theorem beg_tail (s : ByteArray) (m : Nat) (h1 : 1 ≤ m) (h : m ≤ s.size) : beginsB (s.extract (s.size - m) s.size) = begAt s (s.size - m) m := by
  have hz := tail_size s m h
  have hb : ∀ j, j < m → by8 (s.extract (s.size - m) s.size) j = by8 s (j + (s.size - m)) := by
    intro j hj
    rw [by8_of _ _ (by rw [hz]; exact hj), by8_of s _ (by omega)]
    simp [ByteArray.getElem_extract, Nat.add_comm]
  have h0 := hb 0 (by omega)
  rw [Nat.zero_add] at h0
  have hf : ∀ r, foldC (s.extract (s.size - m) s.size) (m - 1) 1 r = foldC s (m - 1) (s.size - m + 1) r := by
    intro r
    rw [foldC_congr (s.extract (s.size - m) s.size) s (s.size - m) (m - 1) 1 r (fun j a b => hb j (by omega)), Nat.add_comm 1]
  unfold beginsB begAt endB
  rw [hz, h0, hf]
  rfl

theorem endC_bad (n v : Nat) (h : ¬ (¬ v < leastN n ∧ pointB (v : Int) = true)) : endC n (some v) = (-1, 1) := by
  show (if v < leastN n ∨ pointB (v : Int) = false then _ else _) = _
  rw [if_pos]
  by_cases a : v < leastN n
  · exact .inl a
  · refine .inr ?_
    cases hp : pointB (v : Int) with
    | false => rfl
    | true => exact absurd ⟨a, hp⟩ h

/-- a is a beginning of b; at i the characters are the same, unless what is left of a is a beginning that b goes on with. -/
theorem ch_same (a b : ByteArray) (i : Nat) (hi : i < a.size) (hs : a.size ≤ b.size) (hb : ∀ j, j < a.size → by8 a j = by8 b j)
    (hc : a.size - i ≤ 3 → begAt b i (a.size - i) = false ∨ ¬ (128 ≤ by8 b a.size ∧ by8 b a.size ≤ 191)) : ch a i = ch b i := by
  rw [← specCh_eq a i hi, ← specCh_eq b i (by omega)]
  unfold specCh
  rw [hb i hi]
  obtain ⟨N, hN⟩ : ∃ N, N = needN (by8 b i) := ⟨_, rfl⟩
  have hN4 := needN_le (by8 b i)
  rw [← hN] at hN4 ⊢
  by_cases h0 : N = 0
  · rw [if_pos (.inl h0), if_pos (.inl h0)]
  · by_cases hA : a.size < i + N
    · rw [if_pos (.inr hA)]
      by_cases hB : b.size < i + N
      · rw [if_pos (.inr hB)]
      · rw [if_neg (by omega)]
        obtain ⟨m, hm⟩ : ∃ m, m = a.size - i := ⟨_, rfl⟩
        obtain ⟨d, hd⟩ : ∃ d, d = N - m := ⟨_, rfl⟩
        have hsp := foldC_split b d (m - 1) (i + 1) (needR (by8 b i))
        rw [show m - 1 + d = N - 1 by omega] at hsp
        cases hf : foldC b (m - 1) (i + 1) (needR (by8 b i)) with
        | none => rw [hf] at hsp; rw [hsp]; rfl
        | some q =>
          rw [hf] at hsp
          have hsp2 : foldC b (N - 1) (i + 1) (needR (by8 b i)) = foldC b d (i + 1 + (m - 1)) q := hsp
          cases hv : foldC b d (i + 1 + (m - 1)) q with
          | none => rw [hsp2, hv]; rfl
          | some v =>
            rw [hsp2, hv]
            symm
            apply endC_bad
            rintro ⟨h5, h6⟩
            have hr := foldC_range b d _ q v hv
            have hrng := range_of N _ _ v hr.1 hr.2 h5 h6
            rcases hc (by omega) with h7 | h7
            · unfold begAt at h7
              rw [← hN, ← hm, if_neg (by omega), hf, ← hd] at h7
              have h8 : rangeB N (lowE d q) (highE d q) = false := h7
              rw [hrng] at h8; cases h8
            · exact h7 (foldC_cont b d _ q v hv a.size (by omega) (by omega))
    · rw [if_neg (by omega), if_neg (by omega)]
      congr 1
      have := foldC_congr a b 0 (N - 1) (i + 1) (needR (by8 b i)) (fun j h1 h2 => by rw [Nat.add_zero]; exact hb j (by omega))
      rw [Nat.add_zero] at this
      exact this

theorem compl_facts (s : ByteArray) : complB s ≤ s.size ∧ s.size - complB s ≤ 3 ∧
    ((complB s = s.size ∧ ∀ m, 1 ≤ m → m ≤ 3 → m ≤ s.size → begAt s (s.size - m) m = false) ∨ (complB s < s.size ∧ begAt s (complB s) (s.size - complB s) = true)) := by
  have key : ∀ f k, f + k = 4 → 1 ≤ k → (∀ m, 1 ≤ m → m < k → m ≤ s.size → begAt s (s.size - m) m = false) →
      complFrom s f k ≤ s.size ∧ s.size - complFrom s f k ≤ 3 ∧
      ((complFrom s f k = s.size ∧ ∀ m, 1 ≤ m → m ≤ 3 → m ≤ s.size → begAt s (s.size - m) m = false) ∨ (complFrom s f k < s.size ∧ begAt s (complFrom s f k) (s.size - complFrom s f k) = true)) := by
    intro f
    induction f with
    | zero =>
      intro k hk h1 hm
      rw [compl_end s 0 k (.inl rfl)]
      exact ⟨Nat.le_refl _, by omega, .inl ⟨rfl, fun m a b c => hm m a (by omega) c⟩⟩
    | succ f ih =>
      intro k hk h1 hm
      by_cases hks : k ≤ s.size
      · cases hb : beginsB (s.extract (s.size - k) s.size) with
        | true =>
          rw [compl_yes s f k hks hb]
          rw [beg_tail s k h1 hks] at hb
          exact ⟨by omega, by omega, .inr ⟨by omega, by rw [show s.size - (s.size - k) = k by omega]; exact hb⟩⟩
        | false =>
          rw [compl_no s f k hks hb]
          rw [beg_tail s k h1 hks] at hb
          refine ih (k + 1) (by omega) (by omega) ?_
          intro m a b c
          by_cases e : m = k
          · subst e; exact hb
          · exact hm m a (by omega) c
      · rw [compl_end s _ k (.inr hks)]
        exact ⟨Nat.le_refl _, by omega, .inl ⟨rfl, fun m a b c => hm m a (by omega) c⟩⟩
  exact key 3 1 rfl (Nat.le_refl _) (fun m a b => absurd a (by omega))

theorem by8_append (s x : ByteArray) (j : Nat) (h : j < s.size) : by8 (s ++ x) j = by8 s j := by
  rw [by8_of _ _ (by rw [ByteArray.size_append']; omega), by8_of s j h]
  simp [ByteArray.getElem_append_left, h]
theorem head_size (s : ByteArray) (c : Nat) (h : c ≤ s.size) : (s.extract 0 c).size = c := by rw [ByteArray.size_extract]; omega
theorem by8_head (s : ByteArray) (c j : Nat) (h : c ≤ s.size) (hj : j < c) : by8 (s.extract 0 c) j = by8 s j := by
  rw [by8_of _ _ (by rw [head_size s c h]; exact hj), by8_of s j (by omega)]
  simp [ByteArray.getElem_extract]
theorem begAt_congr (s t : ByteArray) (i m : Nat) (h1 : 1 ≤ m) (h : ∀ j, i ≤ j → j < i + m → by8 s j = by8 t j) : begAt s i m = begAt t i m := by
  unfold begAt
  rw [h i (Nat.le_refl _) (by omega)]
  have := foldC_congr s t 0 (m - 1) (i + 1) (needR (by8 t i)) (fun j a b => by rw [Nat.add_zero]; exact h j (by omega) (by omega))
  rw [Nat.add_zero] at this
  rw [this]
theorem begAt_first (s : ByteArray) (i m : Nat) (h1 : 1 ≤ m) (h : begAt s i m = true) : 194 ≤ by8 s i := by
  unfold begAt at h
  by_cases hn : needN (by8 s i) ≤ m
  · rw [if_pos hn] at h; cases h
  · have : 1 < needN (by8 s i) := by omega
    unfold needN at this
    revert this
    (repeat' split) <;> omega

/-- At every index of the closed part the character is the same, whatever follows. -/
theorem ch_closed (s x : ByteArray) (i : Nat) (hi : i < complB s) : ch (s.extract 0 (complB s)) i = ch (s ++ x) i := by
  obtain ⟨h1, h2, h3⟩ := compl_facts s
  have hz := head_size s (complB s) h1
  refine ch_same _ _ i (by rw [hz]; exact hi) (by rw [hz, ByteArray.size_append']; omega) (fun j hj => ?_) (fun hm => ?_)
  · rw [hz] at hj
    rw [by8_head s _ j h1 hj, by8_append s x j (by omega)]
  · rw [hz] at hm ⊢
    rcases h3 with ⟨e, h4⟩ | ⟨h5, h6⟩
    · left
      rw [begAt_congr (s ++ x) s i (complB s - i) (by omega) (fun j a b => by8_append s x j (by omega))]
      have := h4 (complB s - i) (by omega) hm (by omega)
      rw [show s.size - (complB s - i) = i by omega] at this
      exact this
    · right
      have := begAt_first s (complB s) (s.size - complB s) (by omega) h6
      rw [by8_append s x _ h5]
      omega
theorem runes_prefix (a b : ByteArray) (hs : a.size ≤ b.size) (h : ∀ i, i < a.size → ch a i = ch b i) : ∀ k i, a.size - i ≤ k → runesFrom a i <+: runesFrom b i := by
  intro k
  induction k with
  | zero => intro i hk; rw [runesFrom_no a i (by omega)]; exact List.nil_prefix
  | succ k ih =>
    intro i hk
    by_cases hi : i < a.size
    · have hl := ch_len a i hi
      rw [runesFrom_yes a i hi, runesFrom_yes b i (by omega), ← h i hi]
      exact (List.cons_prefix_cons).2 ⟨rfl, ih _ (by omega)⟩
    · rw [runesFrom_no a i hi]; exact List.nil_prefix
theorem closed_prefix (s x : ByteArray) : runesB (s.extract 0 (complB s)) <+: runesB (s ++ x) := by
  obtain ⟨h1, _⟩ := compl_facts s
  refine runes_prefix _ _ ?_ (fun i hi => ?_) _ 0 (Nat.le_refl _)
  · rw [head_size s _ h1, ByteArray.size_append']; omega
  · rw [head_size s _ h1] at hi; exact ch_closed s x i hi
end Go.Proofs.YtjdbkpckhgncbaaDoor
