/- What fits is narrow enough, and padding reaches its width. No walk. -/
import Derived.Test.YtjdbkpckhgncbaaDoorBA
import Derived.Test.YtjdbkpckhgncbaaDoorRound
namespace Go.Proofs.YtjdbkpckhgncbaaDoor
open Go.RowKit
set_option linter.unusedVariables false

/-- A bad character has one byte. -/
theorem ch_bad_len (s : ByteArray) (i : Nat) (hi : i < s.size) (h : (ch s i).1 = -1) : ch s i = (-1, 1) := by
  rw [← specCh_eq s i hi] at h ⊢
  unfold specCh at h ⊢
  by_cases h0 : needN (by8 s i) = 0 ∨ s.size < i + needN (by8 s i)
  · rw [if_pos h0]
  · rw [if_neg h0] at h ⊢
    cases hf : foldC s (needN (by8 s i) - 1) (i + 1) (needR (by8 s i)) with
    | none => rfl
    | some v =>
      rw [hf] at h
      by_cases hv : v < leastN (needN (by8 s i)) ∨ pointB (v : Int) = false
      · exact if_pos hv
      · have e : endC (needN (by8 s i)) (some v) = ((v : Int), needN (by8 s i)) := if_neg hv
        rw [e] at h
        simp only at h
        omega
/-- A character that is good where it stands is the same where the bytes agree. -/
theorem ch_good_same (a b : ByteArray) (i : Nat) (hi : i < a.size) (hib : i < b.size) (h : (ch a i).1 ≠ -1) (hb : i + (ch a i).2 ≤ b.size) (hj : ∀ j, i ≤ j → j < i + (ch a i).2 → by8 a j = by8 b j) : ch b i = ch a i := by
  obtain ⟨h1, v, h2, h3, h4, h5, h6, h7⟩ := ch_good a i hi h
  have h0 := hj i (Nat.le_refl _) (by omega)
  rw [← specCh_eq b i hib]
  unfold specCh
  rw [← h0, if_neg (by omega)]
  have := foldC_congr a b 0 (needN (by8 a i) - 1) (i + 1) (needR (by8 a i)) (fun j c d => by rw [Nat.add_zero]; exact hj j (by omega) (by omega))
  rw [Nat.add_zero] at this
  rw [← this, h2, h3]
  exact if_neg (by intro c; rcases c with c | c; exact h4 c; rw [h5] at c; cases c)
/-- A character that ends at c or ahead of it is the same in the beginning of c bytes. -/
theorem ch_head (s : ByteArray) (i c : Nat) (hi : i < s.size) (hc : c ≤ s.size) (h : i + (ch s i).2 ≤ c) : ch (s.extract 0 c) i = ch s i := by
  have hl := ch_len s i hi
  have hz := head_size s c hc
  by_cases hg : (ch s i).1 = -1
  · rw [ch_bad_len s i hi hg]
    by_cases ha : (ch (s.extract 0 c) i).1 = -1
    · exact ch_bad_len _ _ (by rw [hz]; omega) ha
    · have hla := ch_len (s.extract 0 c) i (by rw [hz]; omega)
      rw [hz] at hla
      have := ch_good_same (s.extract 0 c) s i (by rw [hz]; omega) hi ha (by omega) (fun j h1 h2 => by8_head s c j hc (by omega))
      rw [this] at hg
      exact absurd hg ha
  · exact ch_good_same s (s.extract 0 c) i hi (by rw [hz]; omega) hg (by rw [hz]; exact h) (fun j h1 h2 => (by8_head s c j hc (by omega)).symm)

theorem fit_facts (s : ByteArray) (n : Nat) : ∀ k i sum, s.size - i ≤ k → i ≤ s.size → sum ≤ n →
    i ≤ fitFrom s n i sum ∧ fitFrom s n i sum ≤ s.size ∧ sum + widthL (runesFrom (s.extract 0 (fitFrom s n i sum)) i) ≤ n := by
  intro k
  induction k with
  | zero =>
    intro i sum hk hi hs
    rw [fit_end s n i sum (by omega), runesFrom_no _ i (by rw [head_size s i hi]; omega)]
    exact ⟨Nat.le_refl _, hi, by simp [widthL]; exact hs⟩
  | succ k ih =>
    intro i sum hk hi hs
    by_cases h : i < s.size
    · have hl := ch_len s i h
      by_cases hn : n < sum + rw1 (ch s i).1
      · rw [fit_stop s n i sum h hn, runesFrom_no _ i (by rw [head_size s i hi]; omega)]
        exact ⟨Nat.le_refl _, hi, by simp [widthL]; exact hs⟩
      · rw [fit_go s n i sum h hn]
        obtain ⟨h1, h2, h3⟩ := ih (i + (ch s i).2) (sum + rw1 (ch s i).1) (by omega) (by omega) (by omega)
        refine ⟨by omega, h2, ?_⟩
        have hh := ch_head s i _ h h2 h1
        rw [runesFrom_yes _ i (by rw [head_size s _ h2]; omega), hh]
        simp only [widthL, List.map_cons, List.sum_cons] at h3 ⊢
        omega
    · rw [fit_end s n i sum h, runesFrom_no _ i (by rw [head_size s i hi]; omega)]
      exact ⟨Nat.le_refl _, hi, by simp [widthL]; exact hs⟩
/-- What fits is a beginning that is not too wide. -/
theorem fit_ok (s : ByteArray) (n : Int) (h : 0 ≤ n) : (fitB s n).size ≤ s.size ∧ s.extract 0 (fitB s n).size = fitB s n ∧ (textW (fitB s n) : Int) ≤ n := by
  unfold fitB
  rw [if_neg (by omega)]
  obtain ⟨h1, h2, h3⟩ := fit_facts s n.toNat s.size 0 0 (by omega) (Nat.zero_le _) (Nat.zero_le _)
  have hz := head_size s (fitFrom s n.toNat 0 0) h2
  rw [hz]
  refine ⟨h2, rfl, ?_⟩
  unfold textW runesB
  omega

/-! ### one text behind another -/
theorem by8_right (a x : ByteArray) (j : Nat) : by8 (a ++ x) (j + a.size) = by8 x j := by
  by_cases h : j < x.size
  · rw [by8_of _ _ (by rw [ByteArray.size_append']; omega), by8_of x j h]
    simp [ByteArray.getElem_append_right]
  · have e : ∀ (t : ByteArray) (j : Nat), ¬ j < t.size → by8 t j = 0 := by
      intro t j hj
      unfold by8
      cases t with
      | mk d =>
        have : (ByteArray.mk d).get! j = default := getElem!_neg d j hj
        rw [this]; rfl
    rw [e x j h, e _ _ (by rw [ByteArray.size_append']; omega)]
theorem ch_right (a x : ByteArray) (i : Nat) : ch (a ++ x) (i + a.size) = ch x i := by
  rw [ch_eq, ch_eq, ByteArray.size_append']
  have e1 : a.size + x.size - (i + a.size) = x.size - i := by omega
  rw [e1, by8_right, show i + a.size + 1 = (i + 1) + a.size by omega, show i + a.size + 2 = (i + 2) + a.size by omega, show i + a.size + 3 = (i + 3) + a.size by omega, by8_right, by8_right, by8_right]
theorem runes_right (a x : ByteArray) : ∀ k i, x.size - i ≤ k → runesFrom (a ++ x) (i + a.size) = runesFrom x i := by
  intro k
  induction k with
  | zero => intro i hk; rw [runesFrom_no x i (by omega), runesFrom_no _ _ (by rw [ByteArray.size_append']; omega)]
  | succ k ih =>
    intro i hk
    by_cases hi : i < x.size
    · have hl := ch_len x i hi
      rw [runesFrom_yes x i hi, runesFrom_yes _ _ (by rw [ByteArray.size_append']; omega), ch_right, show i + a.size + (ch x i).2 = (i + (ch x i).2) + a.size by omega, ih _ (by omega)]
    · rw [runesFrom_no x i hi, runesFrom_no _ _ (by rw [ByteArray.size_append']; omega)]
theorem runes_left (a x : ByteArray) (h : ∀ i, i < a.size → ch a i = ch (a ++ x) i) : ∀ k i, a.size - i ≤ k → i ≤ a.size → runesFrom (a ++ x) i = runesFrom a i ++ runesB x := by
  intro k
  induction k with
  | zero =>
    intro i hk hi
    obtain rfl : i = a.size := by omega
    rw [runesFrom_no a _ (by omega), List.nil_append]
    have := runes_right a x x.size 0 (by omega)
    rw [Nat.zero_add] at this
    exact this
  | succ k ih =>
    intro i hk hi
    by_cases hlt : i < a.size
    · have hl := ch_len a i hlt
      rw [runesFrom_yes a i hlt, runesFrom_yes _ _ (by rw [ByteArray.size_append']; omega), ← h i hlt, ih _ (by omega) (by omega), List.cons_append]
    · obtain rfl : i = a.size := by omega
      rw [runesFrom_no a _ (by omega), List.nil_append]
      have := runes_right a x x.size 0 (by omega)
      rw [Nat.zero_add] at this
      exact this
theorem runes_append (a x : ByteArray) (h : ∀ i, i < a.size → ch a i = ch (a ++ x) i) : runesB (a ++ x) = runesB a ++ runesB x :=
  runes_left a x h a.size 0 (by omega) (Nat.zero_le _)
theorem widthL_append (a b : List Int) : widthL (a ++ b) = widthL a + widthL b := by
  simp [widthL]
/-- Text that begins with no continuation byte. -/
theorem runes_append_plain (s x : ByteArray) (hx : 0 < x.size → ¬ (128 ≤ by8 x 0 ∧ by8 x 0 ≤ 191)) : runesB (s ++ x) = runesB s ++ runesB x := by
  by_cases h0 : 0 < x.size
  · refine runes_append s x (fun i hi => ?_)
    refine ch_same s (s ++ x) i hi (by rw [ByteArray.size_append']; omega) (fun j hj => (by8_append s x j hj).symm) (fun _ => .inr ?_)
    have := by8_right s x 0
    rw [Nat.zero_add] at this
    rw [this]
    exact hx h0
  · obtain rfl : x = ⟨#[]⟩ := by
      apply ByteArray.ext
      apply Array.eq_empty_of_size_eq_zero
      show x.size = 0
      omega
    have e1 : s ++ (⟨#[]⟩ : ByteArray) = s := by
      apply ByteArray.ext
      simp
    rw [e1, show runesB ⟨#[]⟩ = [] from runesFrom_no _ 0 (by decide), List.append_nil]
theorem by8_spaces (k j : Nat) (h : j < k) : by8 (spaces k) j = 32 := by
  have hz := spaces_size k
  rw [by8_of _ j (by rw [hz]; exact h)]
  have : (spaces k)[j]'(by rw [hz]; exact h) = 32 := by
    show (List.replicate k (32 : UInt8)).toArray[j]'_ = 32
    simp
  rw [this]; rfl
theorem ch_space (a : ByteArray) (i : Nat) (h : by8 a i = 32) : ch a i = (32, 1) := by
  rw [ch_low a i (by omega), h]; rfl
theorem runes_spaces_from (k : Nat) : ∀ n i, k - i ≤ n → widthL (runesFrom (spaces k) i) = k - i := by
  have hz := spaces_size k
  intro n
  induction n with
  | zero => intro i hn; rw [runesFrom_no _ i (by omega)]; simp [widthL]; omega
  | succ n ih =>
    intro i hn
    by_cases hi : i < k
    · have hc := ch_space (spaces k) i (by8_spaces k i hi)
      rw [runesFrom_yes _ i (by omega), hc]
      have := ih (i + 1) (by omega)
      have e32 : rw1 32 = 1 := by decide
      simp only [widthL, List.map_cons, List.sum_cons] at this ⊢
      omega
    · rw [runesFrom_no _ i (by omega)]; simp [widthL]; omega
theorem textW_spaces (k : Nat) : textW (spaces k) = k := by
  have := runes_spaces_from k k 0 (by omega)
  unfold textW runesB
  omega
theorem textW_right (s : ByteArray) (k : Nat) : textW (s ++ spaces k) = textW s + k := by
  have h : runesB (s ++ spaces k) = runesB s ++ runesB (spaces k) := runes_append_plain s _ (fun h0 => by
    rw [spaces_size] at h0
    rw [by8_spaces k 0 h0]; omega)
  have := textW_spaces k
  unfold textW at *
  rw [h, widthL_append, this]
theorem textW_left (s : ByteArray) (k : Nat) : textW (spaces k ++ s) = k + textW s := by
  have h : runesB (spaces k ++ s) = runesB (spaces k) ++ runesB s := runes_append _ _ (fun i hi => by
    rw [spaces_size] at hi
    rw [ch_space _ i (by8_spaces k i hi), ch_space _ i (by rw [by8_append _ _ _ (by rw [spaces_size]; exact hi)]; exact by8_spaces k i hi)])
  have := textW_spaces k
  unfold textW at *
  rw [h, widthL_append, this]
/-- Each padding reaches the greater of the width that is wanted and the text's own. -/
theorem pads_ok (s : ByteArray) (n : Int) (h0 : 0 ≤ n) (h1 : n ≤ 100000) :
    (textW (padR s n) : Int) = max n (textW s) ∧ (textW (padL s n) : Int) = max n (textW s) ∧ (textW (padC s n) : Int) = max n (textW s) := by
  have hr : roomB s n = (n - (textW s : Int)).toNat := if_neg (by omega)
  unfold padR padL padC
  rw [textW_right, textW_left, textW_right, textW_left, hr]
  omega
theorem textW_ab : textW ⟨#[97, 98]⟩ = 2 := by
  have hs : (⟨#[97, 98]⟩ : ByteArray).size = 2 := rfl
  have c0 : ch ⟨#[97, 98]⟩ 0 = (97, 1) := by rw [ch_low _ 0 (by decide)]; rfl
  have c1 : ch ⟨#[97, 98]⟩ 1 = (98, 1) := by rw [ch_low _ 1 (by decide)]; rfl
  unfold textW runesB
  rw [runesFrom_yes _ 0 (by decide), c0]
  simp only [Nat.zero_add]
  rw [runesFrom_yes _ 1 (by decide), c1, runesFrom_no _ _ (by decide)]
  decide
end Go.Proofs.YtjdbkpckhgncbaaDoor
