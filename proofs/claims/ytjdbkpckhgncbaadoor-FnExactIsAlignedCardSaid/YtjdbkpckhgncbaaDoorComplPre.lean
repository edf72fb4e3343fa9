/- Which bytes are a proper beginning of an encoding: the model's reckoning and the library's tables agree. No walk. -/
import Derived.Test.YtjdbkpckhgncbaaDoorBA
namespace Go.Proofs.YtjdbkpckhgncbaaDoor
open Go.RowKit
set_option linter.unusedVariables false

def lowE : Nat → Nat → Nat
  | 0, r => r
  | d + 1, r => lowE d (64 * r)
def highE : Nat → Nat → Nat
  | 0, r => r
  | d + 1, r => highE d (64 * r + 63)
/-- Is a code point with an encoding of n bytes among those from lo to hi? -/
def rangeB (n lo hi : Nat) : Bool :=
  decide (max lo (leastN n) ≤ min hi 1114111) && !(decide (55296 ≤ max lo (leastN n)) && decide (min hi 1114111 ≤ 57343))
/-- Is t a proper beginning of an encoding? -/
def beginsB (t : ByteArray) : Bool :=
  if needN (by8 t 0) ≤ t.size then false
  else match foldC t (t.size - 1) 1 (needR (by8 t 0)) with
    | none => false
    | some r => rangeB (needN (by8 t 0)) (lowE (needN (by8 t 0) - t.size) r) (highE (needN (by8 t 0) - t.size) r)
/-- What the library's tables say of n bytes. -/
def fullN (n b0 b1 b2 : Nat) : Bool :=
  decide (Lib.firstT b0 % 8 ≤ n) || (decide (1 < n) && (decide (b1 < Lib.accLo (Lib.firstT b0 / 16)) || decide (Lib.accHi (Lib.firstT b0 / 16) < b1))) || (decide (2 < n) && (decide (b2 < 128) || decide (191 < b2)))
def begN (n b0 b1 b2 : Nat) : Bool :=
  if needN b0 ≤ n then false
  else if n = 1 then rangeB (needN b0) (lowE (needN b0 - 1) (needR b0)) (highE (needN b0 - 1) (needR b0))
  else if 128 ≤ b1 ∧ b1 ≤ 191 then
    (if n = 2 then rangeB (needN b0) (lowE (needN b0 - 2) (64 * needR b0 + b1 - 128)) (highE (needN b0 - 2) (64 * needR b0 + b1 - 128))
     else if 128 ≤ b2 ∧ b2 ≤ 191 then rangeB (needN b0) (lowE (needN b0 - 3) (64 * (64 * needR b0 + b1 - 128) + b2 - 128)) (highE (needN b0 - 3) (64 * (64 * needR b0 + b1 - 128) + b2 - 128))
     else false)
  else false
theorem begN_full (n b0 b1 b2 : Nat) (h : needN b0 ≤ n) : begN n b0 b1 b2 = false := by unfold begN; rw [if_pos h]
theorem begN1 (b0 b1 b2 : Nat) (h : ¬ needN b0 ≤ 1) : begN 1 b0 b1 b2 = rangeB (needN b0) (lowE (needN b0 - 1) (needR b0)) (highE (needN b0 - 1) (needR b0)) := by
  unfold begN; rw [if_neg h, if_pos rfl]
theorem begN2 (b0 b1 b2 : Nat) (h : ¬ needN b0 ≤ 2) : begN 2 b0 b1 b2 = (decide (128 ≤ b1 ∧ b1 ≤ 191) && rangeB (needN b0) (lowE (needN b0 - 2) (64 * needR b0 + b1 - 128)) (highE (needN b0 - 2) (64 * needR b0 + b1 - 128))) := by
  unfold begN
  rw [if_neg h, if_neg (by decide : ¬ (2 : Nat) = 1)]
  by_cases hc : 128 ≤ b1 ∧ b1 ≤ 191
  · rw [if_pos hc, if_pos rfl, decide_eq_true hc, Bool.true_and]
  · rw [if_neg hc, decide_eq_false hc, Bool.false_and]
theorem begN3 (b0 b1 b2 : Nat) (h : ¬ needN b0 ≤ 3) : begN 3 b0 b1 b2 = (decide ((128 ≤ b1 ∧ b1 ≤ 191) ∧ (128 ≤ b2 ∧ b2 ≤ 191)) && rangeB (needN b0) (lowE (needN b0 - 3) (64 * (64 * needR b0 + b1 - 128) + b2 - 128)) (highE (needN b0 - 3) (64 * (64 * needR b0 + b1 - 128) + b2 - 128))) := by
  unfold begN
  rw [if_neg h, if_neg (by decide : ¬ (3 : Nat) = 1)]
  by_cases hc : 128 ≤ b1 ∧ b1 ≤ 191
  · rw [if_pos hc, if_neg (by decide : ¬ (3 : Nat) = 2)]
    by_cases hd : 128 ≤ b2 ∧ b2 ≤ 191
    · rw [if_pos hd, decide_eq_true ⟨hc, hd⟩, Bool.true_and]
    · rw [if_neg hd, decide_eq_false (fun h => hd h.2), Bool.false_and]
  · rw [if_neg hc, decide_eq_false (fun h => hc h.1), Bool.false_and]
theorem beginsB_eq (t : ByteArray) (h1 : 1 ≤ t.size) (h3 : t.size ≤ 3) : beginsB t = begN t.size (by8 t 0) (by8 t 1) (by8 t 2) := by
  unfold beginsB
  by_cases h : needN (by8 t 0) ≤ t.size
  · rw [if_pos h, begN_full _ _ _ _ h]
  · rw [if_neg h]
    have c : t.size = 1 ∨ t.size = 2 ∨ t.size = 3 := by omega
    rcases c with c | c | c
    · rw [c] at h ⊢
      rw [begN1 _ _ _ h]
      rfl
    · rw [c] at h ⊢
      rw [begN2 _ _ _ h]
      have e : ∀ r, foldC t (2 - 1) 1 r = if 128 ≤ by8 t 1 ∧ by8 t 1 ≤ 191 then some (64 * r + by8 t 1 - 128) else none := fun r => rfl
      rw [e]
      by_cases hc : 128 ≤ by8 t 1 ∧ by8 t 1 ≤ 191
      · rw [if_pos hc, decide_eq_true hc]; rfl
      · rw [if_neg hc, decide_eq_false hc]; rfl
    · rw [c] at h ⊢
      rw [begN3 _ _ _ h]
      have e : ∀ r, foldC t (3 - 1) 1 r = if 128 ≤ by8 t 1 ∧ by8 t 1 ≤ 191 then (if 128 ≤ by8 t 2 ∧ by8 t 2 ≤ 191 then some (64 * (64 * r + by8 t 1 - 128) + by8 t 2 - 128) else none) else none := fun r => rfl
      rw [e]
      by_cases hc : 128 ≤ by8 t 1 ∧ by8 t 1 ≤ 191
      · rw [if_pos hc]
        by_cases hd : 128 ≤ by8 t 2 ∧ by8 t 2 ≤ 191
        · rw [if_pos hd, decide_eq_true ⟨hc, hd⟩]; rfl
        · rw [if_neg hd, decide_eq_false (fun h => hd h.2)]; rfl
      · rw [if_neg hc, decide_eq_false (fun h => hc h.1)]; rfl
theorem rangeB_iff (n lo hi : Nat) (hL : leastN n ≤ 1114111) : rangeB n lo hi = true ↔ lo ≤ hi ∧ lo ≤ 1114111 ∧ leastN n ≤ hi ∧ ¬ ((55296 ≤ lo ∨ 55296 ≤ leastN n) ∧ hi ≤ 57343) := by
  unfold rangeB
  rw [Bool.and_eq_true, Bool.not_eq_true', decide_eq_true_iff, ← Bool.decide_and, decide_eq_false_iff_not]
  omega
theorem fullN_iff (n b0 b1 b2 : Nat) : fullN n b0 b1 b2 = true ↔ (Lib.firstT b0 % 8 ≤ n) ∨ (1 < n ∧ (b1 < Lib.accLo (Lib.firstT b0 / 16) ∨ Lib.accHi (Lib.firstT b0 / 16) < b1)) ∨ (2 < n ∧ (b2 < 128 ∨ 191 < b2)) := by
  unfold fullN
  simp only [Bool.or_eq_true, Bool.and_eq_true, decide_eq_true_iff, or_assoc]
theorem not_of_iff {a b : Bool} (h : a = true ↔ ¬ b = true) : a = !b := by
  cases a <;> cases b <;> simp_all
theorem and_iff {p : Prop} [Decidable p] {b : Bool} {q : Prop} (h : b = true ↔ q) : (decide p && b) = true ↔ p ∧ q := by
  rw [Bool.and_eq_true, decide_eq_true_iff, h]

theorem beg_0 (n b0 b1 b2 : Nat) (h1 : 1 ≤ n) (h3 : n ≤ 3) (l0 : b0 < 256) (c : b0 < 128) : begN n b0 b1 b2 = !fullN n b0 b1 b2 := by
  have e1 : needN b0 = 1 := by unfold needN; (repeat' split) <;> omega
  have e3 : Lib.firstT b0 = 240 := by unfold Lib.firstT; (repeat' split) <;> omega
  rw [begN_full _ _ _ _ (by omega), (fullN_iff n b0 b1 b2).2 (.inl (by rw [e3]; omega))]; rfl
theorem beg_1 (n b0 b1 b2 : Nat) (h1 : 1 ≤ n) (h3 : n ≤ 3) (l0 : b0 < 256) (c : 128 ≤ b0 ∧ b0 < 194) : begN n b0 b1 b2 = !fullN n b0 b1 b2 := by
  have e1 : needN b0 = 0 := by unfold needN; (repeat' split) <;> omega
  have e3 : Lib.firstT b0 = 241 := by unfold Lib.firstT; (repeat' split) <;> omega
  rw [begN_full _ _ _ _ (by omega), (fullN_iff n b0 b1 b2).2 (.inl (by rw [e3]; omega))]; rfl
theorem beg_2 (n b0 b1 b2 : Nat) (h1 : 1 ≤ n) (h3 : n ≤ 3) (l0 : b0 < 256) (c : 194 ≤ b0 ∧ b0 < 224) : begN n b0 b1 b2 = !fullN n b0 b1 b2 := by
  have e1 : needN b0 = 2 := by unfold needN; (repeat' split) <;> omega
  have e3 : Lib.firstT b0 = 2 := by unfold Lib.firstT; (repeat' split) <;> omega
  have e2 : needR b0 = b0 - 192 := by unfold needR; (repeat' split) <;> omega
  have a1 : Lib.accLo (2 / 16) = 128 := rfl
  have a2 : Lib.accHi (2 / 16) = 191 := rfl
  by_cases hf : needN b0 ≤ n
  · rw [begN_full _ _ _ _ hf, (fullN_iff n b0 b1 b2).2 (.inl (by rw [e3]; omega))]; rfl
  obtain rfl : n = 1 := by omega
  apply not_of_iff
  rw [begN1 _ _ _ hf, e1, e2, fullN_iff, e3, a1, a2]
  rw [rangeB_iff _ _ _ (by rw [leastN2]; omega), leastN2]
  simp only [lowE, highE]
  omega
theorem beg_3 (n b0 b1 b2 : Nat) (h1 : 1 ≤ n) (h3 : n ≤ 3) (l0 : b0 < 256) (c : b0 = 224) : begN n b0 b1 b2 = !fullN n b0 b1 b2 := by
  have e1 : needN b0 = 3 := by unfold needN; (repeat' split) <;> omega
  have e3 : Lib.firstT b0 = 19 := by unfold Lib.firstT; (repeat' split) <;> omega
  have e2 : needR b0 = b0 - 224 := by unfold needR; (repeat' split) <;> omega
  have a1 : Lib.accLo (19 / 16) = 160 := rfl
  have a2 : Lib.accHi (19 / 16) = 191 := rfl
  by_cases hf : needN b0 ≤ n
  · rw [begN_full _ _ _ _ hf, (fullN_iff n b0 b1 b2).2 (.inl (by rw [e3]; omega))]; rfl
  by_cases k1 : n = 1
  · subst k1
    apply not_of_iff
    rw [begN1 _ _ _ hf, e1, e2, fullN_iff, e3, a1, a2]
    rw [rangeB_iff _ _ _ (by rw [leastN3]; omega), leastN3]
    simp only [lowE, highE]
    omega
  obtain rfl : n = 2 := by omega
  apply not_of_iff
  rw [begN2 _ _ _ hf, e1, e2, fullN_iff, e3, a1, a2]
  rw [and_iff (rangeB_iff _ _ _ (by rw [leastN3]; omega)), leastN3]
  simp only [lowE, highE]
  omega
theorem beg_4 (n b0 b1 b2 : Nat) (h1 : 1 ≤ n) (h3 : n ≤ 3) (l0 : b0 < 256) (c : 225 ≤ b0 ∧ b0 < 237) : begN n b0 b1 b2 = !fullN n b0 b1 b2 := by
  have e1 : needN b0 = 3 := by unfold needN; (repeat' split) <;> omega
  have e3 : Lib.firstT b0 = 3 := by unfold Lib.firstT; (repeat' split) <;> omega
  have e2 : needR b0 = b0 - 224 := by unfold needR; (repeat' split) <;> omega
  have a1 : Lib.accLo (3 / 16) = 128 := rfl
  have a2 : Lib.accHi (3 / 16) = 191 := rfl
  by_cases hf : needN b0 ≤ n
  · rw [begN_full _ _ _ _ hf, (fullN_iff n b0 b1 b2).2 (.inl (by rw [e3]; omega))]; rfl
  by_cases k1 : n = 1
  · subst k1
    apply not_of_iff
    rw [begN1 _ _ _ hf, e1, e2, fullN_iff, e3, a1, a2]
    rw [rangeB_iff _ _ _ (by rw [leastN3]; omega), leastN3]
    simp only [lowE, highE]
    omega
  obtain rfl : n = 2 := by omega
  apply not_of_iff
  rw [begN2 _ _ _ hf, e1, e2, fullN_iff, e3, a1, a2]
  rw [and_iff (rangeB_iff _ _ _ (by rw [leastN3]; omega)), leastN3]
  simp only [lowE, highE]
  omega
theorem beg_5 (n b0 b1 b2 : Nat) (h1 : 1 ≤ n) (h3 : n ≤ 3) (l0 : b0 < 256) (c : b0 = 237) : begN n b0 b1 b2 = !fullN n b0 b1 b2 := by
  have e1 : needN b0 = 3 := by unfold needN; (repeat' split) <;> omega
  have e3 : Lib.firstT b0 = 35 := by unfold Lib.firstT; (repeat' split) <;> omega
  have e2 : needR b0 = b0 - 224 := by unfold needR; (repeat' split) <;> omega
  have a1 : Lib.accLo (35 / 16) = 128 := rfl
  have a2 : Lib.accHi (35 / 16) = 159 := rfl
  by_cases hf : needN b0 ≤ n
  · rw [begN_full _ _ _ _ hf, (fullN_iff n b0 b1 b2).2 (.inl (by rw [e3]; omega))]; rfl
  by_cases k1 : n = 1
  · subst k1
    apply not_of_iff
    rw [begN1 _ _ _ hf, e1, e2, fullN_iff, e3, a1, a2]
    rw [rangeB_iff _ _ _ (by rw [leastN3]; omega), leastN3]
    simp only [lowE, highE]
    omega
  obtain rfl : n = 2 := by omega
  apply not_of_iff
  rw [begN2 _ _ _ hf, e1, e2, fullN_iff, e3, a1, a2]
  rw [and_iff (rangeB_iff _ _ _ (by rw [leastN3]; omega)), leastN3]
  simp only [lowE, highE]
  omega
theorem beg_6 (n b0 b1 b2 : Nat) (h1 : 1 ≤ n) (h3 : n ≤ 3) (l0 : b0 < 256) (c : 238 ≤ b0 ∧ b0 < 240) : begN n b0 b1 b2 = !fullN n b0 b1 b2 := by
  have e1 : needN b0 = 3 := by unfold needN; (repeat' split) <;> omega
  have e3 : Lib.firstT b0 = 3 := by unfold Lib.firstT; (repeat' split) <;> omega
  have e2 : needR b0 = b0 - 224 := by unfold needR; (repeat' split) <;> omega
  have a1 : Lib.accLo (3 / 16) = 128 := rfl
  have a2 : Lib.accHi (3 / 16) = 191 := rfl
  by_cases hf : needN b0 ≤ n
  · rw [begN_full _ _ _ _ hf, (fullN_iff n b0 b1 b2).2 (.inl (by rw [e3]; omega))]; rfl
  by_cases k1 : n = 1
  · subst k1
    apply not_of_iff
    rw [begN1 _ _ _ hf, e1, e2, fullN_iff, e3, a1, a2]
    rw [rangeB_iff _ _ _ (by rw [leastN3]; omega), leastN3]
    simp only [lowE, highE]
    omega
  obtain rfl : n = 2 := by omega
  apply not_of_iff
  rw [begN2 _ _ _ hf, e1, e2, fullN_iff, e3, a1, a2]
  rw [and_iff (rangeB_iff _ _ _ (by rw [leastN3]; omega)), leastN3]
  simp only [lowE, highE]
  omega
theorem beg_7 (n b0 b1 b2 : Nat) (h1 : 1 ≤ n) (h3 : n ≤ 3) (l0 : b0 < 256) (c : b0 = 240) : begN n b0 b1 b2 = !fullN n b0 b1 b2 := by
  have e1 : needN b0 = 4 := by unfold needN; (repeat' split) <;> omega
  have e3 : Lib.firstT b0 = 52 := by unfold Lib.firstT; (repeat' split) <;> omega
  have e2 : needR b0 = b0 - 240 := by unfold needR; (repeat' split) <;> omega
  have a1 : Lib.accLo (52 / 16) = 144 := rfl
  have a2 : Lib.accHi (52 / 16) = 191 := rfl
  by_cases hf : needN b0 ≤ n
  · rw [begN_full _ _ _ _ hf, (fullN_iff n b0 b1 b2).2 (.inl (by rw [e3]; omega))]; rfl
  by_cases k1 : n = 1
  · subst k1
    apply not_of_iff
    rw [begN1 _ _ _ hf, e1, e2, fullN_iff, e3, a1, a2]
    rw [rangeB_iff _ _ _ (by rw [leastN4]; omega), leastN4]
    simp only [lowE, highE]
    omega
  by_cases k2 : n = 2
  · subst k2
    apply not_of_iff
    rw [begN2 _ _ _ hf, e1, e2, fullN_iff, e3, a1, a2]
    rw [and_iff (rangeB_iff _ _ _ (by rw [leastN4]; omega)), leastN4]
    simp only [lowE, highE]
    omega
  obtain rfl : n = 3 := by omega
  apply not_of_iff
  rw [begN3 _ _ _ hf, e1, e2, fullN_iff, e3, a1, a2]
  rw [and_iff (rangeB_iff _ _ _ (by rw [leastN4]; omega)), leastN4]
  simp only [lowE, highE]
  omega
theorem beg_8 (n b0 b1 b2 : Nat) (h1 : 1 ≤ n) (h3 : n ≤ 3) (l0 : b0 < 256) (c : 241 ≤ b0 ∧ b0 < 244) : begN n b0 b1 b2 = !fullN n b0 b1 b2 := by
  have e1 : needN b0 = 4 := by unfold needN; (repeat' split) <;> omega
  have e3 : Lib.firstT b0 = 4 := by unfold Lib.firstT; (repeat' split) <;> omega
  have e2 : needR b0 = b0 - 240 := by unfold needR; (repeat' split) <;> omega
  have a1 : Lib.accLo (4 / 16) = 128 := rfl
  have a2 : Lib.accHi (4 / 16) = 191 := rfl
  by_cases hf : needN b0 ≤ n
  · rw [begN_full _ _ _ _ hf, (fullN_iff n b0 b1 b2).2 (.inl (by rw [e3]; omega))]; rfl
  by_cases k1 : n = 1
  · subst k1
    apply not_of_iff
    rw [begN1 _ _ _ hf, e1, e2, fullN_iff, e3, a1, a2]
    rw [rangeB_iff _ _ _ (by rw [leastN4]; omega), leastN4]
    simp only [lowE, highE]
    omega
  by_cases k2 : n = 2
  · subst k2
    apply not_of_iff
    rw [begN2 _ _ _ hf, e1, e2, fullN_iff, e3, a1, a2]
    rw [and_iff (rangeB_iff _ _ _ (by rw [leastN4]; omega)), leastN4]
    simp only [lowE, highE]
    omega
  obtain rfl : n = 3 := by omega
  apply not_of_iff
  rw [begN3 _ _ _ hf, e1, e2, fullN_iff, e3, a1, a2]
  rw [and_iff (rangeB_iff _ _ _ (by rw [leastN4]; omega)), leastN4]
  simp only [lowE, highE]
  omega
theorem beg_9 (n b0 b1 b2 : Nat) (h1 : 1 ≤ n) (h3 : n ≤ 3) (l0 : b0 < 256) (c : b0 = 244) : begN n b0 b1 b2 = !fullN n b0 b1 b2 := by
  have e1 : needN b0 = 4 := by unfold needN; (repeat' split) <;> omega
  have e3 : Lib.firstT b0 = 68 := by unfold Lib.firstT; (repeat' split) <;> omega
  have e2 : needR b0 = b0 - 240 := by unfold needR; (repeat' split) <;> omega
  have a1 : Lib.accLo (68 / 16) = 128 := rfl
  have a2 : Lib.accHi (68 / 16) = 143 := rfl
  by_cases hf : needN b0 ≤ n
  · rw [begN_full _ _ _ _ hf, (fullN_iff n b0 b1 b2).2 (.inl (by rw [e3]; omega))]; rfl
  by_cases k1 : n = 1
  · subst k1
    apply not_of_iff
    rw [begN1 _ _ _ hf, e1, e2, fullN_iff, e3, a1, a2]
    rw [rangeB_iff _ _ _ (by rw [leastN4]; omega), leastN4]
    simp only [lowE, highE]
    omega
  by_cases k2 : n = 2
  · subst k2
    apply not_of_iff
    rw [begN2 _ _ _ hf, e1, e2, fullN_iff, e3, a1, a2]
    rw [and_iff (rangeB_iff _ _ _ (by rw [leastN4]; omega)), leastN4]
    simp only [lowE, highE]
    omega
  obtain rfl : n = 3 := by omega
  apply not_of_iff
  rw [begN3 _ _ _ hf, e1, e2, fullN_iff, e3, a1, a2]
  rw [and_iff (rangeB_iff _ _ _ (by rw [leastN4]; omega)), leastN4]
  simp only [lowE, highE]
  omega
theorem beg_10 (n b0 b1 b2 : Nat) (h1 : 1 ≤ n) (h3 : n ≤ 3) (l0 : b0 < 256) (c : 245 ≤ b0) : begN n b0 b1 b2 = !fullN n b0 b1 b2 := by
  have e1 : needN b0 = 0 := by unfold needN; (repeat' split) <;> omega
  have e3 : Lib.firstT b0 = 241 := by unfold Lib.firstT; (repeat' split) <;> omega
  rw [begN_full _ _ _ _ (by omega), (fullN_iff n b0 b1 b2).2 (.inl (by rw [e3]; omega))]; rfl
theorem beg_full (n b0 b1 b2 : Nat) (h1 : 1 ≤ n) (h3 : n ≤ 3) (l0 : b0 < 256) : begN n b0 b1 b2 = !fullN n b0 b1 b2 := by
  have c : b0 < 128 ∨ (128 ≤ b0 ∧ b0 < 194) ∨ (194 ≤ b0 ∧ b0 < 224) ∨ b0 = 224 ∨ (225 ≤ b0 ∧ b0 < 237) ∨ b0 = 237 ∨ (238 ≤ b0 ∧ b0 < 240) ∨ b0 = 240 ∨ (241 ≤ b0 ∧ b0 < 244) ∨ b0 = 244 ∨ 245 ≤ b0 := by omega
  rcases c with c | c | c | c | c | c | c | c | c | c | c
  · exact beg_0 n b0 b1 b2 h1 h3 l0 c
  · exact beg_1 n b0 b1 b2 h1 h3 l0 c
  · exact beg_2 n b0 b1 b2 h1 h3 l0 c
  · exact beg_3 n b0 b1 b2 h1 h3 l0 c
  · exact beg_4 n b0 b1 b2 h1 h3 l0 c
  · exact beg_5 n b0 b1 b2 h1 h3 l0 c
  · exact beg_6 n b0 b1 b2 h1 h3 l0 c
  · exact beg_7 n b0 b1 b2 h1 h3 l0 c
  · exact beg_8 n b0 b1 b2 h1 h3 l0 c
  · exact beg_9 n b0 b1 b2 h1 h3 l0 c
  · exact beg_10 n b0 b1 b2 h1 h3 l0 c
end Go.Proofs.YtjdbkpckhgncbaaDoor
