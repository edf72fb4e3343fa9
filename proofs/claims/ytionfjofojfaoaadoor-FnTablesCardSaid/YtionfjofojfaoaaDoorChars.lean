/- Characters: plain arithmetic on the decoder; no walk. -/
import Derived.Lib.DecodeNEq
import Derived.Test.YtionfjofojfaoaaDoorPre
namespace Go.Proofs.YtionfjofojfaoaaDoor
open Go.RowKit
set_option linter.unusedVariables false

/-- The k-th byte as a number; 0 beyond the end. -/
def by8 (s : ByteArray) (k : Nat) : Nat := (s.get! k).toNat
theorem by8_lt (s : ByteArray) (k : Nat) : by8 s k < 256 := (s.get! k).toNat_lt
theorem get!_lt (s : ByteArray) (k : Nat) (h : k < s.size) : s.get! k = s[k]'h := by
  cases s with
  | mk d => exact getElem!_pos d k h
theorem by8_of (s : ByteArray) (k : Nat) (h : k < s.size) : by8 s k = (s[k]'h).toNat := by unfold by8; rw [get!_lt s k h]

/-- A character's code and length, out of what the decoder of the model gives. -/
def chOf (d : Nat × Nat) : Int × Nat := if d.1 = 65533 ∧ d.2 = 1 then (-1, 1) else ((d.1 : Int), d.2)
/-- The character at index i. -/
def ch (s : ByteArray) (i : Nat) : Int × Nat := chOf (Utf8.decode s i)
/-- The same of a length and four bytes. -/
def chN (n b0 b1 b2 b3 : Nat) : Int × Nat := chOf (Lib.decodeN n b0 b1 b2 b3)
theorem ch_eq (s : ByteArray) (i : Nat) : ch s i = chN (s.size - i) (by8 s i) (by8 s (i + 1)) (by8 s (i + 2)) (by8 s (i + 3)) := by
  unfold ch chN; rw [Lib.decode_at]; rfl

theorem chN_len (n b0 b1 b2 b3 : Nat) (hn : 1 ≤ n) : 1 ≤ (chN n b0 b1 b2 b3).2 ∧ (chN n b0 b1 b2 b3).2 ≤ n ∧ (chN n b0 b1 b2 b3).2 ≤ 4 := by
  unfold chN chOf Lib.decodeN
  repeat' split
  all_goals (simp only; omega)
theorem ch_len (s : ByteArray) (i : Nat) (h : i < s.size) : 1 ≤ (ch s i).2 ∧ i + (ch s i).2 ≤ s.size ∧ (ch s i).2 ≤ 4 := by
  rw [ch_eq]
  have := chN_len (s.size - i) (by8 s i) (by8 s (i + 1)) (by8 s (i + 2)) (by8 s (i + 3)) (by omega)
  omega
set_option maxRecDepth 100000 in
set_option maxHeartbeats 2000000 in
theorem chN_code (n b0 b1 b2 b3 : Nat) : -1 ≤ (chN n b0 b1 b2 b3).1 ∧ (chN n b0 b1 b2 b3).1 ≤ 1114111 := by
  unfold chN chOf Lib.decodeN
  repeat' split
  all_goals (simp only; first | omega | (simp only at *; omega))
theorem ch_code (s : ByteArray) (i : Nat) : -1 ≤ (ch s i).1 ∧ (ch s i).1 ≤ 1114111 := by rw [ch_eq]; exact chN_code ..

/-- What a first byte announces. -/
def needN (b : Nat) : Nat := if b < 128 then 1 else if b < 194 then 0 else if b < 224 then 2 else if b < 240 then 3 else if b < 245 then 4 else 0
def needR (b : Nat) : Nat := if b < 128 then b else if b < 194 then 0 else if b < 224 then b - 192 else if b < 240 then b - 224 else if b < 245 then b - 240 else 0
theorem needN_le (b : Nat) : needN b ≤ 4 := by unfold needN; ((repeat' split) <;> omega)
theorem needR_le (b : Nat) : needR b ≤ 127 := by unfold needR; ((repeat' split) <;> omega)
/-- The continuation bytes of m places from p on, added to r. -/
def foldC (s : ByteArray) : Nat → Nat → Nat → Option Nat
  | 0, _, r => some r
  | m + 1, p, r => if 128 ≤ by8 s p ∧ by8 s p ≤ 191 then foldC s m (p + 1) (64 * r + by8 s p - 128) else none
def leastN (n : Nat) : Nat := if n = 2 then 128 else if n = 3 then 2048 else if n = 4 then 65536 else 0
/-- Is r a code point? -/
def pointB (r : Int) : Bool := decide (0 ≤ r ∧ r ≤ 1114111) && !decide (55296 ≤ r ∧ r ≤ 57343)
theorem pointB_iff (r : Int) : pointB r = true ↔ (0 ≤ r ∧ r ≤ 1114111) ∧ ¬ (55296 ≤ r ∧ r ≤ 57343) := by
  unfold pointB; rw [Bool.and_eq_true, Bool.not_eq_true', decide_eq_true_iff, decide_eq_false_iff_not]
theorem pointB_not (r : Int) : pointB r = false ↔ ¬ ((0 ≤ r ∧ r ≤ 1114111) ∧ ¬ (55296 ≤ r ∧ r ≤ 57343)) := by
  rw [← pointB_iff]; cases pointB r <;> simp

/-- What is answered of the bits that were read. -/
def endC (n : Nat) : Option Nat → Int × Nat
  | none => (-1, 1)
  | some r => if r < leastN n ∨ pointB r = false then (-1, 1) else ((r : Int), n)
def specCh (s : ByteArray) (i : Nat) : Int × Nat :=
  if needN (by8 s i) = 0 ∨ s.size < i + needN (by8 s i) then (-1, 1) else endC (needN (by8 s i)) (foldC s (needN (by8 s i) - 1) (i + 1) (needR (by8 s i)))

theorem chOf_bad : chOf (65533, 1) = (-1, 1) := by unfold chOf; rw [if_pos ⟨rfl, rfl⟩]
theorem chOf_big (r m : Nat) (h : 2 ≤ m) : chOf (r, m) = ((r : Int), m) := by
  unfold chOf; rw [if_neg (by intro h2; have := h2.2; simp only at this; omega)]
theorem chOf_small (r : Nat) (h : r < 128) : chOf (r, 1) = ((r : Int), 1) := by
  unfold chOf; rw [if_neg (by intro h2; have := h2.1; simp only at this; omega)]
theorem endC_some (n r : Nat) : endC n (some r) = if r < leastN n ∨ (1114111 < r ∨ (55296 ≤ r ∧ r ≤ 57343)) then (-1, 1) else ((r : Int), n) := by
  have hp : (pointB (r : Int) = false) = (1114111 < r ∨ (55296 ≤ r ∧ r ≤ 57343)) := by
    rw [pointB_not]; apply propext; omega
  simp only [endC, hp]
theorem leastN2 : leastN 2 = 128 := rfl
theorem leastN3 : leastN 3 = 2048 := rfl
theorem leastN4 : leastN 4 = 65536 := rfl
theorem endC_none (n : Nat) : endC n none = (-1, 1) := rfl

set_option maxRecDepth 100000 in
set_option maxHeartbeats 4000000 in
theorem specCh_eq (s : ByteArray) (i : Nat) (h : i < s.size) : specCh s i = ch s i := by
  rw [ch_eq]
  unfold specCh
  have l0 := by8_lt s i; have l1 := by8_lt s (i + 1); have l2 := by8_lt s (i + 2); have l3 := by8_lt s (i + 3)
  have f1 : ∀ r, foldC s (2 - 1) (i + 1) r = if 128 ≤ by8 s (i + 1) ∧ by8 s (i + 1) ≤ 191 then some (64 * r + by8 s (i + 1) - 128) else none := fun r => rfl
  have f2 : ∀ r, foldC s (3 - 1) (i + 1) r = if 128 ≤ by8 s (i + 1) ∧ by8 s (i + 1) ≤ 191 then (if 128 ≤ by8 s (i + 2) ∧ by8 s (i + 2) ≤ 191 then some (64 * (64 * r + by8 s (i + 1) - 128) + by8 s (i + 2) - 128) else none) else none := fun r => rfl
  have f3 : ∀ r, foldC s (4 - 1) (i + 1) r = if 128 ≤ by8 s (i + 1) ∧ by8 s (i + 1) ≤ 191 then (if 128 ≤ by8 s (i + 2) ∧ by8 s (i + 2) ≤ 191 then (if 128 ≤ by8 s (i + 3) ∧ by8 s (i + 3) ≤ 191 then some (64 * (64 * (64 * r + by8 s (i + 1) - 128) + by8 s (i + 2) - 128) + by8 s (i + 3) - 128) else none) else none) else none := fun r => rfl
  have f0 : ∀ r, foldC s (1 - 1) (i + 1) r = some r := fun r => rfl
  obtain ⟨n, hn⟩ : ∃ n, n = s.size - i := ⟨_, rfl⟩
  rw [← hn]
  have hsz : s.size = i + n := by omega
  rw [hsz]
  have hn1 : 1 ≤ n := by omega
  clear h hn hsz
  generalize by8 s i = b0 at *
  generalize by8 s (i + 1) = b1 at *
  generalize by8 s (i + 2) = b2 at *
  generalize by8 s (i + 3) = b3 at *
  have c : b0 < 128 ∨ (128 ≤ b0 ∧ b0 < 194) ∨ (194 ≤ b0 ∧ b0 < 224) ∨ (224 ≤ b0 ∧ b0 < 240) ∨ (240 ≤ b0 ∧ b0 < 245) ∨ 245 ≤ b0 := by omega
  unfold chN
  rcases c with c | c | c | c | c | c
  · have e1 : needN b0 = 1 := by unfold needN; rw [if_pos c]
    have e2 : needR b0 = b0 := by unfold needR; rw [if_pos c]
    have e3 : Lib.decodeN n b0 b1 b2 b3 = (b0, 1) := by unfold Lib.decodeN; rw [if_pos c]
    rw [e1, e2, e3, if_neg (by omega), f0, endC_some, chOf_small _ c, if_neg (by simp [leastN]; omega)]
  · have e1 : needN b0 = 0 := by unfold needN; rw [if_neg (by omega), if_pos (by omega)]
    have e3 : Lib.decodeN n b0 b1 b2 b3 = (65533, 1) := by
      unfold Lib.decodeN
      rw [if_neg (by omega), if_neg (c := b0 / 16 = 14 ∧ _) (by omega), if_neg (c := b0 / 8 = 30 ∧ _) (by omega)]
      split
      · rw [if_neg (by omega)]
      · rfl
    rw [e1, e3, if_pos (.inl rfl), chOf_bad]
  · have e1 : needN b0 = 2 := by unfold needN; (repeat' split) <;> omega
    have e2 : needR b0 = b0 - 192 := by unfold needR; (repeat' split) <;> omega
    have e3 : Lib.decodeN n b0 b1 b2 b3 = if 1 < n ∧ b1 / 64 = 2 then (if b0 % 32 * 64 + b1 % 64 ≥ 128 then (b0 % 32 * 64 + b1 % 64, 2) else (65533, 1)) else (65533, 1) := by
      unfold Lib.decodeN
      rw [if_neg (by omega), if_neg (c := b0 / 16 = 14 ∧ _) (by omega), if_neg (c := b0 / 8 = 30 ∧ _) (by omega)]
      by_cases hc : 1 < n ∧ b1 / 64 = 2
      · rw [if_pos ⟨by omega, hc⟩, if_pos hc]
      · rw [if_neg (fun h => hc h.2), if_neg hc]
    rw [e1, e2, e3, f1]
    by_cases hc : 1 < n ∧ b1 / 64 = 2
    · rw [if_pos hc, if_neg (by omega), if_pos (by omega), endC_some, show 64 * (b0 - 192) + b1 - 128 = b0 % 32 * 64 + b1 % 64 by omega, if_pos (c := _ ≥ 128) (by omega), chOf_big _ _ (by omega), if_neg (by rw [leastN2]; omega)]
    · rw [if_neg (c := 1 < n ∧ b1 / 64 = 2) hc, chOf_bad]
      by_cases h1 : (2 = 0 ∨ i + n < i + 2)
      · rw [if_pos h1]
      · rw [if_neg h1, if_neg (by omega), endC_none]
  · have e1 : needN b0 = 3 := by unfold needN; (repeat' split) <;> omega
    have e2 : needR b0 = b0 - 224 := by unfold needR; (repeat' split) <;> omega
    have e3 : Lib.decodeN n b0 b1 b2 b3 = if (1 < n ∧ b1 / 64 = 2) ∧ (2 < n ∧ b2 / 64 = 2) then (if b0 % 16 * 4096 + b1 % 64 * 64 + b2 % 64 ≥ 2048 ∧ (b0 % 16 * 4096 + b1 % 64 * 64 + b2 % 64 < 55296 ∨ (57344 ≤ b0 % 16 * 4096 + b1 % 64 * 64 + b2 % 64 ∧ b0 % 16 * 4096 + b1 % 64 * 64 + b2 % 64 ≤ 1114111)) then (b0 % 16 * 4096 + b1 % 64 * 64 + b2 % 64, 3) else (65533, 1)) else (65533, 1) := by
      unfold Lib.decodeN
      rw [if_neg (by omega), if_neg (c := b0 / 32 = 6 ∧ _) (by omega), if_neg (c := b0 / 8 = 30 ∧ _) (by omega)]
      by_cases hc : (1 < n ∧ b1 / 64 = 2) ∧ (2 < n ∧ b2 / 64 = 2)
      · rw [if_pos ⟨by omega, hc⟩, if_pos hc]
      · rw [if_neg (fun h => hc h.2), if_neg hc]
    rw [e1, e2, e3, f2]
    by_cases hc : (1 < n ∧ b1 / 64 = 2) ∧ (2 < n ∧ b2 / 64 = 2)
    · rw [if_pos hc, if_neg (by omega), if_pos (by omega), if_pos (by omega), endC_some, show 64 * (64 * (b0 - 224) + b1 - 128) + b2 - 128 = b0 % 16 * 4096 + b1 % 64 * 64 + b2 % 64 by omega]
      generalize b0 % 16 * 4096 + b1 % 64 * 64 + b2 % 64 = R
      by_cases hR : R ≥ 2048 ∧ (R < 55296 ∨ (57344 ≤ R ∧ R ≤ 1114111))
      · rw [if_pos hR, chOf_big _ _ (by omega), if_neg (by rw [leastN3]; omega)]
      · rw [if_neg hR, chOf_bad, if_pos (by rw [leastN3]; omega)]
    · rw [if_neg (c := (1 < n ∧ b1 / 64 = 2) ∧ (2 < n ∧ b2 / 64 = 2)) hc, chOf_bad]
      by_cases h1 : (3 = 0 ∨ i + n < i + 3)
      · rw [if_pos h1]
      · rw [if_neg h1]
        by_cases h2 : 128 ≤ b1 ∧ b1 ≤ 191
        · rw [if_pos h2, if_neg (by omega), endC_none]
        · rw [if_neg h2, endC_none]
  · have e1 : needN b0 = 4 := by unfold needN; (repeat' split) <;> omega
    have e2 : needR b0 = b0 - 240 := by unfold needR; (repeat' split) <;> omega
    have e3 : Lib.decodeN n b0 b1 b2 b3 = if (1 < n ∧ b1 / 64 = 2) ∧ (2 < n ∧ b2 / 64 = 2) ∧ (3 < n ∧ b3 / 64 = 2) then (if b0 % 8 * 262144 + b1 % 64 * 4096 + b2 % 64 * 64 + b3 % 64 ≥ 65536 ∧ (b0 % 8 * 262144 + b1 % 64 * 4096 + b2 % 64 * 64 + b3 % 64 < 55296 ∨ (57344 ≤ b0 % 8 * 262144 + b1 % 64 * 4096 + b2 % 64 * 64 + b3 % 64 ∧ b0 % 8 * 262144 + b1 % 64 * 4096 + b2 % 64 * 64 + b3 % 64 ≤ 1114111)) then (b0 % 8 * 262144 + b1 % 64 * 4096 + b2 % 64 * 64 + b3 % 64, 4) else (65533, 1)) else (65533, 1) := by
      unfold Lib.decodeN
      rw [if_neg (by omega), if_neg (c := b0 / 32 = 6 ∧ _) (by omega), if_neg (c := b0 / 16 = 14 ∧ _) (by omega)]
      by_cases hc : (1 < n ∧ b1 / 64 = 2) ∧ (2 < n ∧ b2 / 64 = 2) ∧ (3 < n ∧ b3 / 64 = 2)
      · rw [if_pos ⟨by omega, hc⟩, if_pos hc]
      · rw [if_neg (fun h => hc h.2), if_neg hc]
    rw [e1, e2, e3, f3]
    by_cases hc : (1 < n ∧ b1 / 64 = 2) ∧ (2 < n ∧ b2 / 64 = 2) ∧ (3 < n ∧ b3 / 64 = 2)
    · rw [if_pos hc, if_neg (by omega), if_pos (by omega), if_pos (by omega), if_pos (by omega), endC_some, show 64 * (64 * (64 * (b0 - 240) + b1 - 128) + b2 - 128) + b3 - 128 = b0 % 8 * 262144 + b1 % 64 * 4096 + b2 % 64 * 64 + b3 % 64 by omega]
      generalize b0 % 8 * 262144 + b1 % 64 * 4096 + b2 % 64 * 64 + b3 % 64 = R
      by_cases hR : R ≥ 65536 ∧ (R < 55296 ∨ (57344 ≤ R ∧ R ≤ 1114111))
      · rw [if_pos hR, chOf_big _ _ (by omega), if_neg (by rw [leastN4]; omega)]
      · rw [if_neg hR, chOf_bad, if_pos (by rw [leastN4]; omega)]
    · rw [if_neg (c := (1 < n ∧ b1 / 64 = 2) ∧ (2 < n ∧ b2 / 64 = 2) ∧ (3 < n ∧ b3 / 64 = 2)) hc, chOf_bad]
      by_cases h1 : (4 = 0 ∨ i + n < i + 4)
      · rw [if_pos h1]
      · rw [if_neg h1]
        by_cases h2 : 128 ≤ b1 ∧ b1 ≤ 191
        · rw [if_pos h2]
          by_cases h3 : 128 ≤ b2 ∧ b2 ≤ 191
          · rw [if_pos h3, if_neg (by omega), endC_none]
          · rw [if_neg h3, endC_none]
        · rw [if_neg h2, endC_none]
  · have e1 : needN b0 = 0 := by unfold needN; (repeat' split) <;> omega
    have e3 : Lib.decodeN n b0 b1 b2 b3 = (65533, 1) := by
      unfold Lib.decodeN
      rw [if_neg (by omega), if_neg (c := b0 / 32 = 6 ∧ _) (by omega), if_neg (c := b0 / 16 = 14 ∧ _) (by omega)]
      split
      · rw [if_neg (by omega)]
      · rfl
    rw [e1, e3, if_pos (.inl rfl), chOf_bad]

/-- The codes of the characters from index i on. -/
def runesFrom (s : ByteArray) (i : Nat) : List Int :=
  if h : i < s.size then (ch s i).1 :: runesFrom s (i + (ch s i).2) else []
termination_by s.size - i
decreasing_by have := (ch_len s i h).1; omega
/-- The characters from index i on, as texts. -/
def cutsFrom (s : ByteArray) (i : Nat) : List ByteArray :=
  if h : i < s.size then s.extract i (i + (ch s i).2) :: cutsFrom s (i + (ch s i).2) else []
termination_by s.size - i
decreasing_by have := (ch_len s i h).1; omega
/-- The indices at which the characters from index i on end. -/
def endsFrom (s : ByteArray) (i : Nat) : List Int :=
  if h : i < s.size then ((i + (ch s i).2 : Nat) : Int) :: endsFrom s (i + (ch s i).2) else []
termination_by s.size - i
decreasing_by have := (ch_len s i h).1; omega
def runesB (s : ByteArray) : List Int := runesFrom s 0
def cutsB (s : ByteArray) : List ByteArray := cutsFrom s 0
def endsB (s : ByteArray) : List Int := endsFrom s 0

theorem runesFrom_yes (s : ByteArray) (i : Nat) (h : i < s.size) : runesFrom s i = (ch s i).1 :: runesFrom s (i + (ch s i).2) := by rw [runesFrom, dif_pos h]
theorem runesFrom_no (s : ByteArray) (i : Nat) (h : ¬ i < s.size) : runesFrom s i = [] := by rw [runesFrom, dif_neg h]
theorem cutsFrom_yes (s : ByteArray) (i : Nat) (h : i < s.size) : cutsFrom s i = s.extract i (i + (ch s i).2) :: cutsFrom s (i + (ch s i).2) := by rw [cutsFrom, dif_pos h]
theorem cutsFrom_no (s : ByteArray) (i : Nat) (h : ¬ i < s.size) : cutsFrom s i = [] := by rw [cutsFrom, dif_neg h]
theorem endsFrom_yes (s : ByteArray) (i : Nat) (h : i < s.size) : endsFrom s i = ((i + (ch s i).2 : Nat) : Int) :: endsFrom s (i + (ch s i).2) := by rw [endsFrom, dif_pos h]
theorem endsFrom_no (s : ByteArray) (i : Nat) (h : ¬ i < s.size) : endsFrom s i = [] := by rw [endsFrom, dif_neg h]

/-- out holds the part ahead of index i. -/
theorem runes_step (s : ByteArray) (i : Nat) (out : List Int) (h : i < s.size) (ho : out ++ runesFrom s i = runesB s) : (out ++ [(ch s i).1]) ++ runesFrom s (i + (ch s i).2) = runesB s := by
  rw [← ho, runesFrom_yes s i h]; simp
theorem runes_done (s : ByteArray) (i : Nat) (out : List Int) (h : ¬ i < s.size) (ho : out ++ runesFrom s i = runesB s) : out = runesB s := by
  rw [← ho, runesFrom_no s i h, List.append_nil]
theorem cuts_step (s : ByteArray) (i : Nat) (out : List ByteArray) (h : i < s.size) (ho : out ++ cutsFrom s i = cutsB s) : (out ++ [s.extract i (i + (ch s i).2)]) ++ cutsFrom s (i + (ch s i).2) = cutsB s := by
  rw [← ho, cutsFrom_yes s i h]; simp
theorem cuts_done (s : ByteArray) (i : Nat) (out : List ByteArray) (h : ¬ i < s.size) (ho : out ++ cutsFrom s i = cutsB s) : out = cutsB s := by
  rw [← ho, cutsFrom_no s i h, List.append_nil]
theorem ends_step (s : ByteArray) (i : Nat) (out : List Int) (h : i < s.size) (ho : out ++ endsFrom s i = endsB s) : (out ++ [((i + (ch s i).2 : Nat) : Int)]) ++ endsFrom s (i + (ch s i).2) = endsB s := by
  rw [← ho, endsFrom_yes s i h]; simp
theorem ends_done (s : ByteArray) (i : Nat) (out : List Int) (h : ¬ i < s.size) (ho : out ++ endsFrom s i = endsB s) : out = endsB s := by
  rw [← ho, endsFrom_no s i h, List.append_nil]

theorem runesFrom_length (s : ByteArray) (k i : Nat) (hk : s.size - i ≤ k) : (runesFrom s i).length ≤ s.size - i := by
  induction k generalizing i with
  | zero => rw [runesFrom_no s i (by omega)]; simp
  | succ k ih =>
    by_cases h : i < s.size
    · rw [runesFrom_yes s i h]
      have hl := ch_len s i h
      have := ih (i + (ch s i).2) (by omega)
      simp only [List.length_cons]; omega
    · rw [runesFrom_no s i h]; simp
theorem cutsFrom_length (s : ByteArray) (k i : Nat) (hk : s.size - i ≤ k) : (cutsFrom s i).length = (runesFrom s i).length := by
  induction k generalizing i with
  | zero => rw [runesFrom_no s i (by omega), cutsFrom_no s i (by omega)]; rfl
  | succ k ih =>
    by_cases h : i < s.size
    · rw [runesFrom_yes s i h, cutsFrom_yes s i h]
      have hl := ch_len s i h
      have := ih (i + (ch s i).2) (by omega)
      rw [List.length_cons, List.length_cons, this]
    · rw [runesFrom_no s i h, cutsFrom_no s i h]; rfl
theorem endsFrom_length (s : ByteArray) (k i : Nat) (hk : s.size - i ≤ k) : (endsFrom s i).length = (runesFrom s i).length := by
  induction k generalizing i with
  | zero => rw [runesFrom_no s i (by omega), endsFrom_no s i (by omega)]
  | succ k ih =>
    by_cases h : i < s.size
    · rw [runesFrom_yes s i h, endsFrom_yes s i h]
      have hl := ch_len s i h
      have := ih (i + (ch s i).2) (by omega)
      rw [List.length_cons, List.length_cons, this]
    · rw [runesFrom_no s i h, endsFrom_no s i h]
theorem runesB_length (s : ByteArray) : (runesB s).length ≤ s.size := runesFrom_length s s.size 0 (by omega)
theorem cutsB_length (s : ByteArray) : (cutsB s).length = (runesB s).length := cutsFrom_length s s.size 0 (by omega)
theorem endsB_length (s : ByteArray) : (endsB s).length = (runesB s).length := endsFrom_length s s.size 0 (by omega)
theorem out_length {a b c : List Int} (h : a ++ b = c) : a.length ≤ c.length := by rw [← h]; simp
theorem outs_length {a b c : List ByteArray} (h : a ++ b = c) : a.length ≤ c.length := by rw [← h]; simp
end Go.Proofs.YtionfjofojfaoaaDoor
