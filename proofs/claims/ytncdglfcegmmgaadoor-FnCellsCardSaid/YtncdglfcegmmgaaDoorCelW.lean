/- The width of a cell's text, with tags and entities: plain words. No walk. -/
import Derived.Test.YtncdglfcegmmgaaDoorCfg
import Derived.Test.YtncdglfcegmmgaaDoorWidth
namespace Go.Proofs.YtncdglfcegmmgaaDoor
open Go.RowKit
set_option linter.unusedVariables false

/-- The byte that ends what x begins (0: x begins nothing). -/
def endOf (m : Bool) (x : UInt8) : UInt8 := if m = true then (if x = 60 then 62 else if x = 38 then 59 else 0) else 0
/-- Where b stands first, from k on (the length: nowhere). -/
def findB (s : ByteArray) (b : UInt8) (k : Nat) : Nat := if h : k < s.size then (if s[k] = b then k else findB s b (k + 1)) else k
termination_by s.size - k
theorem findB_hit (s : ByteArray) (b : UInt8) (k : Nat) (h : k < s.size) (hb : s[k] = b) : findB s b k = k := by rw [findB, dif_pos h, if_pos hb]
theorem findB_go (s : ByteArray) (b : UInt8) (k : Nat) (h : k < s.size) (hb : s[k] ≠ b) : findB s b k = findB s b (k + 1) := by rw [findB, dif_pos h, if_neg hb]
theorem findB_end (s : ByteArray) (b : UInt8) (k : Nat) (h : ¬ k < s.size) : findB s b k = k := by rw [findB, dif_neg h]
theorem findB_ge (s : ByteArray) (b : UInt8) (k : Nat) : k ≤ findB s b k := by
  by_cases h : k < s.size
  · by_cases hb : s[k] = b
    · rw [findB_hit s b k h hb]; exact Nat.le_refl _
    · rw [findB_go s b k h hb]
      have := findB_ge s b (k + 1)
      omega
  · rw [findB_end s b k h]; exact Nat.le_refl _
termination_by s.size - k
theorem findB_le (s : ByteArray) (b : UInt8) (k : Nat) (hk : k ≤ s.size) : findB s b k ≤ s.size := by
  by_cases h : k < s.size
  · by_cases hb : s[k] = b
    · rw [findB_hit s b k h hb]; omega
    · rw [findB_go s b k h hb]
      exact findB_le s b (k + 1) (by omega)
  · rw [findB_end s b k h]; exact hk
termination_by s.size - k
theorem findB_at (s : ByteArray) (b : UInt8) (k : Nat) (h : findB s b k < s.size) : ∃ hh : findB s b k < s.size, s[findB s b k] = b := by
  by_cases hk : k < s.size
  · by_cases hb : s[k] = b
    · have e := findB_hit s b k hk hb
      refine ⟨h, ?_⟩
      simp only [e]
      exact hb
    · have e := findB_go s b k hk hb
      have h' := h
      rw [e] at h'
      obtain ⟨hh, he⟩ := findB_at s b (k + 1) h'
      refine ⟨h, ?_⟩
      simp only [e]
      exact he
  · rw [findB_end s b k hk] at h; exact absurd h hk
termination_by s.size - k
/-- Does what begins at i end? -/
def closes (m : Bool) (s : ByteArray) (i : Nat) (h : i < s.size) : Prop := endOf m s[i] ≠ 0 ∧ findB s (endOf m s[i]) (i + 1) < s.size
instance (m : Bool) (s : ByteArray) (i : Nat) (h : i < s.size) : Decidable (closes m s i h) := by unfold closes; infer_instance
/-- The width from index i on. -/
def celW (m : Bool) (s : ByteArray) (i : Nat) : Nat :=
  if h : i < s.size then
    (if closes m s i h then (if endOf m s[i] = 59 then 1 else 0) + celW m s (findB s (endOf m s[i]) (i + 1) + 1)
     else rw1 (ch s i).1 + celW m s (i + (ch s i).2))
  else 0
termination_by s.size - i
decreasing_by
  · have := findB_ge s (endOf m s[i]) (i + 1); omega
  · have := (ch_len s i h).1; omega
theorem celW_end (m : Bool) (s : ByteArray) (i : Nat) (h : ¬ i < s.size) : celW m s i = 0 := by rw [celW, dif_neg h]
theorem celW_skip (m : Bool) (s : ByteArray) (i : Nat) (h : i < s.size) (hc : closes m s i h) : celW m s i = (if endOf m s[i] = 59 then 1 else 0) + celW m s (findB s (endOf m s[i]) (i + 1) + 1) := by rw [celW, dif_pos h, if_pos hc]
theorem celW_char (m : Bool) (s : ByteArray) (i : Nat) (h : i < s.size) (hc : ¬ closes m s i h) : celW m s i = rw1 (ch s i).1 + celW m s (i + (ch s i).2) := by rw [celW, dif_pos h, if_neg hc]
theorem celW_le (m : Bool) (s : ByteArray) (i : Nat) : celW m s i ≤ 2 * (s.size - i) := by
  by_cases h : i < s.size
  · by_cases hc : closes m s i h
    · rw [celW_skip m s i h hc]
      have h1 := findB_ge s (endOf m s[i]) (i + 1)
      have h2 := hc.2
      have ih := celW_le m s (findB s (endOf m s[i]) (i + 1) + 1)
      split <;> omega
    · rw [celW_char m s i h hc]
      have h1 := rw1_le (ch s i).1
      have h2 := ch_len s i h
      have ih := celW_le m s (i + (ch s i).2)
      omega
  · rw [celW_end m s i h]; omega
termination_by s.size - i
decreasing_by
  · have := findB_ge s (endOf m s[i]) (i + 1); omega
  · have := (ch_len s i h).1; omega
/-- What CellWidth answers. -/
def cellWB (c : Cfg) (s : ByteArray) : Int := if validC c = true then (celW c.fm s 0 : Int) else 0
theorem cellWB_no {c : Cfg} (s : ByteArray) (h : validC c = false) : cellWB c s = 0 := if_neg (by rw [h]; decide)
theorem cellWB_yes {c : Cfg} (s : ByteArray) (h : validC c = true) : cellWB c s = (celW c.fm s 0 : Int) := if_pos h
/-- Where Markup is not set, the cell's width is the text's. -/
theorem endOf_off (x : UInt8) : endOf false x = 0 := rfl
theorem endOf_tag : endOf true 60 = 62 := rfl
theorem endOf_ent : endOf true 38 = 59 := rfl
theorem endOf_none (m : Bool) (x : UInt8) (h1 : m = false ∨ (x ≠ 60 ∧ x ≠ 38)) : endOf m x = 0 := by
  unfold endOf
  rcases h1 with rfl | ⟨h1, h2⟩
  · rfl
  · rw [if_neg h1, if_neg h2]
    split <;> rfl
theorem not_closes_none {m : Bool} {s : ByteArray} {i : Nat} {h : i < s.size} (he : endOf m s[i] = 0) : ¬ closes m s i h := fun hc => hc.1 he
end Go.Proofs.YtncdglfcegmmgaaDoor
