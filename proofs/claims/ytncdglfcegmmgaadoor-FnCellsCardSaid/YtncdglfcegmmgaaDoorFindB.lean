/- Where a byte stands: the library's words and mine. No walk. -/
import Derived.Test.YtncdglfcegmmgaaDoorCelW
import Derived.Lib.LastIndexByte
import Derived.Lib.IndexBytes
namespace Go.Proofs.YtncdglfcegmmgaaDoor
open Go.RowKit
set_option linter.unusedVariables false

theorem findB_upto (s : ByteArray) (b : UInt8) (k j : Nat) (hkj : k ≤ j) (hj : j < s.size) (hb : s[j] = b) : findB s b k ≤ j := by
  by_cases hk : s[k]'(by omega) = b
  · rw [findB_hit s b k (by omega) hk]; exact hkj
  · rw [findB_go s b k (by omega) hk]
    have hne : k ≠ j := fun e => hk (by subst e; exact hb)
    exact findB_upto s b (k + 1) j (by omega) hj hb
termination_by j - k
theorem findB_nowhere (s : ByteArray) (b : UInt8) (k : Nat) (hk : k ≤ s.size) (hn : ∀ j (h : j < s.size), k ≤ j → s[j] ≠ b) : findB s b k = s.size := by
  by_cases h : k < s.size
  · rw [findB_go s b k h (hn k h (Nat.le_refl _))]
    exact findB_nowhere s b (k + 1) (by omega) (fun j hj hkj => hn j hj (by omega))
  · rw [findB_end s b k h]; omega
termination_by s.size - k
theorem data_get (s : ByteArray) (j : Nat) (h : j < s.size) : s.data[j]! = s[j] := by
  have h' : j < s.data.size := h
  rw [getElem!_pos s.data j h']; rfl
theorem toNat_eq {x : UInt8} {n : Nat} (hn : n < 256) : ((x.toNat : Int) = (n : Int)) ↔ x = UInt8.ofNat n := by
  constructor
  · intro h
    exact UInt8.toNat_inj.1 (by rw [UInt8.toNat_ofNat']; omega)
  · intro h; subst h; rw [UInt8.toNat_ofNat']; omega
/-- Does the byte stand behind i? -/
theorem last_lt (s : ByteArray) (n : Nat) (hn : n < 256) (i : Nat) (hi : i < s.size) : decide ((i : Int) < Lib.lastIndexByte s (n : Int)) = decide (findB s (UInt8.ofNat n) (i + 1) < s.size) := by
  rw [decide_eq_decide]
  rcases Lib.lastIndexByte_spec s (n : Int) with ⟨e, hno⟩ | ⟨q, hq, e, hc, hno⟩
  · rw [e, findB_nowhere s _ (i + 1) (by omega) (fun j hj _ hb => hno j hj (by rw [data_get s j hj]; exact (toNat_eq hn).2 hb))]
    omega
  · rw [e]
    by_cases hiq : i < q
    · have := findB_upto s (UInt8.ofNat n) (i + 1) q hiq hq (by rw [data_get s q hq] at hc; exact (toNat_eq hn).1 hc)
      omega
    · rw [findB_nowhere s _ (i + 1) (by omega) (fun j hj hij hb => hno j (by omega) hj (by rw [data_get s j hj]; exact (toNat_eq hn).2 hb))]
      omega
theorem drop_byte (s : ByteArray) (k : Nat) (h : k < s.size) : s.data.toList.drop k = s[k] :: s.data.toList.drop (k + 1) := List.drop_eq_getElem_cons (l := s.data.toList) h
theorem index_drop (s : ByteArray) (b : UInt8) (k : Nat) (h : findB s b k < s.size) : Lib.indexByte (s.data.toList.drop k) b = (findB s b k : Int) - (k : Int) := by
  have hk : k < s.size := by have := findB_ge s b k; omega
  rw [drop_byte s k hk, Lib.indexByte]
  by_cases hb : s[k] = b
  · rw [if_pos (by simp [hb]), findB_hit s b k hk hb]; omega
  · have e := findB_go s b k hk hb
    have ih := index_drop s b (k + 1) (by rw [← e]; exact h)
    have hge := findB_ge s b (k + 1)
    rw [if_neg (by simp [hb]), ih, e, if_neg (by simp; omega)]
    omega
termination_by s.size - k
theorem index_from (s : ByteArray) (b : UInt8) (k : Nat) (h : findB s b k < s.size) : Lib.indexByte (s.extract k s.size).data.toList b = (findB s b k : Int) - (k : Int) := by
  rw [Lib.extract_to_end]; exact index_drop s b k h
/-- Where Markup is not set, the cell's width is the text's. -/
theorem celW_text (s : ByteArray) (i : Nat) : celW false s i = widthL (runesFrom s i) := by
  by_cases h : i < s.size
  · rw [celW_char false s i h (not_closes_none (endOf_off _)), runesFrom_yes s i h, celW_text s (i + (ch s i).2)]
    simp [widthL]
  · rw [celW_end false s i h, runesFrom_no s i h]; rfl
termination_by s.size - i
decreasing_by have := (ch_len s i h).1; omega
theorem celW_off (s : ByteArray) : celW false s 0 = textW s := celW_text s 0
/-- What a tag's, an entity's beginning does. -/
theorem celW_tag (s : ByteArray) (i : Nat) (h : i < s.size) (hx : s[i] = 60) (hf : findB s 62 (i + 1) < s.size) : celW true s i = celW true s (findB s 62 (i + 1) + 1) := by
  rw [celW_skip true s i h ⟨by rw [hx, endOf_tag]; decide, by rw [hx, endOf_tag]; exact hf⟩, hx, endOf_tag]
  simp
theorem celW_ent (s : ByteArray) (i : Nat) (h : i < s.size) (hx : s[i] = 38) (hf : findB s 59 (i + 1) < s.size) : celW true s i = 1 + celW true s (findB s 59 (i + 1) + 1) := by
  rw [celW_skip true s i h ⟨by rw [hx, endOf_ent]; decide, by rw [hx, endOf_ent]; exact hf⟩, hx, endOf_ent]
  simp
theorem celW_other (s : ByteArray) (i : Nat) (h : i < s.size) (h1 : s[i] = 60 → ¬ findB s 62 (i + 1) < s.size) (h2 : s[i] = 38 → ¬ findB s 59 (i + 1) < s.size) : celW true s i = rw1 (ch s i).1 + celW true s (i + (ch s i).2) := by
  refine celW_char true s i h ?_
  rintro ⟨hc1, hc2⟩
  by_cases e1 : s[i] = 60
  · rw [e1, endOf_tag] at hc2; exact h1 e1 hc2
  · by_cases e2 : s[i] = 38
    · rw [e2, endOf_ent] at hc2; exact h2 e2 hc2
    · exact hc1 (endOf_none _ _ (.inr ⟨e1, e2⟩))
end Go.Proofs.YtncdglfcegmmgaaDoor
