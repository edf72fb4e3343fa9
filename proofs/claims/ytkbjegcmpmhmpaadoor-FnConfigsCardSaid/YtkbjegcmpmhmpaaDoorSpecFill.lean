/- The model's RoundWidth and Filling. -/
import Derived.Test.YtkbjegcmpmhmpaaDoorSpecCfg
import Derived.IntWalk
import Derived.Lib.AppendStr
namespace Go.Proofs.YtkbjegcmpmhmpaaDoor
open Go.RowKit
set_option linter.unusedVariables false

theorem tabs_bounds (n t : Int) (h0 : 0 ≤ n) (h1 : n ≤ 100000) (h2 : 1 ≤ t) (h3 : t ≤ 32) : 0 ≤ (n + t - 1) / t ∧ (n + t - 1) / t ≤ n ∧ 0 ≤ (n + t - 1) / t * t ∧ (n + t - 1) / t * t ≤ 100031 := by
  have e1 := Int.ediv_mul_le (n + t - 1) (show t ≠ 0 by omega)
  have e0 : 0 ≤ (n + t - 1) / t := Int.ediv_nonneg (by omega) (by omega)
  have e2 : (n + t - 1) / t ≤ n := by
    by_cases hn : n = 0
    · have : (n + t - 1) / t = 0 := Int.ediv_eq_zero_of_lt (by omega) (by omega)
      omega
    · refine Int.ediv_le_of_le_mul (by omega) ?_
      obtain ⟨k, rfl⟩ : ∃ k, n = k + 1 := ⟨n - 1, by omega⟩
      obtain ⟨u, rfl⟩ : ∃ u, t = u + 1 := ⟨t - 1, by omega⟩
      have : 0 ≤ k * u := Int.mul_nonneg (by omega) (by omega)
      have e : (k + 1) * (u + 1) = k * u + k + u + 1 := by rw [Int.add_mul, Int.mul_add]; omega
      omega
  have e3 : 0 ≤ (n + t - 1) / t * t := Int.mul_nonneg e0 (by omega)
  exact ⟨e0, e2, e3, by omega⟩
theorem roundC_no (c : Cfg) (n : Int) (h : ¬ (validC c = true ∧ 0 ≤ n ∧ n ≤ 100000)) : roundC c n = 0 := if_neg h
theorem fillC_no (c : Cfg) (n : Int) (h : ¬ (validC c = true ∧ 0 ≤ n ∧ n ≤ 100000)) : fillC c n = ⟨#[]⟩ := if_neg h
theorem fillN_tab (c : Cfg) (n : Int) (h : c.cpad = 9) : fillN c n = ((n + c.ctab - 1) / c.ctab).toNat := if_pos h
theorem fillN_other (c : Cfg) (n : Int) (h : ¬ c.cpad = 9) : fillN c n = n.toNat := if_neg h
theorem fillC_tab (c : Cfg) (n : Int) (hv : validC c = true) (h0 : 0 ≤ n) (h1 : n ≤ 100000) (h : c.cpad = 9) : fillC c n = copies 9 ((n + c.ctab - 1) / c.ctab).toNat := by
  unfold fillC; rw [if_pos ⟨hv, h0, h1⟩, if_pos h, fillN_tab c n h]
theorem fillC_other (c : Cfg) (n : Int) (hv : validC c = true) (h0 : 0 ≤ n) (h1 : n ≤ 100000) (h : ¬ c.cpad = 9) : fillC c n = copies (UInt8.ofNat c.cpad.toNat) n.toNat := by
  unfold fillC; rw [if_pos ⟨hv, h0, h1⟩, if_neg h, fillN_other c n h]
end Go.Proofs.YtkbjegcmpmhmpaaDoor
