/- The program's RoundWidth. -/
import Derived.Test.YtooanejiadbngaaGreatDoorBB
import Derived.Test.YtooanejiadbngaaGreatDoorBA
import Derived.IntWalk
namespace Go.Proofs.YtooanejiadbngaaGreatDoor
open Go.RowKit
set_option linter.unusedVariables false

def canB (c : Cfg) (n : Int) : Bool := validC c && decide (0 ≤ n) && decide (n ≤ 100000)
theorem canB_iff (c : Cfg) (n : Int) : canB c n = true ↔ validC c = true ∧ 0 ≤ n ∧ n ≤ 100000 := by
  unfold canB; simp [and_assoc]
theorem canB_no {c : Cfg} {n : Int} (h : canB c n = false) : ¬ (validC c = true ∧ 0 ≤ n ∧ n ≤ 100000) := by
  rw [← canB_iff, h]; decide
theorem tabs_far (n t : Int) (h0 : 0 ≤ n) (h1 : n ≤ 200000) (h2 : 1 ≤ t) (h3 : t ≤ 32) : 0 ≤ (n + t - 1) / t ∧ (n + t - 1) / t ≤ n ∧ n ≤ (n + t - 1) / t * t ∧ (n + t - 1) / t * t ≤ 200031 := by
  have e1 := Int.ediv_mul_le (n + t - 1) (show t ≠ 0 by omega)
  have e0 : 0 ≤ (n + t - 1) / t := Int.ediv_nonneg (by omega) (by omega)
  have e2 : (n + t - 1) / t ≤ n := by
    by_cases hn : n = 0
    · have : (n + t - 1) / t = 0 := Int.ediv_eq_zero_of_lt (by omega) (by omega)
      omega
    · refine Int.ediv_le_of_le_mul (by omega) ?_
      obtain ⟨k, rfl⟩ : ∃ k, n = k + 1 := ⟨n - 1, by omega⟩
      obtain ⟨u, rfl⟩ : ∃ u, t = u + 1 := ⟨t - 1, by omega⟩
      have : 0 ≤ k * u := Int.mul_nonneg (by omega) (by omega)
      have e : (k + 1) * (u + 1) = k * u + k + u + 1 := by rw [Int.add_mul, Int.mul_add]; omega
      omega
  have e3 := Int.emod_add_ediv_mul (n + t - 1) t
  have e4 := Int.emod_lt_of_pos (n + t - 1) (show 0 < t by omega)
  have e5 := Int.emod_nonneg (n + t - 1) (show t ≠ 0 by omega)
  refine ⟨e0, e2, by omega, by omega⟩
set_option maxRecDepth 100000 in
set_option maxHeartbeats 1000000 in
theorem implTabsFor (c : Cfg) (n : Int) (w : World) (hv : validC c = true) (h0 : 0 ≤ n) (h1 : n ≤ 200000) :
    Calls Tryz.prog 73 #[.agg (cfgV c), .int .i64 n] w fun e w' => e = .returned (.int .i64 ((n + c.ctab - 1) / c.ctab)) ∧ Below w.heap.size w w' := by
  have ht := (validC_iff c).1 hv
  clear hv
  obtain ⟨m, t, p, d, fr, fd, fl, fe, fm⟩ := c
  simp only at ht ⊢
  have ht1 : 1 ≤ t := by omega
  have ht2 : t ≤ 32 := by omega
  clear ht
  unfold cfgV
  obtain ⟨b1, b2, b3, b4⟩ := tabs_far n t h0 h1 ht1 ht2
  go_enter Tryz.func73, Tryz.ntmps73
  go_wp2
  go_ret
  exact ⟨rfl, by go_grown⟩
set_option maxRecDepth 100000 in
set_option maxHeartbeats 2000000 in
theorem implRounded (c : Cfg) (n : Int) (w : World) (hv1 : validC c = true) (h0 : 0 ≤ n) (h1 : n ≤ 200000) :
    Calls Tryz.prog 70 #[.agg (cfgV c), .int .i64 n] w fun e w' => e = .returned (.int .i64 (roundI c n)) ∧ Below w.heap.size w w' := by
  have HT := Lib.hid (fun W => implTabsFor c n W hv1 h0 h1)
  have ht := (validC_iff c).1 hv1
  unfold roundI
  clear hv1
  obtain ⟨m, t, p, d, fr, fd, fl, fe, fm⟩ := c
  unfold cfgV at HT ⊢
  simp only at HT ht ⊢
  have ht1 : 1 ≤ t := by omega
  have ht2 : t ≤ 32 := by omega
  clear ht
  obtain ⟨b1, b2, b3, b4⟩ := tabs_far n t h0 h1 ht1 ht2
  by_cases h9 : d = 9
  · have e9 : (d == 9) = true := by simp [h9]
    rw [if_pos h9]
    clear h9
    obtain ⟨q, hq⟩ : ∃ q, q = (n + t - 1) / t := ⟨_, rfl⟩
    rw [← hq] at b1 b2 b3 b4 HT ⊢
    have hw1 : IntKind.i64.wrap (q * t) = q * t := IntWalk.i64_in _ (by omega)
    clear hq
    go_enter Tryz.func70, Tryz.ntmps70
    go_wp2_with fail
    go_region_held3 (fun W => W.cell? ⟨w.heap.size, 0, none⟩ = some (.int .i64 m) ∧ W.cell? ⟨w.heap.size, 1, none⟩ = some (.int .i64 t) ∧ W.cell? ⟨w.heap.size, 2, none⟩ = some (.int .i64 p) ∧ W.cell? ⟨w.heap.size, 3, none⟩ = some (.int .i64 d) ∧ W.cell? ⟨w.heap.size, 4, none⟩ = some (.bool fr) ∧ W.cell? ⟨w.heap.size, 5, none⟩ = some (.bool fd) ∧ W.cell? ⟨w.heap.size, 6, none⟩ = some (.bool fl) ∧ W.cell? ⟨w.heap.size, 7, none⟩ = some (.bool fe) ∧ W.cell? ⟨w.heap.size, 8, none⟩ = some (.bool fm) ∧ Below w.heap.size w W ∧ w.heap.size + 1 ≤ W.heap.size)
      (first | exact box_start _ _ _ _ _ _ _ _ _ _ | exact box_step (by assumption) (by assumption))
      (first | (go_at_call 73; refine (HT.out _).mono ?_; rintro e w1 ⟨rfl, hb1⟩))
    all_goals
      go_wp2
      go_ret
      exact ⟨rfl, box_old (w := w) (B := w.heap.size) (by assumption)⟩
  · have e9 : (d == 9) = false := by simp [h9]
    rw [if_neg h9]
    clear h9
    go_enter Tryz.func70, Tryz.ntmps70
    go_wp2
    go_ret
    exact ⟨rfl, by go_grown⟩
end Go.Proofs.YtooanejiadbngaaGreatDoor
