/- The model's configurations: IsConfig, DefaultConfig, RoundWidth, Filling; the laws' own copies. -/
import Derived.Test.YtkbjegcmpmhmpaaCfg
import Derived.Handy
import Derived.Deep.QuietTactic
import Derived.BigQuiet
namespace Go.Proofs.Ytkbjegcmpmhmpaa
open Go.RowKit
set_option linter.unusedVariables false

/-- Block B holds a configuration. -/
def Boxed (W : World) (B : Nat) (m t p d : Int) (fr fd fl fe fm : Bool) : Prop :=
  W.cell? ⟨B, 0, none⟩ = some (.int .i64 m) ∧ W.cell? ⟨B, 1, none⟩ = some (.int .i64 t) ∧ W.cell? ⟨B, 2, none⟩ = some (.int .i64 p) ∧ W.cell? ⟨B, 3, none⟩ = some (.int .i64 d) ∧
    W.cell? ⟨B, 4, none⟩ = some (.bool fr) ∧ W.cell? ⟨B, 5, none⟩ = some (.bool fd) ∧ W.cell? ⟨B, 6, none⟩ = some (.bool fl) ∧ W.cell? ⟨B, 7, none⟩ = some (.bool fe) ∧ W.cell? ⟨B, 8, none⟩ = some (.bool fm)
theorem Boxed.new (w : World) (T : TypeId) (m t p d : Int) (fr fd fl fe fm : Bool) : Boxed (w.alloc (.cells #[.int .i64 m, .int .i64 t, .int .i64 p, .int .i64 d, .bool fr, .bool fd, .bool fl, .bool fe, .bool fm] T)) w.heap.size m t p d fr fd fl fe fm :=
  ⟨by go_simp, by go_simp, by go_simp, by go_simp, by go_simp, by go_simp, by go_simp, by go_simp, by go_simp⟩
theorem Boxed.below {W W' : World} {A B : Nat} {m t p d : Int} {fr fd fl fe fm : Bool} (h : Boxed W B m t p d fr fd fl fe fm) (hb : Below A W W') (hB : B < A) : Boxed W' B m t p d fr fd fl fe fm := by
  obtain ⟨h0, h1, h2, h3, h4, h5, h6, h7, h8⟩ := h
  have k : ∀ j v, W.cell? ⟨B, j, none⟩ = some v → W'.cell? ⟨B, j, none⟩ = some v := fun j v hv => (hb.cell (p := ⟨B, j, none⟩) hB).trans hv
  exact ⟨k _ _ h0, k _ _ h1, k _ _ h2, k _ _ h3, k _ _ h4, k _ _ h5, k _ _ h6, k _ _ h7, k _ _ h8⟩
theorem cfg_eta (c : Cfg) : c = ⟨c.cmin, c.ctab, c.cpadding, c.cpad, c.fr, c.fd, c.fl, c.fe, c.fm⟩ := rfl
theorem validC_of (m t p d : Int) (fr fd fl fe fm : Bool) : validC ⟨m, t, p, d, fr, fd, fl, fe, fm⟩ = (inB m 0 200 && inB t 1 32 && inB p 0 32 && (decide (d = 9) && !fr || inB d 32 126)) := rfl
set_option maxHeartbeats 1000000 in
theorem specIsConfig (c : Cfg) (w : World) :
    Calls Try.prog 7 #[.agg (cfgV c)] w fun e w' => e = .returned (.bool (validC c)) ∧ Below w.heap.size w w' := by
  obtain ⟨m, t, p, d, fr, fd, fl, fe, fm⟩ := c
  rw [validC_of]
  unfold cfgV
  have k1 := fun w => l01In_any m 0 200 w
  have k2 := fun w => l01In_any t 1 32 w
  have k3 := fun w => l01In_any p 0 32 w
  have k4 := fun w => l01In_any d 32 126 w
  generalize inB m 0 200 = x1 at k1 ⊢
  generalize inB t 1 32 = x2 at k2 ⊢
  generalize inB p 0 32 = x3 at k3 ⊢
  generalize inB d 32 126 = x4 at k4 ⊢
  have K1 := Lib.hid k1
  have K2 := Lib.hid k2
  have K3 := Lib.hid k3
  have K4 := Lib.hid k4
  clear k1 k2 k3 k4
  cases x1 with
  | false =>
    go_enter Try.func7, Try.ntmps7
    go_wp2_with fail
    refine (K1.out _).mono ?_
    rintro e w1 ⟨rfl, rfl⟩
    go_wp2_with fail
    go_ret
    exact ⟨rfl, by go_grown⟩
  | true =>
    cases x2 with
    | false =>
      go_enter Try.func7, Try.ntmps7
      go_wp2_with fail
      refine (K1.out _).mono ?_
      rintro e w1 ⟨rfl, rfl⟩
      go_wp2_with fail
      refine (K2.out _).mono ?_
      rintro e w1 ⟨rfl, rfl⟩
      go_wp2_with fail
      go_ret
      exact ⟨rfl, by go_grown⟩
    | true =>
      cases x3 with
      | false =>
        go_enter Try.func7, Try.ntmps7
        go_wp2_with fail
        refine (K1.out _).mono ?_
        rintro e w1 ⟨rfl, rfl⟩
        go_wp2_with fail
        refine (K2.out _).mono ?_
        rintro e w1 ⟨rfl, rfl⟩
        go_wp2_with fail
        refine (K3.out _).mono ?_
        rintro e w1 ⟨rfl, rfl⟩
        go_wp2_with fail
        go_ret
        exact ⟨rfl, by go_grown⟩
      | true =>
        by_cases h9 : d = 9
        · have e9 : (d == 9) = true := by simp [h9]
          rw [decide_eq_true h9]
          clear h9
          cases fr with
          | false =>
            go_enter Try.func7, Try.ntmps7
            go_wp2_with fail
            refine (K1.out _).mono ?_
            rintro e w1 ⟨rfl, rfl⟩
            go_wp2_with fail
            refine (K2.out _).mono ?_
            rintro e w1 ⟨rfl, rfl⟩
            go_wp2_with fail
            refine (K3.out _).mono ?_
            rintro e w1 ⟨rfl, rfl⟩
            go_wp2_with fail
            go_ret
            exact ⟨rfl, by go_grown⟩
          | true =>
            go_enter Try.func7, Try.ntmps7
            go_wp2_with fail
            refine (K1.out _).mono ?_
            rintro e w1 ⟨rfl, rfl⟩
            go_wp2_with fail
            refine (K2.out _).mono ?_
            rintro e w1 ⟨rfl, rfl⟩
            go_wp2_with fail
            refine (K3.out _).mono ?_
            rintro e w1 ⟨rfl, rfl⟩
            go_wp2_with fail
            refine (K4.out _).mono ?_
            rintro e w1 ⟨rfl, rfl⟩
            go_wp2_with fail
            go_ret
            exact ⟨rfl, by go_grown⟩
        · have e9 : (d == 9) = false := by simp [h9]
          rw [decide_eq_false h9]
          clear h9
          go_enter Try.func7, Try.ntmps7
          go_wp2_with fail
          refine (K1.out _).mono ?_
          rintro e w1 ⟨rfl, rfl⟩
          go_wp2_with fail
          refine (K2.out _).mono ?_
          rintro e w1 ⟨rfl, rfl⟩
          go_wp2_with fail
          refine (K3.out _).mono ?_
          rintro e w1 ⟨rfl, rfl⟩
          go_wp2_with fail
          refine (K4.out _).mono ?_
          rintro e w1 ⟨rfl, rfl⟩
          go_wp2_with fail
          go_ret
          exact ⟨rfl, by go_grown⟩
theorem specDefaultConfig (w : World) :
    Calls Try.prog 10 #[] w fun e w' => e = .returned (.agg (cfgV defC)) ∧ Below w.heap.size w w' := by
  go_enter Try.func10, Try.ntmps10
  go_wp2
  exact bodyPost_ret (v := .agg (cfgV defC)) (by simp [results, Try.results10, go_sem, cfgV, defC]) rfl ⟨rfl, by go_grown⟩
set_option maxHeartbeats 1000000 in
theorem toConfig_any (c : Cfg) (w : World) :
    Calls Try.prog 8 #[.agg (cfgV c)] w fun e w' => e = .returned (.agg (cfgV c)) ∧ Below w.heap.size w w' := by
  obtain ⟨m, t, p, d, fr, fd, fl, fe, fm⟩ := c
  unfold cfgV
  go_enter Try.func8, Try.ntmps8
  go_wp2
  exact bodyPost_ret (v := .agg #[.int .i64 m, .int .i64 t, .int .i64 p, .int .i64 d, .bool fr, .bool fd, .bool fl, .bool fe, .bool fm]) (by simp [results, Try.results8, go_sem]) rfl ⟨rfl, by go_grown⟩
set_option maxHeartbeats 1000000 in
theorem eqConfig_same (c : Cfg) (w : World) :
    Calls Try.prog 12 #[.agg (cfgV c), .agg (cfgV c)] w fun e w' => e = .returned (.bool true) ∧ Below w.heap.size w w' := by
  obtain ⟨m, t, p, d, fr, fd, fl, fe, fm⟩ := c
  unfold cfgV
  go_enter Try.func12, Try.ntmps12
  go_wp2
  go_ret
  exact ⟨rfl, by go_grown⟩
end Go.Proofs.Ytkbjegcmpmhmpaa
