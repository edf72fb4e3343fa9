/- The program's configurations: IsConfig, DefaultConfig. -/
import Derived.Test.YtooanejiadbngaaSpecCfg
import Derived.Test.YtooanejiadbngaaOpenCfg
import Derived.Deep.RegionHeld3
import Derived.IntWalk
namespace Go.Proofs.Ytooanejiadbngaa
open Go.RowKit
set_option linter.unusedVariables false

/-- Each field moved into its range. -/
def nearC (c : Cfg) : Cfg := ⟨min (max c.cmin 0) 200, min (max c.ctab 1) 32, min (max c.cpadding 0) 32, if c.cpad = 9 then c.cpad else min (max c.cpad 32) 126, if c.cpad = 9 then false else c.fr, c.fd, c.fl, c.fe, c.fm⟩
theorem nearC_tab {c : Cfg} (h : c.cpad = 9) : nearC c = ⟨min (max c.cmin 0) 200, min (max c.ctab 1) 32, min (max c.cpadding 0) 32, c.cpad, false, c.fd, c.fl, c.fe, c.fm⟩ := by
  unfold nearC; rw [if_pos h, if_pos h]
theorem nearC_other {c : Cfg} (h : ¬ c.cpad = 9) : nearC c = ⟨min (max c.cmin 0) 200, min (max c.ctab 1) 32, min (max c.cpadding 0) 32, min (max c.cpad 32) 126, c.fr, c.fd, c.fl, c.fe, c.fm⟩ := by
  unfold nearC; rw [if_neg h, if_neg h]
instance : DecidableEq Cfg := fun a b => by
  obtain ⟨a0, a1, a2, a3, a4, a5, a6, a7, a8⟩ := a
  obtain ⟨b0, b1, b2, b3, b4, b5, b6, b7, b8⟩ := b
  exact decidable_of_iff (a0 = b0 ∧ a1 = b1 ∧ a2 = b2 ∧ a3 = b3 ∧ a4 = b4 ∧ a5 = b5 ∧ a6 = b6 ∧ a7 = b7 ∧ a8 = b8) (by simp)
theorem near_valid (c : Cfg) : decide (nearC c = c) = validC c := by
  rw [Bool.eq_iff_iff, decide_eq_true_iff, validC_iff]
  by_cases h : c.cpad = 9
  · rw [nearC_tab h]
    constructor
    · intro e
      have e1 := congrArg Cfg.cmin e
      have e2 := congrArg Cfg.ctab e
      have e3 := congrArg Cfg.cpadding e
      have e5 := congrArg Cfg.fr e
      simp only at e1 e2 e3 e5
      exact ⟨by omega, by omega, by omega, .inl ⟨h, e5.symm⟩⟩
    · rintro ⟨h1, h2, h3, h4⟩
      refine Cfg.same ?_ ?_ ?_ rfl ?_ rfl rfl rfl rfl
      · show min (max c.cmin 0) 200 = c.cmin; omega
      · show min (max c.ctab 1) 32 = c.ctab; omega
      · show min (max c.cpadding 0) 32 = c.cpadding; omega
      · show false = c.fr
        rcases h4 with h4 | h4
        · exact h4.2.symm
        · omega
  · rw [nearC_other h]
    constructor
    · intro e
      have e1 := congrArg Cfg.cmin e
      have e2 := congrArg Cfg.ctab e
      have e3 := congrArg Cfg.cpadding e
      have e4 := congrArg Cfg.cpad e
      simp only at e1 e2 e3 e4
      exact ⟨by omega, by omega, by omega, .inr (by omega)⟩
    · rintro ⟨h1, h2, h3, h4⟩
      refine Cfg.same ?_ ?_ ?_ ?_ rfl rfl rfl rfl rfl
      · show min (max c.cmin 0) 200 = c.cmin; omega
      · show min (max c.ctab 1) 32 = c.ctab; omega
      · show min (max c.cpadding 0) 32 = c.cpadding; omega
      · show min (max c.cpad 32) 126 = c.cpad
        rcases h4 with h4 | h4
        · exact absurd h4.1 h
        · omega

theorem eqFields_step {P : Program} {w : World} {d : Nat} {xs ys : Array Value} {f : Field} {fs : List Field} {a b : Value} {r : Bool} (hn : f.name ≠ "_") (pa : (part f.type xs f.offset).run P w = .ok a w) (pb : (part f.type ys f.offset).run P w = .ok b w)
    (he : (Op.equalIn d f.type a b).run P w = .ok r w) : (Op.eqFields d xs ys (f :: fs)).run P w = if r = true then (Op.eqFields d xs ys fs).run P w else .ok false w := by
  rw [Op.eqFields, if_pos hn]
  simp only [Sem.run_bind, pa, pb, he, Result.andThen_ok]
  cases r <;> simp
theorem fields_of {P : Program} {t : TypeId} {fs : Array Field} (h : P.underlying t = some (.struct fs)) : P.fieldsOf t = fs := by
  unfold Program.fieldsOf
  rw [h]
theorem stood_cfg : Try.prog.stoodInHeld 28 = false := by kernel_rfl
theorem struct_cfg : Try.prog.underlying 28 = some (.struct (Try.prog.fieldsOf 28)) := by
  rw [fields_of Try.underlying28]
  exact Try.underlying28
set_option maxRecDepth 100000 in
set_option maxHeartbeats 1000000 in
theorem eqCfg (a b : Cfg) (w : World) : (Op.equalIn 10000 28 (.agg (cfgV a)) (.agg (cfgV b))).run Try.prog w = .ok (decide (a = b)) w := by
  have hi : ∀ (x y : Int), (Op.equalIn 9999 3 (.int .i64 x) (.int .i64 y)).run Try.prog w = .ok (x == y) w := fun x y => run_equalIn_int w 9998 3 .i64 .i64 x y Try.underlying3
  have hb : ∀ (x y : Bool), (Op.equalIn 9999 4 (.bool x) (.bool y)).run Try.prog w = .ok (x == y) w := fun x y => run_equalIn_bool' w 9998 4 x y Try.underlying4
  rw [show (10000 : Nat) = 9999 + 1 from rfl, run_equalIn_struct w 9999 28 _ _ struct_cfg stood_cfg, fields_of Try.underlying28]
  obtain ⟨a0, a1, a2, a3, a4, a5, a6, a7, a8⟩ := a
  obtain ⟨b0, b1, b2, b3, b4, b5, b6, b7, b8⟩ := b
  unfold cfgV
  rw [eqFields_step (a := .int .i64 a0) (b := .int .i64 b0) (r := a0 == b0) (by decide) (by kernel_rfl) (by kernel_rfl) (hi a0 b0),
    eqFields_step (a := .int .i64 a1) (b := .int .i64 b1) (r := a1 == b1) (by decide) (by kernel_rfl) (by kernel_rfl) (hi a1 b1),
    eqFields_step (a := .int .i64 a2) (b := .int .i64 b2) (r := a2 == b2) (by decide) (by kernel_rfl) (by kernel_rfl) (hi a2 b2),
    eqFields_step (a := .int .i64 a3) (b := .int .i64 b3) (r := a3 == b3) (by decide) (by kernel_rfl) (by kernel_rfl) (hi a3 b3),
    eqFields_step (a := .bool a4) (b := .bool b4) (r := a4 == b4) (by decide) (by kernel_rfl) (by kernel_rfl) (hb a4 b4),
    eqFields_step (a := .bool a5) (b := .bool b5) (r := a5 == b5) (by decide) (by kernel_rfl) (by kernel_rfl) (hb a5 b5),
    eqFields_step (a := .bool a6) (b := .bool b6) (r := a6 == b6) (by decide) (by kernel_rfl) (by kernel_rfl) (hb a6 b6),
    eqFields_step (a := .bool a7) (b := .bool b7) (r := a7 == b7) (by decide) (by kernel_rfl) (by kernel_rfl) (hb a7 b7),
    eqFields_step (a := .bool a8) (b := .bool b8) (r := a8 == b8) (by decide) (by kernel_rfl) (by kernel_rfl) (hb a8 b8)]
  rw [Op.eqFields]
  by_cases h0 : a0 = b0
  case neg => simp [h0]
  by_cases h1 : a1 = b1
  case neg => simp [h0, h1]
  by_cases h2 : a2 = b2
  case neg => simp [h0, h1, h2]
  by_cases h3 : a3 = b3
  case neg => simp [h0, h1, h2, h3]
  by_cases h4 : a4 = b4
  case neg => simp [h0, h1, h2, h3, h4]
  by_cases h5 : a5 = b5
  case neg => simp [h0, h1, h2, h3, h4, h5]
  by_cases h6 : a6 = b6
  case neg => simp [h0, h1, h2, h3, h4, h5, h6]
  by_cases h7 : a7 = b7
  case neg => simp [h0, h1, h2, h3, h4, h5, h6, h7]
  by_cases h8 : a8 = b8
  case neg => simp [h0, h1, h2, h3, h4, h5, h6, h7, h8]
  simp [h0, h1, h2, h3, h4, h5, h6, h7, h8]

theorem max_any {P : Program} (ts : Array TypeId) (ty : TypeId) (x y : Int) (w : World) : (Builtin.max_ ts ty #[.int .i64 x, .int .i64 y]).run P w = .ok (.int .i64 (max x y)) w := by
  rw [run_max_int2]
  have : (if y > x then y else x) = max x y := by split <;> omega
  rw [this]
theorem min_any {P : Program} (ts : Array TypeId) (ty : TypeId) (x y : Int) (w : World) : (Builtin.min_ ts ty #[.int .i64 x, .int .i64 y]).run P w = .ok (.int .i64 (min x y)) w := by
  rw [run_min_int2]
  have : (if y < x then y else x) = min x y := by split <;> omega
  rw [this]
end Go.Proofs.Ytooanejiadbngaa
