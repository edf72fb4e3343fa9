/- '==' of configurations, writers, sinks and sessions. -/
import Derived.Test.YtooanejiadbngaaGreatDoorBB
import Derived.Test.YtooanejiadbngaaGreatDoorWr
namespace Go.Proofs.YtooanejiadbngaaGreatDoor
open Go.RowKit
set_option linter.unusedVariables false

theorem list_beq (a b : ByteArray) : (a.toList == b.toList) = decide (a = b) := by
  by_cases h : a = b
  · subst h; simp
  · have hne : a.toList ≠ b.toList := fun e => h (bytes_inj e)
    simp [h, hne]
set_option maxRecDepth 100000 in
set_option maxHeartbeats 1000000 in
theorem eqCfgD (e : Nat) (a b : Cfg) (w : World) : (Op.equalIn (e + 2) 24 (.agg (cfgV a)) (.agg (cfgV b))).run Tryz.prog w = .ok (decide (a = b)) w := by
  have hi : ∀ (x y : Int), (Op.equalIn (e + 1) 3 (.int .i64 x) (.int .i64 y)).run Tryz.prog w = .ok (x == y) w := fun x y => run_equalIn_int w e 3 .i64 .i64 x y Tryz.underlying3
  have hb : ∀ (x y : Bool), (Op.equalIn (e + 1) 4 (.bool x) (.bool y)).run Tryz.prog w = .ok (x == y) w := fun x y => run_equalIn_bool' w e 4 x y Tryz.underlying4
  rw [show (e + 2 : Nat) = (e + 1) + 1 from rfl, run_equalIn_struct w (e + 1) 24 _ _ struct_cfg stood_cfg, fields_of Tryz.underlying24]
  obtain ⟨a0, a1, a2, a3, a4, a5, a6, a7, a8⟩ := a
  obtain ⟨b0, b1, b2, b3, b4, b5, b6, b7, b8⟩ := b
  unfold cfgV
  rw [eqFields_step (a := .int .i64 a0) (b := .int .i64 b0) (r := a0 == b0) (by decide) (by kernel_rfl) (by kernel_rfl) (hi a0 b0),
    eqFields_step (a := .int .i64 a1) (b := .int .i64 b1) (r := a1 == b1) (by decide) (by kernel_rfl) (by kernel_rfl) (hi a1 b1),
    eqFields_step (a := .int .i64 a2) (b := .int .i64 b2) (r := a2 == b2) (by decide) (by kernel_rfl) (by kernel_rfl) (hi a2 b2),
    eqFields_step (a := .int .i64 a3) (b := .int .i64 b3) (r := a3 == b3) (by decide) (by kernel_rfl) (by kernel_rfl) (hi a3 b3),
    eqFields_step (a := .bool a4) (b := .bool b4) (r := a4 == b4) (by decide) (by kernel_rfl) (by kernel_rfl) (hb a4 b4),
    eqFields_step (a := .bool a5) (b := .bool b5) (r := a5 == b5) (by decide) (by kernel_rfl) (by kernel_rfl) (hb a5 b5),
    eqFields_step (a := .bool a6) (b := .bool b6) (r := a6 == b6) (by decide) (by kernel_rfl) (by kernel_rfl) (hb a6 b6),
    eqFields_step (a := .bool a7) (b := .bool b7) (r := a7 == b7) (by decide) (by kernel_rfl) (by kernel_rfl) (hb a7 b7),
    eqFields_step (a := .bool a8) (b := .bool b8) (r := a8 == b8) (by decide) (by kernel_rfl) (by kernel_rfl) (hb a8 b8)]
  rw [Op.eqFields]
  by_cases h0 : a0 = b0
  case neg => simp [h0]
  by_cases h1 : a1 = b1
  case neg => simp [h0, h1]
  by_cases h2 : a2 = b2
  case neg => simp [h0, h1, h2]
  by_cases h3 : a3 = b3
  case neg => simp [h0, h1, h2, h3]
  by_cases h4 : a4 = b4
  case neg => simp [h0, h1, h2, h3, h4]
  by_cases h5 : a5 = b5
  case neg => simp [h0, h1, h2, h3, h4, h5]
  by_cases h6 : a6 = b6
  case neg => simp [h0, h1, h2, h3, h4, h5, h6]
  by_cases h7 : a7 = b7
  case neg => simp [h0, h1, h2, h3, h4, h5, h6, h7]
  by_cases h8 : a8 = b8
  case neg => simp [h0, h1, h2, h3, h4, h5, h6, h7, h8]
  simp [h0, h1, h2, h3, h4, h5, h6, h7, h8]
theorem stood_wr : Tryz.prog.stoodInHeld 33 = false := by kernel_rfl
theorem struct_wr : Tryz.prog.underlying 33 = some (.struct (Tryz.prog.fieldsOf 33)) := by
  rw [fields_of Tryz.underlying33]
  exact Tryz.underlying33
set_option maxRecDepth 100000 in
set_option maxHeartbeats 1000000 in
theorem eqWrD (e : Nat) (a b : Cfg) (x y : ByteArray) (w : World) : (Op.equalIn (e + 3) 33 (.agg (wrV a x)) (.agg (wrV b y))).run Tryz.prog w = .ok (decide (a = b ∧ x = y)) w := by
  have hc := eqCfgD e a b w
  have hs : (Op.equalIn (e + 2) 9 (.string x) (.string y)).run Tryz.prog w = .ok (decide (x = y)) w := by
    rw [← list_beq]
    exact run_equalIn_string w (e + 1) 9 x y Tryz.underlying9
  rw [show (e + 3 : Nat) = (e + 2) + 1 from rfl, run_equalIn_struct w (e + 2) 33 _ _ struct_wr stood_wr, fields_of Tryz.underlying33]
  rw [eqFields_step (a := .agg (cfgV a)) (b := .agg (cfgV b)) (r := decide (a = b)) (by decide) (by kernel_rfl) (by kernel_rfl) hc,
    eqFields_step (a := .string x) (b := .string y) (r := decide (x = y)) (by decide) (by kernel_rfl) (by kernel_rfl) hs]
  rw [Op.eqFields]
  by_cases h0 : a = b <;> by_cases h1 : x = y <;> simp [h0, h1]
theorem eqWr (a b : Cfg) (x y : ByteArray) (w : World) : (Op.equalIn 10000 33 (.agg (wrV a x)) (.agg (wrV b y))).run Tryz.prog w = .ok (decide (a = b ∧ x = y)) w := eqWrD 9997 a b x y w
end Go.Proofs.YtooanejiadbngaaGreatDoor
