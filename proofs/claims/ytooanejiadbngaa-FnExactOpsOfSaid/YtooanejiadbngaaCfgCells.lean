/- The zero configuration in memory. -/
import Derived.Test.YtooanejiadbngaaCfgRead
namespace Go.Proofs.Ytooanejiadbngaa
open Go.RowKit
set_option linter.unusedVariables false

/-- The zero configuration's cells. -/
def ZC : Array Value := #[.int .i64 0, .int .i64 0, .int .i64 0, .int .i64 0, .bool false, .bool false, .bool false, .bool false, .bool false]
theorem zero_cfg (w : World) : (zeroValue 28).run Try.prog w = .ok (.agg ZC) w := by kernel_rfl
theorem size_cfg : (Try.prog.info? 28).map (·.size) = some 9 := by kernel_rfl
theorem one_cfg (c : Cfg) : (cfgV c).all (·.oneCell') = true := by simp [cfgV, Value.oneCell']
theorem one_ZC : ZC.all (·.oneCell') = true := one_cfg zeroC
theorem ZC_eq : cfgV zeroC = ZC := rfl
theorem load_cfg (W : World) (g : Nat) (c : Cfg) (h : Blk W g 28 (cfgV c)) : (loadVar 28 ⟨g, 0, none⟩).run Try.prog W = .ok (.agg (cfgV c)) W :=
  run_loadVar_row W g 28 28 (cfgV c) (0, 0) _ h Try.underlying28 rfl size_cfg
end Go.Proofs.Ytooanejiadbngaa
