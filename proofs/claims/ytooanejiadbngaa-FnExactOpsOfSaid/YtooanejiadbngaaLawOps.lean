/- The exact law on OpsOf. -/
import Derived.Test.YtooanejiadbngaaWalksOps
import Derived.Test.YtooanejiadbngaaImplOps
import Derived.Test.YtooanejiadbngaaOpenCfg
namespace Go.Proofs.Ytooanejiadbngaa
open Go.RowKit
set_option linter.unusedVariables false

theorem law_FnExactOpsOf (w : World) (c : Cfg) (hc : CfgFits c) (A : Option Addr) (len cap : Nat) (xs : List ByteArray) (hx : IsStrs w A len cap xs) :
    Calls Try.prog 3 #[.agg (cfgV c), .slice A len cap] w fun e w' => e = .returned (.bool true) ∧ Below w.heap.size w w' :=
  opsOf_law w c A len cap xs hx (fun v W _ hv hl => implOpsOf c xs v W hv hl)
end Go.Proofs.Ytooanejiadbngaa
