/- The exact law on LayLines. -/
import Derived.Test.YtjdbkpckhgncbaaImplLays
import Derived.Test.YtjdbkpckhgncbaaWalksLayS
import Derived.Test.YtjdbkpckhgncbaaBB
namespace Go.Proofs.Ytjdbkpckhgncbaa
open Go.RowKit
set_option linter.unusedVariables false

theorem law_FnExactLayLines (w : World) (c : Cfg) (hc : CfgFits c) (A : Option Addr) (len cap : Nat) (ls : List Ln) (hr : RdL w (.slice A len cap) ls) (hi : InL ls) :
    Calls Try.prog 5 #[.agg (cfgV c), .slice A len cap] w fun e w' => e = .returned (.bool true) ∧ Below w.heap.size w w' :=
  layLines_law w c A len cap ls hr hi fun v W hb hv hm => implLayLines c ls v W hv hm
end Go.Proofs.Ytjdbkpckhgncbaa
