/- The exact laws on BlocksOf and WidthsOf. -/
import Derived.Test.YtdihoofhbkafoaaImplWid
import Derived.Test.YtdihoofhbkafoaaWalksBlk
import Derived.Test.YtdihoofhbkafoaaWalksWid
import Derived.Test.YtdihoofhbkafoaaBB
namespace Go.Proofs.Ytdihoofhbkafoaa
open Go.RowKit
set_option linter.unusedVariables false

theorem law_FnExactBlocksOf (w : World) (c : Cfg) (hc : CfgFits c) (A : Option Addr) (len cap : Nat) (ls : List Ln) (hr : RdL w (.slice A len cap) ls) (hi : InL ls) :
    Calls Try.prog 4 #[.agg (cfgV c), .slice A len cap] w fun e w' => e = .returned (.bool true) ∧ Below w.heap.size w w' :=
  blocksOf_law w c A len cap ls hr hi fun v W _ hv hf => implBlocksOf c ls v W hv hf.wide
theorem law_FnExactWidthsOf (w : World) (c : Cfg) (hc : CfgFits c) (A : Option Addr) (len cap : Nat) (ls : List Ln) (hr : RdL w (.slice A len cap) ls) (hi : InL ls) :
    Calls Try.prog 5 #[.agg (cfgV c), .slice A len cap] w fun e w' => e = .returned (.bool true) ∧ Below w.heap.size w w' :=
  widthsOf_law w c A len cap ls hr hi fun v W _ hv hf => implWidthsOf c ls v W hv hf.wide
end Go.Proofs.Ytdihoofhbkafoaa
