/- The exact law on SameSession, over the program's '=='. -/
import Derived.Test.YtooanejiadbngaaWalksSes
namespace Go.Proofs.Ytooanejiadbngaa
open Go.RowKit
set_option linter.unusedVariables false

theorem law_FnExactSameSession (c : Cfg) (h : ByteArray) (k : Snk) (hs : SesFits c h k) (c' : Cfg) (h' : ByteArray) (k' : Snk) (hs' : SesFits c' h' k') (w : World) :
    Calls Try.prog 4 #[.agg (sesV c h k), .agg (sesV c' h' k')] w fun e w' => e = .returned (.bool true) ∧ Below w.heap.size w w' :=
  sameSession_law w c h k hs c' h' k' hs' (fun W _ => implSameSession c h k c' h' k' W)
end Go.Proofs.Ytooanejiadbngaa
