/- The exact laws on NewWriter and WriterName. -/
import Derived.Test.YtdplcbfiidnfcaaWalksWr
import Derived.Test.YtdplcbfiidnfcaaImplWr
namespace Go.Proofs.Ytdplcbfiidnfcaa
open Go.RowKit
set_option linter.unusedVariables false

theorem law_FnExactNewWriter (c : Cfg) (hc : CfgFits c) (w : World) :
    Calls Try.prog 3 #[.agg (cfgV c)] w fun e w' => e = .returned (.bool true) ∧ Below w.heap.size w w' :=
  newWriter_law w c (fun W _ => implNewWriter c W)
theorem law_FnExactWriterName (n : Int) (hn : (Lit.int .i64 n).wf = true) (w : World) :
    Calls Try.prog 4 #[.int .i64 n] w fun e w' => e = .returned (.bool true) ∧ Below w.heap.size w w' :=
  writerName_law w n (fun W _ => implWriterName n W)
end Go.Proofs.Ytdplcbfiidnfcaa
