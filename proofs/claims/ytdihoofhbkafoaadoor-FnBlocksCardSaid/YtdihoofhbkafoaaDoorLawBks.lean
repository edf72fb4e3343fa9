/- The law on the blocks of a text: every cell belongs to exactly one. -/
import Derived.Test.YtdihoofhbkafoaaDoorImplCntB
import Derived.Test.YtdihoofhbkafoaaDoorImplWid
import Derived.Test.YtdihoofhbkafoaaDoorWalksBks
namespace Go.Proofs.YtdihoofhbkafoaaDoor
open Go.RowKit
set_option linter.unusedVariables false

theorem law_FnBlocks (w : World) (A : Option Addr) (len cap : Nat) (zs : List Int) (hz : IsBytes w A len cap zs) (hT : WT w) :
    Calls Tryd.prog 4 #[.slice A len cap] w fun e w' => e = .returned (.bool true) ∧ Below w.heap.size w w' :=
  blocks_law w A len cap zs hz (fun c s W hs hW => implSplitText c s W hs (hT.below hW)) (fun c ls v W hW hr hf => implBlocksOf c ls v W hr hf.wide) (fun c ls v W hW hr hf => implWidthsOf c ls v W hr hf.wide) (fun L v W i k b hr hL hi hk hf => implBlockAt L v W i k b hr hL hi hk hf)
end Go.Proofs.YtdihoofhbkafoaaDoor
