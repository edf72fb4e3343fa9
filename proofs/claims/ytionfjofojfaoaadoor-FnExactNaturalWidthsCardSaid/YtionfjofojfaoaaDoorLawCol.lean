/- The exact law on ColumnOf. -/
import Derived.Test.YtionfjofojfaoaaDoorSpecTra
import Derived.Test.YtionfjofojfaoaaDoorWalksSameT
import Derived.Test.YtionfjofojfaoaaDoorMarkTab
import Derived.Test.YtionfjofojfaoaaDoorLawTra
import Derived.Test.YtionfjofojfaoaaDoorLawTab
namespace Go.Proofs.YtionfjofojfaoaaDoor
open Go.RowKit
set_option linter.unusedVariables false

theorem tab_sum {h : List ByteArray} {n : Nat} {f : Nat → List ByteArray} (hz : 0 ≤ szTab h n f 1048576) : h.length + sumG f n ≤ 1048576 := by
  unfold szTab at hz
  split at hz
  · omega
  · rename_i h1
    split at hz
    · omega
    · rename_i h2
      have a2 := szL_up h 1048576 (by omega)
      have b := szT_le n f _ (by omega : 0 ≤ szT n f (szL h 1048576))
      have := sumG_tot f n
      omega
end Go.Proofs.YtionfjofojfaoaaDoor
