/- The model's RunesOf, CutRunes, IsText, DecodeAt. -/
import Derived.Test.YtncdglfcegmmgaaDoorSpecChars
import Derived.Test.YtncdglfcegmmgaaDoorMemI
namespace Go.Proofs.YtncdglfcegmmgaaDoor
open Go.RowKit
set_option linter.unusedVariables false

theorem Tryd.infoIntS : (Tryd.prog.info? 3).map (fun i => (i.zero, i.size, i.bytes)) = some (some (.int .i64 0), 1, 8) := by kernel_rfl
theorem Tryd.infoStrS : (Tryd.prog.info? 9).map (fun i => (i.zero, i.size, i.bytes)) = some (some (.string ByteArray.empty), 1, 16) := by kernel_rfl

end Go.Proofs.YtncdglfcegmmgaaDoor
