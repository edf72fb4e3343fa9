/- The model's FitWidth and its paddings. -/
import Derived.Test.YtncdglfcegmmgaaDoorSpecWidth
namespace Go.Proofs.YtncdglfcegmmgaaDoor
open Go.RowKit
set_option linter.unusedVariables false

end Go.Proofs.YtncdglfcegmmgaaDoor
