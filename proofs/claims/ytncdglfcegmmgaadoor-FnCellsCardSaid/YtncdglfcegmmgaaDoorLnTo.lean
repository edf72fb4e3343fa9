/- The laws' own helpers on lines: toLineS. -/
import Derived.Test.YtncdglfcegmmgaaDoorLnLaws
namespace Go.Proofs.YtncdglfcegmmgaaDoor
open Go.RowKit
set_option linter.unusedVariables false

end Go.Proofs.YtncdglfcegmmgaaDoor
