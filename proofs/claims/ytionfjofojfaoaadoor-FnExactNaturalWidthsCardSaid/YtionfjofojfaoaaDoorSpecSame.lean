/- The model's equality of texts, of rows and of tables. -/
import Derived.Test.YtionfjofojfaoaaDoorTabT
namespace Go.Proofs.YtionfjofojfaoaaDoor
open Go.RowKit
set_option linter.unusedVariables false

end Go.Proofs.YtionfjofojfaoaaDoor
