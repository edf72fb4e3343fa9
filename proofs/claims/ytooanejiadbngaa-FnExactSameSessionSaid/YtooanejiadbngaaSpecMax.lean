/- The greater of two numbers: the model's. -/
import Derived.Test.YtooanejiadbngaaSpecChars
namespace Go.Proofs.Ytooanejiadbngaa
open Go.RowKit
set_option linter.unusedVariables false

end Go.Proofs.Ytooanejiadbngaa
