/- LineGlue and BoxesOf of the model. -/
import Derived.Test.YtafddofajfcffaaLgT
import Derived.Test.YtafddofajfcffaaBx
namespace Go.Proofs.Ytafddofajfcffaa
open Go.ChangeShapes Go.WideShapes Go.ChangeAt Go.RowKit
set_option linter.unusedVariables false

end Go.Proofs.Ytafddofajfcffaa
