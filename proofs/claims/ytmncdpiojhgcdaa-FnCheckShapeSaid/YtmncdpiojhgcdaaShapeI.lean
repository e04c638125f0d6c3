/- WidthOfLine answers as its model does. -/
import Derived.Test.YtmncdpiojhgcdaaShape
namespace Go.Proofs.Ytmncdpiojhgcdaa
open Go.ChangeShapes Go.WideShapes Go.ChangeAt Go.RowKit
set_option linter.unusedVariables false


end Go.Proofs.Ytmncdpiojhgcdaa
