/- The sum of the costs of lines. -/
import Derived.Test.YtlkfpcajpdohiaaSa
namespace Go.Proofs.Ytlkfpcajpdohiaa
open Go.ChangeShapes Go.WideShapes Go.ChangeAt Go.RowKit Go.Shelf
set_option linter.unusedVariables false
set_option linter.unusedSimpArgs false
attribute [local go_sem] Oper.semAt_some

end Go.Proofs.Ytlkfpcajpdohiaa
