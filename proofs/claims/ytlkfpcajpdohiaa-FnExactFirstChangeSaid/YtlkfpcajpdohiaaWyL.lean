/- The search for the least way: all ways are extended to a break of a paragraph. -/
import Derived.Test.YtlkfpcajpdohiaaSb
namespace Go.Proofs.Ytlkfpcajpdohiaa
open Go.ChangeShapes Go.WideShapes Go.ChangeAt Go.RowKit
set_option linter.unusedVariables false
set_option maxRecDepth 4000

end Go.Proofs.Ytlkfpcajpdohiaa
