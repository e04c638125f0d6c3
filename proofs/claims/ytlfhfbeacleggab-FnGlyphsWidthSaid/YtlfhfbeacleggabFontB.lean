/- The laws' helpers on fonts: a fresh font, equal fonts, marks. -/
import Derived.Test.YtlfhfbeacleggabFont
namespace Go.Proofs.Ytlfhfbeacleggab
open Go.ChangeShapes Go.WideShapes Go.ChangeAt Go.RowKit
set_option linter.unusedSimpArgs false
set_option linter.unusedVariables false

end Go.Proofs.Ytlfhfbeacleggab
