/- The laws' helpers on slices of records of three integers (boxes, lines). -/
import Derived.Test.YtlfhfbeacleggabGp
import Derived.Test.YtlfhfbeacleggabSp
namespace Go.Proofs.Ytlfhfbeacleggab
open Go.ChangeShapes Go.WideShapes Go.ChangeAt Go.RowKit
set_option linter.unusedSimpArgs false
set_option linter.unusedVariables false

abbrev rv3 (x : Gp) : Value := .agg #[.int .i64 x.a, .int .i64 x.b, .int .i64 x.v]

end Go.Proofs.Ytlfhfbeacleggab
