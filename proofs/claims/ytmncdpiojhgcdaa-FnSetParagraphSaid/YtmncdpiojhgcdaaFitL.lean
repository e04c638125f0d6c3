/- The exact law on FitLine holds at every input: it answers as its model does and writes into no argument. No condition. -/
import Derived.Test.YtmncdpiojhgcdaaSa
import Derived.Test.YtmncdpiojhgcdaaSf
namespace Go.Proofs.Ytmncdpiojhgcdaa
open Go.ChangeShapes Go.WideShapes Go.ChangeAt Go.RowKit
set_option linter.unusedVariables false

/-- What FitLine answers. -/
noncomputable def ftO (L : List It) (a b d : Int) : Int × Int := if isOk L then ftL L a b d else (0, -1)
theorem ftO_no {L : List It} {a b d : Int} (h : isOk L = false) : ftO L a b d = (0, -1) := by simp [ftO, h]
theorem ftO_yes {L : List It} {a b d : Int} (h : isOk L = true) : ftO L a b d = ftL L a b d := by simp [ftO, h]
theorem ftO_non {L : List It} {a b d : Int} (h : (okL L a b && inB d 1 10000) = false) : ftO L a b d = (0, -1) := by
  cases q : isOk L
  · exact ftO_no q
  · rw [ftO_yes q]
    exact ftL_no (by simpa [okL, q] using h)
end Go.Proofs.Ytmncdpiojhgcdaa
