/- The exact law on ValidBox holds: whatever the argument, it answers as its model does. No condition. -/
import Derived.Test.YtonkbakoifdmiacExBox
import Derived.Test.YtonkbakoifdmiacRec3
namespace Go.Proofs.Ytonkbakoifdmiac
open Go.ChangeShapes Go.WideShapes Go.ChangeAt Go.RowKit
set_option linter.unusedVariables false

theorem toBox_h (a b c : Int) (w : World) : Calls Try.prog 46 #[gv a b c] w fun e w' => e = .returned (gv a b c) ∧ Below w.heap.size w w' := toBox_l ⟨a, b, c⟩ w
theorem eqBox_h (a b c : Int) (w : World) : Calls Try.prog 18 #[gv a b c, gv a b c] w fun e w' => e = .returned (.bool true) ∧ Below w.heap.size w w' := eqBox_l ⟨a, b, c⟩ w


end Go.Proofs.Ytonkbakoifdmiac
