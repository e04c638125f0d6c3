/- Drawn lists of integers. -/
import Derived.Test.YtlfhfbeacleggabRead
import Derived.Test.YtlfhfbeacleggabInts
namespace Go.Proofs.Ytlfhfbeacleggab
open Go.ChangeShapes Go.WideShapes Go.ChangeAt Go.RowKit
set_option linter.unusedSimpArgs false
set_option linter.unusedVariables false

section
variable {w w' : World} {B B' g N : Nat}
theorem RD.below' (h : RD w B g N) (hb : Below B' w w') (hB : B ≤ B') : RD w' B g N :=
  h.keep (fun _ hq => hb.cell (Nat.lt_of_lt_of_le hq hB)) (fun _ hq => hb.frozen (Nat.lt_of_lt_of_le hq hB)) hb.size
theorem on_below' {a : World} (h : Below B w w') (hB : a.heap.size ≤ B) (h0 : a.grownBy w (some g)) : a.grownBy w' (some g) :=
  ⟨h.os.trans h0.os, h.tape.trans h0.tape, h.output.trans h0.output, Nat.le_trans h0.size h.size, fun i hi hne => (h.block i (by omega)).trans (h0.block i hi hne)⟩
/-- What the call owns stays while the reader reads. -/
theorem OL.read {e : TypeId} {A : Option Addr} {c : Nat} {l : List Int} (h : OL w e B A c l) (hg : w.grownBy w' (some g)) (hlt : g < B) : OL w' e B A c l :=
  h.kept hg (fun k hk e => by
    have := (h.own_lt k hk).1
    injection e with e
    omega)
end




end Go.Proofs.Ytlfhfbeacleggab
