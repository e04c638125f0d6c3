/- What given lines of words cost, in the model. -/
import Derived.Test.YtlfhfbeacleggaaWc
namespace Go.Proofs.Ytlfhfbeacleggaa
open Go.ChangeShapes Go.WideShapes Go.ChangeAt Go.RowKit
set_option linter.unusedVariables false
set_option linter.unusedSimpArgs false
open Classical

theorem toO_bad {s : Int} {E : List Int} {C : Nat → Int → Int → Int × Bool} {k : Nat} (hk : k < E.length) (h : (C k (frm s E k) (ng E k)).2 = false) : toO s E C = (0, false) :=
  toO_no fun x => by rw [x k hk] at h; cases h
theorem wc_bad {l : List ByteArray} {wd : Int} {E : List Int} (h : ve E l.length = true → toO 0 E (fun _ f t => cW l wd f t) = (0, false)) : wcO l wd E = (0, false) := by
  cases q : (wok l && inB wd 20 60 && ve E l.length)
  · exact wcO_no q
  · rw [wcO_yes q]
    exact h (by have := (Bool.and_eq_true _ _).mp q; exact this.2)
/-- The sum of the costs of the first k lines. -/
def wS (l : List ByteArray) (wd : Int) (E : List Int) (k : Nat) : Int := sto (fun j => (cW l wd (frm 0 E j) (ng E j)).1) k
theorem wS_bd {l : List ByteArray} {wd : Int} (hw : wd ≤ 60) (E : List Int) (k : Nat) : -(8000000000 * k) ≤ wS l wd E k ∧ wS l wd E k ≤ 8000000000 * k := sto_bd fun j _ => cW_bd hw _ _
end Go.Proofs.Ytlfhfbeacleggaa
