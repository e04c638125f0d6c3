/- Ascending indices, and the page of a line. -/
import Derived.Test.YtlfhfbeacleggaaGlue
import Derived.Test.YtlfhfbeacleggaaInts
import Derived.IntWalk
namespace Go.Proofs.Ytlfhfbeacleggaa
open Go.ChangeShapes Go.WideShapes Go.ChangeAt Go.RowKit
set_option linter.unusedVariables false
open Classical

/-- The index before the j-th one, 0 before the first. -/
def pv0 (l : List Int) : Nat → Int
  | 0 => 0
  | j + 1 => ng l j
def AscTo (l : List Int) (k : Nat) : Prop := ∀ j, j < k → pv0 l j < ng l j
theorem AscTo.zero (l : List Int) : AscTo l 0 := fun j h => by omega
theorem AscTo.step {l : List Int} {k : Nat} (h : AscTo l k) (hk : pv0 l k < ng l k) : AscTo l (k + 1) := fun j hj => by
  rcases (by omega : j < k ∨ j = k) with e | e
  · exact h j e
  · rw [e]; exact hk
theorem AscTo.pos {l : List Int} {k : Nat} (h : AscTo l k) : ∀ j, j ≤ k → 0 ≤ pv0 l j := fun j => by
  induction j with
  | zero => intro _; exact Int.le_refl _
  | succ j ih => intro hj; have := ih (by omega); have := h j (by omega); show 0 ≤ ng l j; omega
theorem AscTo.le {l : List Int} {k : Nat} (h : AscTo l k) : ∀ j i, i ≤ j → j ≤ k → pv0 l i ≤ pv0 l j := fun j => by
  induction j with
  | zero =>
    intro i hi _
    obtain rfl : i = 0 := by omega
    exact Int.le_refl _
  | succ j ih =>
    intro i hi hj
    rcases (by omega : i = j + 1 ∨ i ≤ j) with e | e
    · rw [e]; exact Int.le_refl _
    · have := ih i e (by omega)
      have := h j (by omega)
      show pv0 l i ≤ ng l j
      omega
def lst (l : List Int) : Int := pv0 l l.length
noncomputable def asc (l : List Int) : Bool := decide (AscTo l l.length)
noncomputable def ve (l : List Int) (n : Int) : Bool := decide (AscTo l l.length ∧ lst l = n)
theorem asc_iff {l : List Int} : asc l = true ↔ AscTo l l.length := ⟨of_decide_eq_true, decide_eq_true⟩
theorem asc_no {l : List Int} (h : ¬ AscTo l l.length) : asc l = false := decide_eq_false h
theorem ve_iff {l : List Int} {n : Int} : ve l n = true ↔ AscTo l l.length ∧ lst l = n := ⟨of_decide_eq_true, decide_eq_true⟩
theorem ve_no {l : List Int} {n : Int} (h : ¬ (AscTo l l.length ∧ lst l = n)) : ve l n = false := decide_eq_false h
theorem ve_bad {l : List Int} {n : Int} {k : Nat} (hk : k < l.length) (h : ng l k ≤ pv0 l k ∨ n < ng l k) : ve l n = false := ve_no fun ⟨x, y⟩ => by
  have h1 := x k hk
  have h2 := x.le l.length (k + 1) (by omega) (by omega)
  have h3 : pv0 l (k + 1) = ng l k := rfl
  unfold lst at y
  omega
theorem ve_all {l : List Int} {n : Int} (h : AscTo l l.length) : ve l n = decide (lst l = n) := by
  by_cases e : lst l = n
  · rw [ve_iff.2 ⟨h, e⟩, decide_eq_true e]
  · rw [ve_no (fun x => e x.2), decide_eq_false e]


/-- The page of a line after the first k indices: -1 as long as there is none. -/
def pgK (l : List Int) (x : Int) : Nat → Int
  | 0 => -1
  | k + 1 => if pgK l x k < 0 ∧ 0 ≤ x ∧ x < ng l k then (k : Int) else pgK l x k
theorem pgK_ge (l : List Int) (x : Int) (k : Nat) : -1 ≤ pgK l x k := by
  induction k with
  | zero => simp [pgK]
  | succ k ih => unfold pgK; split <;> omega
theorem pgK_none {l : List Int} {x : Int} {k : Nat} (h : ∀ j, j < k → x < 0 ∨ ng l j ≤ x) : pgK l x k = -1 := by
  induction k with
  | zero => rfl
  | succ k ih =>
    have h1 := h k (by omega)
    unfold pgK
    rw [if_neg (by omega), ih (fun j hj => h j (by omega))]
theorem pgK_stay {l : List Int} {x : Int} {k : Nat} (h : 0 ≤ pgK l x k) : pgK l x (k + 1) = pgK l x k := by
  show (if _ then _ else _) = _
  rw [if_neg (by omega)]
theorem pgK_some {l : List Int} {x : Int} {p : Nat} (h0 : 0 ≤ x) (h : ∀ j, j < p → ng l j ≤ x) (hp : x < ng l p) : ∀ k, p < k → pgK l x k = p := fun k => by
  induction k with
  | zero => intro h; omega
  | succ k ih =>
    intro hk
    rcases (by omega : p < k ∨ p = k) with e | e
    · have := ih e
      rw [pgK_stay (by omega), this]
    · subst e
      unfold pgK
      rw [pgK_none (fun j hj => .inr (h j hj)), if_pos ⟨by omega, h0, hp⟩]
noncomputable def pgv (l : List Int) (x : Int) : Int := if asc l then pgK l x l.length else -1
theorem pgv_no {l : List Int} {x : Int} (h : asc l = false) : pgv l x = -1 := by simp [pgv, h]
theorem pgv_yes {l : List Int} {x : Int} (h : asc l = true) : pgv l x = pgK l x l.length := by simp [pgv, h]
theorem asc_bad {l : List Int} {k : Nat} (hk : k < l.length) (h : ng l k ≤ pv0 l k) : asc l = false := asc_no fun x => by
  have := x k hk
  omega
theorem ve_lst (l : List Int) : ve l (lst l) = asc l := by
  cases q : asc l
  · exact ve_no (fun x => by rw [asc_iff.2 x.1] at q; cases q)
  · exact ve_iff.2 ⟨asc_iff.1 q, rfl⟩


end Go.Proofs.Ytlfhfbeacleggaa
