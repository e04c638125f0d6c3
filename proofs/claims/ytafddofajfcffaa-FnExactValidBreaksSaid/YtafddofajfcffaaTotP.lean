/- The sum of the costs of pages. -/
import Derived.Test.YtafddofajfcffaaRf
namespace Go.Proofs.Ytafddofajfcffaa
open Go.ChangeShapes Go.WideShapes Go.ChangeAt Go.RowKit Go.Shelf
set_option linter.unusedVariables false
attribute [local go_sem] Oper.semAt_some

theorem keeps_below {W W' : World} (h : Below W.heap.size W W') : KeepsOthers W W' := ⟨h.size, fun k o hk _ => (h.block k (Array.getElem?_eq_some_iff.1 hk).1).trans hk⟩
/-- The sum of f over the first k numbers. -/
def sto (f : Nat → Int) : Nat → Int
  | 0 => 0
  | k + 1 => sto f k + f k
theorem sto_congr {f g : Nat → Int} : ∀ {k : Nat}, (∀ j, j < k → f j = g j) → sto f k = sto g k
  | 0, _ => rfl
  | k + 1, h => by simp only [sto]; rw [sto_congr (fun j hj => h j (by omega)), h k (by omega)]
theorem sto_bd {f : Nat → Int} {M : Int} : ∀ {k : Nat}, (∀ j, j < k → -M ≤ f j ∧ f j ≤ M) → -(M * k) ≤ sto f k ∧ sto f k ≤ M * k
  | 0, _ => by simp [sto]
  | k + 1, h => by
    have a := sto_bd (k := k) (fun j hj => h j (by omega))
    have b := h k (by omega)
    simp only [sto]
    rw [show (((k + 1 : Nat) : Int)) = (k : Int) + 1 by omega, Int.mul_add, Int.mul_one]
    omega
section
variable (s : Int) (E : List Int) (C : Nat → Int → Int → Int × Bool)
/-- What piece number x costs as the j-th. -/
def cAt (j : Nat) (x : Fin E.length) : Int × Bool := C j (frm s E x.val) (ng E x.val)
/-- All of a list of pieces are allowed. -/
def okP (l : List (Fin E.length)) : Prop := ∀ j (h : j < l.length), (cAt s E C j l[j]).2 = true
/-- Their sum. -/
def cO (j : Nat) : Option (Fin E.length) → Int
  | some x => (cAt s E C j x).1
  | none => 0
def sumP (l : List (Fin E.length)) : Int := sto (fun j => cO s E C j l[j]?) l.length
end
variable {s : Int} {E : List Int} {C : Nat → Int → Int → Int × Bool}
theorem okP_bad {l : List (Fin E.length)} {x : Fin E.length} (hx : (cAt s E C l.length x).2 = false) : ¬ okP s E C (l ++ [x]) := fun h => by
  have := h l.length (by simp)
  rw [List.getElem_append_right (Nat.le_refl _)] at this
  simp only [Nat.sub_self, List.getElem_singleton] at this
  rw [hx] at this
  cases this
theorem sumP_bd {M : Int} (hM : ∀ j p q, -M ≤ (C j p q).1 ∧ (C j p q).1 ≤ M) {l : List (Fin E.length)} : -(M * l.length) ≤ sumP s E C l ∧ sumP s E C l ≤ M * l.length := by
  have hM0 : 0 ≤ M := by have := hM 0 0 0; omega
  unfold sumP
  refine sto_bd fun j hj => ?_
  rw [List.getElem?_eq_getElem hj]
  exact hM _ _ _
theorem okP_nil : okP s E C [] := fun j h => by simp at h
theorem okP_snoc {l : List (Fin E.length)} {x : Fin E.length} (h : okP s E C l) (hx : (cAt s E C l.length x).2 = true) : okP s E C (l ++ [x]) := fun j hj => by
  rw [List.length_append] at hj
  simp at hj
  rcases (by omega : j < l.length ∨ j = l.length) with e | e
  · rw [List.getElem_append_left e]; exact h j e
  · subst e
    rw [List.getElem_append_right (Nat.le_refl _)]
    simpa using hx
theorem sumP_nil : sumP s E C [] = 0 := rfl
theorem sumP_snoc {l : List (Fin E.length)} {x : Fin E.length} : sumP s E C (l ++ [x]) = sumP s E C l + (cAt s E C l.length x).1 := by
  unfold sumP
  rw [show (l ++ [x]).length = l.length + 1 by simp]
  simp only [sto]
  congr 1
  · apply sto_congr
    intro j hj
    rw [List.getElem?_append_left hj]
  · simp [cO]
/-- What totalCost answers. -/
def okT (s : Int) (E : List Int) (C : Nat → Int → Int → Int × Bool) (k : Nat) : Prop := ∀ j, j < k → (C j (frm s E j) (ng E j)).2 = true
noncomputable def toO (s : Int) (E : List Int) (C : Nat → Int → Int → Int × Bool) : Int × Bool :=
  open Classical in if okT s E C E.length then (sto (fun j => (C j (frm s E j) (ng E j)).1) E.length, true) else (0, false)
theorem toO_yes (h : okT s E C E.length) : toO s E C = (sto (fun j => (C j (frm s E j) (ng E j)).1) E.length, true) := by
  unfold toO; rw [if_pos h]
theorem toO_no (h : ¬ okT s E C E.length) : toO s E C = (0, false) := by
  unfold toO; rw [if_neg h]
theorem pcs_at {n k j : Nat} (hk : k ≤ n) (hj : j < (pcs n k).length) : ((pcs n k)[j]).val = j := by
  simp [pcs]
theorem okP_pcs {k : Nat} (hk : k ≤ E.length) : okP s E C (pcs E.length k) ↔ okT s E C k := by
  constructor
  · intro h j hj
    have := h j (by rw [pcs_len hk]; exact hj)
    unfold cAt at this
    rwa [pcs_at hk] at this
  · intro h j hj
    unfold cAt
    rw [pcs_at hk]
    exact h j (by rwa [pcs_len hk] at hj)
theorem sumP_pcs {k : Nat} (hk : k ≤ E.length) : sumP s E C (pcs E.length k) = sto (fun j => (C j (frm s E j) (ng E j)).1) k := by
  unfold sumP
  rw [pcs_len hk]
  apply sto_congr
  intro j hj
  rw [List.getElem?_eq_getElem (by rw [pcs_len hk]; exact hj)]
  show (cAt s E C j _).1 = _
  unfold cAt
  rw [pcs_at hk]
end Go.Proofs.Ytafddofajfcffaa
