/- How many elements two lists have in common at their beginnings: pure maths. -/
import Derived.Test.YtlkfpcajpdohiaaSa
namespace Go.Proofs.Ytlkfpcajpdohiaa
set_option linter.unusedVariables false
open Classical

/-- The length of the common beginning. -/
noncomputable def kp {α : Type} : List α → List α → Nat
  | x :: l, y :: m => if x = y then kp l m + 1 else 0
  | _, _ => 0
section
variable {α : Type}
theorem kp_le (l m : List α) : kp l m ≤ l.length ∧ kp l m ≤ m.length := by
  induction l generalizing m with
  | nil => simp [kp]
  | cons x l ih => cases m with
    | nil => simp [kp]
    | cons y m => simp only [kp]; have := ih m; split <;> simp <;> omega
theorem kp_comm (l m : List α) : kp l m = kp m l := by
  induction l generalizing m with
  | nil => cases m <;> simp [kp]
  | cons x l ih => cases m with
    | nil => simp [kp]
    | cons y m => simp only [kp, ih m, eq_comm (a := x)]
theorem kp_self (l : List α) : kp l l = l.length := by
  induction l with
  | nil => simp [kp]
  | cons x l ih => simp [kp, ih]
theorem kp_take (l m : List α) : l.take (kp l m) = m.take (kp l m) := by
  induction l generalizing m with
  | nil => simp [kp]
  | cons x l ih => cases m with
    | nil => simp [kp]
    | cons y m =>
      simp only [kp]
      split
      · rename_i h; subst h; simp [ih m]
      · simp
theorem kp_ne (d : α) (l m : List α) (h1 : kp l m < l.length) (h2 : kp l m < m.length) : l.getD (kp l m) d ≠ m.getD (kp l m) d := by
  induction l generalizing m with
  | nil => simp at h1
  | cons x l ih => cases m with
    | nil => simp at h2
    | cons y m =>
      by_cases h : x = y
      · simp only [kp, if_pos h] at h1 h2 ⊢
        have := ih m (by simpa using h1) (by simpa using h2)
        simpa using this
      · simp only [kp, if_neg h]
        simpa using h
/-- Where a walk along both lists stops. -/
theorem kp_stopD (d : α) {l m : List α} {p : Nat} (ha : ∀ j, j < p → l.getD j d = m.getD j d) (hl : p ≤ l.length) (hm : p ≤ m.length) (h : p = l.length ∨ p = m.length ∨ l.getD p d ≠ m.getD p d) : kp l m = p := by
  induction p generalizing l m with
  | zero =>
    cases l with
    | nil => simp [kp]
    | cons x l => cases m with
      | nil => simp [kp]
      | cons y m =>
        rcases h with h | h | h
        · simp at h
        · simp at h
        · simp only [kp]
          exact if_neg (by simpa using h)
  | succ p ih =>
    cases l with
    | nil => simp at hl
    | cons x l => cases m with
      | nil => simp at hm
      | cons y m =>
        have e : x = y := by have := ha 0 (by omega); simpa using this
        simp only [kp, if_pos e]
        rw [ih (fun j hj => by have := ha (j + 1) (by omega); simpa using this) (by simpa using hl) (by simpa using hm) (by simpa using h)]
end
end Go.Proofs.Ytlkfpcajpdohiaa
