/- Rows and stacks of boxes as numbers. -/
import Derived.Test.YtonkbakoifdmiacBox
import Derived.Test.YtonkbakoifdmiacRec3
namespace Go.Proofs.Ytonkbakoifdmiac
open Go.ChangeShapes Go.WideShapes Go.ChangeAt Go.RowKit
set_option linter.unusedVariables false
open Classical

def jr (x y : Gp) : Gp := ⟨x.a + y.a, max x.b y.b, max x.v y.v⟩
def js (sk : Int) (x y : Gp) : Gp := ⟨max x.a y.a, x.b + x.v + il sk x.v y.b + y.b, y.v⟩
/-- The first k boxes joined. -/
def fo (J : Gp → Gp → Gp) (L : List Gp) : Nat → Gp
  | 0 => ⟨0, 0, 0⟩
  | k + 1 => if k = 0 then tg L 0 else J (fo J L k) (tg L k)
theorem fo_one (J : Gp → Gp → Gp) (L : List Gp) : fo J L 1 = tg L 0 := rfl
theorem fo_more (J : Gp → Gp → Gp) (L : List Gp) {k : Nat} (h : 0 < k) : fo J L (k + 1) = J (fo J L k) (tg L k) := by
  show (if k = 0 then _ else _) = _
  rw [if_neg (by omega)]
abbrev vbx (x : Gp) : Bool := vb x.a x.b x.v
def BTo (L : List Gp) (k : Nat) : Prop := ∀ i, i < k → vbx (tg L i) = true
theorem BTo.zero (L : List Gp) : BTo L 0 := fun i h => by omega
theorem BTo.step {L : List Gp} {k : Nat} (h : BTo L k) (hk : vbx (tg L k) = true) : BTo L (k + 1) := fun i hi => by
  rcases (by omega : i < k ∨ i = k) with e | e
  · exact h i e
  · rw [e]; exact hk
noncomputable def bok (L : List Gp) : Bool := decide (L.length ≤ 20 ∧ BTo L L.length)
theorem bok_iff {L : List Gp} : bok L = true ↔ L.length ≤ 20 ∧ BTo L L.length := ⟨of_decide_eq_true, decide_eq_true⟩
theorem bok_no {L : List Gp} (h : ¬ (L.length ≤ 20 ∧ BTo L L.length)) : bok L = false := decide_eq_false h
theorem bok_bad {L : List Gp} {k : Nat} (hk : k < L.length) (h : vbx (tg L k) = false) : bok L = false := bok_no fun x => by
  have := x.2 k hk
  rw [h] at this
  cases this
noncomputable def fob (J : Gp → Gp → Gp) (L : List Gp) : Bool := bok L && vbx (fo J L L.length)
noncomputable def fov (J : Gp → Gp → Gp) (L : List Gp) : Value := if fob J L then .tuple #[rv3 (fo J L L.length), .bool true] else .tuple #[rv3 ⟨0, 0, 0⟩, .bool false]
theorem fov_no {J : Gp → Gp → Gp} {L : List Gp} (h : fob J L = false) : fov J L = .tuple #[rv3 ⟨0, 0, 0⟩, .bool false] := by simp [fov, h]
theorem fov_yes {J : Gp → Gp → Gp} {L : List Gp} (h : fob J L = true) : fov J L = .tuple #[rv3 (fo J L L.length), .bool true] := by simp only [fov, h, if_true]
theorem fov_form (J : Gp → Gp → Gp) (L : List Gp) : ∃ (x : Gp) (t : Bool), fov J L = .tuple #[rv3 x, .bool t] := by
  unfold fov
  split
  · exact ⟨_, _, rfl⟩
  · exact ⟨_, _, rfl⟩

/-- How large k joined boxes may be. -/
def BB (k : Nat) (x : Gp) : Prop := (0 ≤ x.a ∧ x.a ≤ 10000 * (k : Int)) ∧ (0 ≤ x.b ∧ x.b ≤ 40000 * (k : Int)) ∧ (0 ≤ x.v ∧ x.v ≤ 10000)
theorem vbx_iff {x : Gp} : vbx x = true ↔ (0 ≤ x.a ∧ x.a ≤ 10000) ∧ (0 ≤ x.b ∧ x.b ≤ 10000) ∧ (0 ≤ x.v ∧ x.v ≤ 10000) := vb_iff
theorem fo_bd {J : Gp → Gp → Gp} (hJ : ∀ k x y, BB k x → vbx y = true → BB (k + 1) (J x y)) {L : List Gp} {k : Nat} (h : BTo L k) : BB k (fo J L k) := by
  induction k with
  | zero => exact ⟨by simp [fo], by simp [fo], by simp [fo]⟩
  | succ k ih =>
    rcases Nat.eq_zero_or_pos k with h0 | h0
    · subst h0
      obtain ⟨h1, h2, h3⟩ := vbx_iff.1 (h 0 (by omega))
      exact ⟨by show _ ∧ _ ≤ _; simp [fo]; omega, by simp [fo]; omega, by simp [fo]; omega⟩
    · rw [fo_more J L h0]
      exact hJ k _ _ (ih (fun i hi => h i (by omega))) (h k (by omega))
theorem jr_bd (k : Nat) (x y : Gp) (h : BB k x) (hy : vbx y = true) : BB (k + 1) (jr x y) := by
  obtain ⟨h1, h2, h3⟩ := h
  obtain ⟨k1, k2, k3⟩ := vbx_iff.1 hy
  unfold BB jr
  simp only
  omega
theorem js_bd {sk : Int} (s0 : 0 ≤ sk) (s1 : sk ≤ 10000) (k : Nat) (x y : Gp) (h : BB k x) (hy : vbx y = true) : BB (k + 1) (js sk x y) := by
  obtain ⟨h1, h2, h3⟩ := h
  obtain ⟨k1, k2, k3⟩ := vbx_iff.1 hy
  unfold BB js il
  simp only
  omega
/-- The model joins the first box with the zero box too. -/
theorem fo_jr {L : List Gp} {k : Nat} (h : BTo L (k + 1)) : fo jr L (k + 1) = jr (fo jr L k) (tg L k) := by
  rcases Nat.eq_zero_or_pos k with h0 | h0
  · subst h0
    obtain ⟨h1, h2, h3⟩ := vbx_iff.1 (h 0 (by omega))
    rw [fo_one]
    show tg L 0 = jr ⟨0, 0, 0⟩ (tg L 0)
    generalize tg L 0 = x at *
    obtain ⟨a, b, c⟩ := x
    simp only [jr, Gp.mk.injEq] at *
    omega
  · exact fo_more jr L h0
end Go.Proofs.Ytonkbakoifdmiac
