/- What given breaks cost: pure maths. -/
import Derived.Test.YtafddofajfcffaaBbM
import Derived.Test.YtafddofajfcffaaCostL
namespace Go.Proofs.Ytafddofajfcffaa
open Go.ChangeShapes Go.WideShapes Go.ChangeAt Go.RowKit
set_option linter.unusedVariables false
open Classical

theorem okL_eq {L : List It} {a b : Int} (h : isOk L = true) : okL L a b = hasL L a b := by simp [okL, h]
theorem coO_has {L : List It} {a b d t : Int} (h : (coO L a b d t).2 = true) : isOk L = true := by
  cases q : isOk L
  · rw [coO_no q] at h; cases h
  · rfl
theorem coO_bd {L : List It} (a b d t : Int) : -200000000 ≤ (coO L a b d t).1 ∧ (coO L a b d t).1 ≤ 200000000 := by
  cases q : isOk L
  · rw [coO_no q]; simp
  · rw [coO_yes q]; exact coL_bd (isOk_iff.1 q).1 a b d t
def okW (E : List Int) : Prop := ∀ k, k < E.length → -9223372036854775808 ≤ ng E k ∧ ng E k ≤ 9223372036854775807
theorem frm_wf {E : List Int} (h : okW E) : ∀ {k : Nat}, k ≤ E.length → -9223372036854775808 ≤ frm (-1) E k ∧ frm (-1) E k ≤ 9223372036854775807
  | 0, _ => by rw [frm_zero]; omega
  | k + 1, hk => by rw [frm_succ]; exact h k (by omega)
/-- Breaks end with the last item. -/
def endB (L : List It) (E : List Int) : Bool := decide (frm (-1) E E.length = (L.length : Int) - 1)
theorem frm_last {E : List Int} (h : 0 < E.length) : frm (-1) E E.length = ng E (E.length - 1) := by
  obtain ⟨k, hk⟩ : ∃ k, E.length = k + 1 := ⟨E.length - 1, by omega⟩
  rw [hk, frm_succ]; rfl
/-- What a total of lines is. -/
noncomputable def cbV (L : List It) (E : List Int) (C : Nat → Int → Int → Int × Bool) : Int × Bool := if isOk L && endB L E then toO (-1) E C else (0, false)
section
variable {L : List It} {E : List Int} {C : Nat → Int → Int → Int × Bool}
theorem cbV_no (h : (isOk L && endB L E) = false) : cbV L E C = (0, false) := by unfold cbV; rw [h]; rfl
theorem cbV_yes (h : (isOk L && endB L E) = true) : cbV L E C = toO (-1) E C := by unfold cbV; rw [h]; rfl
theorem cbV_bad {k : Nat} (hk : k < E.length) (h : isOk L = true → (C k (frm (-1) E k) (ng E k)).2 = false) : cbV L E C = (0, false) := by
  cases q : (isOk L && endB L E)
  · exact cbV_no q
  · rw [cbV_yes q]
    refine toO_no fun x => ?_
    have h1 := x k hk
    rw [h ((Bool.and_eq_true _ _).mp q).1] at h1
    cases h1
theorem cbV_true (h : (cbV L E C).2 = true) : isOk L = true ∧ endB L E = true ∧ okT (-1) E C E.length ∧ (cbV L E C).1 = sto (fun j => (C j (frm (-1) E j) (ng E j)).1) E.length := by
  cases q : (isOk L && endB L E)
  · rw [cbV_no q] at h; cases h
  · obtain ⟨a, b⟩ := (Bool.and_eq_true _ _).mp q
    rw [cbV_yes q] at h ⊢
    by_cases o : okT (-1) E C E.length
    · exact ⟨a, b, o, by rw [toO_yes o]⟩
    · rw [toO_no o] at h; cases h
theorem cbV_of (h1 : isOk L = true) (h2 : endB L E = true) (h3 : okT (-1) E C E.length) : cbV L E C = (sto (fun j => (C j (frm (-1) E j) (ng E j)).1) E.length, true) := by
  rw [cbV_yes (by rw [h1, h2]; rfl), toO_yes h3]
theorem cbV_congr {C' : Nat → Int → Int → Int × Bool} (h : isOk L = true → ∀ j a b, C j a b = C' j a b) : cbV L E C = cbV L E C' := by
  cases q : (isOk L && endB L E)
  · rw [cbV_no q, cbV_no q]
  · have := h ((Bool.and_eq_true _ _).mp q).1
    rw [show C = C' from funext fun j => funext fun a => funext fun b => this j a b]
theorem endB_nil (h : 1 ≤ L.length) : endB L [] = false := decide_eq_false (by show ¬ ((-1 : Int) = _); omega)
end
/-- What CheckBreaks answers. -/
noncomputable def cbO (L : List It) (d t : Int) (E : List Int) : Int × Bool := cbV L E (fun _ a b => coO L a b d t)
/-- What ValidBreaks answers. -/
noncomputable def vbO (L : List It) (E : List Int) : Bool := (cbV L E (fun _ a b => (0, okL L a b))).2
theorem cbO_eq (L : List It) (d t : Int) (E : List Int) : cbO L d t E = cbV L E (fun _ a b => coL L a b d t) := cbV_congr fun h _ a b => coO_yes h
theorem vbO_eq (L : List It) (E : List Int) : vbO L E = (cbV L E (fun _ a b => (0, hasL L a b))).2 := by
  unfold vbO
  rw [cbV_congr (C' := fun _ a b => (0, hasL L a b)) fun h _ a b => by rw [okL_eq h]]
/-- What BestBreaks answers. -/
noncomputable def bbV (L : List It) (d t : Int) : List Int × Int × Bool := if isOk L then dpR (gB (fun a b => coL L a b d t)) ndB L.length else ([], 0, false)
theorem bbV_no {L : List It} {d t : Int} (h : isOk L = false) : bbV L d t = ([], 0, false) := by unfold bbV; rw [h]; rfl
theorem bbV_yes {L : List It} {d t : Int} (h : isOk L = true) : bbV L d t = dpR (gB (fun a b => coL L a b d t)) ndB L.length := by unfold bbV; rw [if_pos h]
theorem bbV_arg {L : List It} {d t : Int} (h : (inB d 1 10000 && inB t 0 10000) = false) : bbV L d t = ([], 0, false) := by
  cases q : isOk L
  · exact bbV_no q
  · rw [bbV_yes q]
    have h1 := (isOk_iff.1 q).2.1.1
    unfold dpR
    rw [dpD_succ (by omega), bst_none]
    intro i hi
    apply gB_no
    cases e : (coL L ((i : Int) - 1) ((L.length : Int) - 1) d t).2
    · rfl
    · have := coL_has e
      rw [this.2.1, this.2.2] at h; cases h
theorem cl_has {L : List It} {d t : Int} : ∀ a b, (coL L a b d t).2 = true → hasL L a b = true := fun _ _ h => (coL_has h).1
theorem bkB_in {L : List It} {C : Int → Int → Int × Bool} : ∀ (n : Nat) {j : Nat} {d : Dn}, d.2.2 = n → dpD (gB C) j = some d → ∀ x ∈ bkL (gB C) ndB n j, -1 ≤ x ∧ x < (j : Int)
  | 0, _, _, _, _, x, hx => by simp [bkL] at hx
  | n + 1, j, d, hn, e, x, hx => by
    have hj0 : 0 < j := by
      rcases Nat.eq_zero_or_pos j with e0 | e0
      · subst e0
        have := dpD_zero_of e
        subst this
        simp at hn
      · exact e0
    obtain ⟨h1, y, v, h2, h3, h4, h5⟩ := dpD_from hj0 e
    simp only [bkL, List.mem_append, List.mem_singleton] at hx
    rw [bfN_of e] at hx
    rcases hx with hx | hx
    · have := bkB_in (L := L) n (j := d.2.1) (d := y) (by omega) h2 x hx
      omega
    · rw [hx]
      show -1 ≤ (j : Int) - 1 ∧ (j : Int) - 1 < (j : Int)
      omega
theorem bbV_len {L : List It} {d t : Int} : (bbV L d t).1.length ≤ 60 ∧ okW (bbV L d t).1 := by
  cases q : isOk L
  · rw [bbV_no q]; exact ⟨by simp, fun k hk => by simp at hk⟩
  · rw [bbV_yes q]
    have h1 := (isOk_iff.1 q).2.1.2
    unfold dpR
    cases e : dpD (gB fun a b => coL L a b d t) L.length with
    | none => exact ⟨by simp, fun k hk => by simp at hk⟩
    | some x =>
      have hb := (dpD_bd (g := gB fun a b => coL L a b d t) (M := 200000000) (fun i j n e => gB_bd (fun a b => coL_bd (isOk_iff.1 q).1 a b d t) e) (L.length + 1) (Nat.lt_succ_self _) e).1
      have hl := (bkB_ok (C := fun a b => coL L a b d t) (L.length + 1) (Nat.lt_succ_self _) e).1
      refine ⟨by simp only [hl]; omega, fun k hk => ?_⟩
      have := bkB_in (L := L) x.2.2 rfl e _ (ng_mem hk)
      simp only at this ⊢
      omega
/-- Best breaks are checked. -/
theorem bb_check {L : List It} {d t : Int} (e : (bbV L d t).2.2 = true) : isOk L = true ∧ cbO L d t (bbV L d t).1 = ((bbV L d t).2.1, true) ∧ vbO L (bbV L d t).1 = true := by
  cases q : isOk L
  · rw [bbV_no q] at e; cases e
  · rw [bbV_yes q] at e ⊢
    unfold dpR at e ⊢
    cases dn : dpD (gB fun a b => coL L a b d t) L.length with
    | none => rw [dn] at e; cases e
    | some x =>
      obtain ⟨a, b, c, f⟩ := bkB_ok (C := fun a b => coL L a b d t) (L.length + 1) (Nat.lt_succ_self _) dn
      show true = true ∧ cbO L d t (bkL _ _ _ _) = (x.1, true) ∧ vbO L (bkL _ _ _ _) = true
      obtain ⟨E, hE⟩ : ∃ E, E = bkL (gB fun a b => coL L a b d t) ndB x.2.2 L.length := ⟨_, rfl⟩
      rw [← hE] at a b c f ⊢
      rw [← a] at b c f
      have he : endB L E = true := decide_eq_true b
      refine ⟨rfl, ?_, ?_⟩
      · rw [cbO_eq, cbV_of q he c, f]
      · rw [vbO_eq, cbV_of q he (fun j hj => (coL_has (c j hj)).1)]
theorem bb_least {L : List It} {d t : Int} {E : List Int} (h : (cbO L d t E).2 = true) : (bbV L d t).2.2 = true ∧ (bbV L d t).2.1 ≤ (cbO L d t E).1 := by
  rw [cbO_eq] at h ⊢
  obtain ⟨a, b, c, e⟩ := cbV_true h
  obtain ⟨i, x, e1, e2, e3⟩ := okB_least (L := L) (C := fun a b => coL L a b d t) cl_has c E.length (Nat.le_refl _)
  have hb := of_decide_eq_true b
  obtain rfl : i = L.length := by omega
  rw [bbV_yes a, e]
  unfold dpR
  rw [e2]
  exact ⟨rfl, e3⟩
theorem vb_forced {L : List It} {E : List Int} (h : vbO L E = true) {f : Nat} (hl : f < L.length) (hf : isF (tg L f) = true) : ∃ m, m < E.length ∧ ng E m = f := by
  rw [vbO_eq] at h
  obtain ⟨a, b, c, _⟩ := cbV_true h
  have := of_decide_eq_true b
  exact okB_forced c hf E.length (Nat.le_refl _) (by omega)
end Go.Proofs.Ytafddofajfcffaa
