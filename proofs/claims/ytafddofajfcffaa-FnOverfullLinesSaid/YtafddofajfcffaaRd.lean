/- Several texts of one claim, one behind the other. -/
import Derived.Test.YtafddofajfcffaaBbM
import Derived.Test.YtafddofajfcffaaCostL
import Derived.Test.YtafddofajfcffaaRb
import Derived.Deep.RegionHeld3
import Derived.Deep.CutRange
import Derived.Test.YtafddofajfcffaaTk2
import Derived.Test.YtafddofajfcffaaRa
import Derived.WalkKit
import Derived.OwnWalkIn
import Derived.TacticsInMore
import Derived.LoopNIn
import Derived.LoopIn
import Derived.Test.YtafddofajfcffaaFit
/- What given breaks cost: pure maths. -/
namespace Go.Proofs.Ytafddofajfcffaa
open Go.ChangeShapes Go.WideShapes Go.ChangeAt Go.RowKit
set_option linter.unusedVariables false
open Classical

theorem okL_eq {L : List It} {a b : Int} (h : isOk L = true) : okL L a b = hasL L a b := by simp [okL, h]
theorem coO_has {L : List It} {a b d t : Int} (h : (coO L a b d t).2 = true) : isOk L = true := by
  cases q : isOk L
  · rw [coO_no q] at h; cases h
  · rfl
theorem coO_bd {L : List It} (a b d t : Int) : -200000000 ≤ (coO L a b d t).1 ∧ (coO L a b d t).1 ≤ 200000000 := by
  cases q : isOk L
  · rw [coO_no q]; simp
  · rw [coO_yes q]; exact coL_bd (isOk_iff.1 q).1 a b d t
def okW (E : List Int) : Prop := ∀ k, k < E.length → -9223372036854775808 ≤ ng E k ∧ ng E k ≤ 9223372036854775807
theorem frm_wf {E : List Int} (h : okW E) : ∀ {k : Nat}, k ≤ E.length → -9223372036854775808 ≤ frm (-1) E k ∧ frm (-1) E k ≤ 9223372036854775807
  | 0, _ => by rw [frm_zero]; omega
  | k + 1, hk => by rw [frm_succ]; exact h k (by omega)
/-- Breaks end with the last item. -/
def endB (L : List It) (E : List Int) : Bool := decide (frm (-1) E E.length = (L.length : Int) - 1)
theorem frm_last {E : List Int} (h : 0 < E.length) : frm (-1) E E.length = ng E (E.length - 1) := by
  obtain ⟨k, hk⟩ : ∃ k, E.length = k + 1 := ⟨E.length - 1, by omega⟩
  rw [hk, frm_succ]; rfl
/-- What a total of lines is. -/
noncomputable def cbV (L : List It) (E : List Int) (C : Nat → Int → Int → Int × Bool) : Int × Bool := if isOk L && endB L E then toO (-1) E C else (0, false)
section
variable {L : List It} {E : List Int} {C : Nat → Int → Int → Int × Bool}
theorem cbV_no (h : (isOk L && endB L E) = false) : cbV L E C = (0, false) := by unfold cbV; rw [h]; rfl
theorem cbV_yes (h : (isOk L && endB L E) = true) : cbV L E C = toO (-1) E C := by unfold cbV; rw [h]; rfl
theorem cbV_bad {k : Nat} (hk : k < E.length) (h : isOk L = true → (C k (frm (-1) E k) (ng E k)).2 = false) : cbV L E C = (0, false) := by
  cases q : (isOk L && endB L E)
  · exact cbV_no q
  · rw [cbV_yes q]
    refine toO_no fun x => ?_
    have h1 := x k hk
    rw [h ((Bool.and_eq_true _ _).mp q).1] at h1
    cases h1
theorem cbV_true (h : (cbV L E C).2 = true) : isOk L = true ∧ endB L E = true ∧ okT (-1) E C E.length ∧ (cbV L E C).1 = sto (fun j => (C j (frm (-1) E j) (ng E j)).1) E.length := by
  cases q : (isOk L && endB L E)
  · rw [cbV_no q] at h; cases h
  · obtain ⟨a, b⟩ := (Bool.and_eq_true _ _).mp q
    rw [cbV_yes q] at h ⊢
    by_cases o : okT (-1) E C E.length
    · exact ⟨a, b, o, by rw [toO_yes o]⟩
    · rw [toO_no o] at h; cases h
theorem cbV_of (h1 : isOk L = true) (h2 : endB L E = true) (h3 : okT (-1) E C E.length) : cbV L E C = (sto (fun j => (C j (frm (-1) E j) (ng E j)).1) E.length, true) := by
  rw [cbV_yes (by rw [h1, h2]; rfl), toO_yes h3]
theorem cbV_congr {C' : Nat → Int → Int → Int × Bool} (h : isOk L = true → ∀ j a b, C j a b = C' j a b) : cbV L E C = cbV L E C' := by
  cases q : (isOk L && endB L E)
  · rw [cbV_no q, cbV_no q]
  · have := h ((Bool.and_eq_true _ _).mp q).1
    rw [show C = C' from funext fun j => funext fun a => funext fun b => this j a b]
theorem endB_nil (h : 1 ≤ L.length) : endB L [] = false := decide_eq_false (by show ¬ ((-1 : Int) = _); omega)
end
/-- What CheckBreaks answers. -/
noncomputable def cbO (L : List It) (d t : Int) (E : List Int) : Int × Bool := cbV L E (fun _ a b => coO L a b d t)
/-- What ValidBreaks answers. -/
noncomputable def vbO (L : List It) (E : List Int) : Bool := (cbV L E (fun _ a b => (0, okL L a b))).2
theorem cbO_eq (L : List It) (d t : Int) (E : List Int) : cbO L d t E = cbV L E (fun _ a b => coL L a b d t) := cbV_congr fun h _ a b => coO_yes h
theorem vbO_eq (L : List It) (E : List Int) : vbO L E = (cbV L E (fun _ a b => (0, hasL L a b))).2 := by
  unfold vbO
  rw [cbV_congr (C' := fun _ a b => (0, hasL L a b)) fun h _ a b => by rw [okL_eq h]]
/-- What BestBreaks answers. -/
noncomputable def bbV (L : List It) (d t : Int) : List Int × Int × Bool := if isOk L then dpR (gB (fun a b => coL L a b d t)) ndB L.length else ([], 0, false)
theorem bbV_no {L : List It} {d t : Int} (h : isOk L = false) : bbV L d t = ([], 0, false) := by unfold bbV; rw [h]; rfl
theorem bbV_yes {L : List It} {d t : Int} (h : isOk L = true) : bbV L d t = dpR (gB (fun a b => coL L a b d t)) ndB L.length := by unfold bbV; rw [if_pos h]
theorem bbV_arg {L : List It} {d t : Int} (h : (inB d 1 10000 && inB t 0 10000) = false) : bbV L d t = ([], 0, false) := by
  cases q : isOk L
  · exact bbV_no q
  · rw [bbV_yes q]
    have h1 := (isOk_iff.1 q).2.1.1
    unfold dpR
    rw [dpD_succ (by omega), bst_none]
    intro i hi
    apply gB_no
    cases e : (coL L ((i : Int) - 1) ((L.length : Int) - 1) d t).2
    · rfl
    · have := coL_has e
      rw [this.2.1, this.2.2] at h; cases h
theorem cl_has {L : List It} {d t : Int} : ∀ a b, (coL L a b d t).2 = true → hasL L a b = true := fun _ _ h => (coL_has h).1
theorem bkB_in {L : List It} {C : Int → Int → Int × Bool} : ∀ (n : Nat) {j : Nat} {d : Dn}, d.2.2 = n → dpD (gB C) j = some d → ∀ x ∈ bkL (gB C) ndB n j, -1 ≤ x ∧ x < (j : Int)
  | 0, _, _, _, _, x, hx => by simp [bkL] at hx
  | n + 1, j, d, hn, e, x, hx => by
    have hj0 : 0 < j := by
      rcases Nat.eq_zero_or_pos j with e0 | e0
      · subst e0
        have := dpD_zero_of e
        subst this
        simp at hn
      · exact e0
    obtain ⟨h1, y, v, h2, h3, h4, h5⟩ := dpD_from hj0 e
    simp only [bkL, List.mem_append, List.mem_singleton] at hx
    rw [bfN_of e] at hx
    rcases hx with hx | hx
    · have := bkB_in (L := L) n (j := d.2.1) (d := y) (by omega) h2 x hx
      omega
    · rw [hx]
      show -1 ≤ (j : Int) - 1 ∧ (j : Int) - 1 < (j : Int)
      omega
theorem bbV_len {L : List It} {d t : Int} : (bbV L d t).1.length ≤ 60 ∧ okW (bbV L d t).1 := by
  cases q : isOk L
  · rw [bbV_no q]; exact ⟨by simp, fun k hk => by simp at hk⟩
  · rw [bbV_yes q]
    have h1 := (isOk_iff.1 q).2.1.2
    unfold dpR
    cases e : dpD (gB fun a b => coL L a b d t) L.length with
    | none => exact ⟨by simp, fun k hk => by simp at hk⟩
    | some x =>
      have hb := (dpD_bd (g := gB fun a b => coL L a b d t) (M := 200000000) (fun i j n e => gB_bd (fun a b => coL_bd (isOk_iff.1 q).1 a b d t) e) (L.length + 1) (Nat.lt_succ_self _) e).1
      have hl := (bkB_ok (C := fun a b => coL L a b d t) (L.length + 1) (Nat.lt_succ_self _) e).1
      refine ⟨by simp only [hl]; omega, fun k hk => ?_⟩
      have := bkB_in (L := L) x.2.2 rfl e _ (ng_mem hk)
      simp only at this ⊢
      omega
/-- Best breaks are checked. -/
theorem bb_check {L : List It} {d t : Int} (e : (bbV L d t).2.2 = true) : isOk L = true ∧ cbO L d t (bbV L d t).1 = ((bbV L d t).2.1, true) ∧ vbO L (bbV L d t).1 = true := by
  cases q : isOk L
  · rw [bbV_no q] at e; cases e
  · rw [bbV_yes q] at e ⊢
    unfold dpR at e ⊢
    cases dn : dpD (gB fun a b => coL L a b d t) L.length with
    | none => rw [dn] at e; cases e
    | some x =>
      obtain ⟨a, b, c, f⟩ := bkB_ok (C := fun a b => coL L a b d t) (L.length + 1) (Nat.lt_succ_self _) dn
      show true = true ∧ cbO L d t (bkL _ _ _ _) = (x.1, true) ∧ vbO L (bkL _ _ _ _) = true
      obtain ⟨E, hE⟩ : ∃ E, E = bkL (gB fun a b => coL L a b d t) ndB x.2.2 L.length := ⟨_, rfl⟩
      rw [← hE] at a b c f ⊢
      rw [← a] at b c f
      have he : endB L E = true := decide_eq_true b
      refine ⟨rfl, ?_, ?_⟩
      · rw [cbO_eq, cbV_of q he c, f]
      · rw [vbO_eq, cbV_of q he (fun j hj => (coL_has (c j hj)).1)]
theorem bb_least {L : List It} {d t : Int} {E : List Int} (h : (cbO L d t E).2 = true) : (bbV L d t).2.2 = true ∧ (bbV L d t).2.1 ≤ (cbO L d t E).1 := by
  rw [cbO_eq] at h ⊢
  obtain ⟨a, b, c, e⟩ := cbV_true h
  obtain ⟨i, x, e1, e2, e3⟩ := okB_least (L := L) (C := fun a b => coL L a b d t) cl_has c E.length (Nat.le_refl _)
  have hb := of_decide_eq_true b
  obtain rfl : i = L.length := by omega
  rw [bbV_yes a, e]
  unfold dpR
  rw [e2]
  exact ⟨rfl, e3⟩
theorem vb_forced {L : List It} {E : List Int} (h : vbO L E = true) {f : Nat} (hl : f < L.length) (hf : isF (tg L f) = true) : ∃ m, m < E.length ∧ ng E m = f := by
  rw [vbO_eq] at h
  obtain ⟨a, b, c, _⟩ := cbV_true h
  have := of_decide_eq_true b
  exact okB_forced c hf E.length (Nat.le_refl _) (by omega)
end Go.Proofs.Ytafddofajfcffaa

/- Breaks that are chosen one after the other: pure maths. -/
namespace Go.Proofs.Ytafddofajfcffaa
open Go.ChangeShapes Go.WideShapes Go.ChangeAt Go.RowKit
set_option linter.unusedVariables false

/-- The break chosen among the first m items from p on, for the line behind item p - 1. -/
noncomputable def ffT (L : List It) (d : Int) (p : Nat) : Nat → Int
  | 0 => -1
  | m + 1 => if hasL L ((p : Int) - 1) ((p + m : Nat) : Int) = true ∧ (ffT L d p m < 0 ∨ (ftL L ((p : Int) - 1) ((p + m : Nat) : Int) d).1 ≠ 4) then ((p + m : Nat) : Int) else ffT L d p m
noncomputable def ffN (L : List It) (d : Int) (p : Nat) : Int := ffT L d p (L.length - p)
section
variable {L : List It} {d : Int} {p : Nat}
theorem ffT_yes {m : Nat} (h : hasL L ((p : Int) - 1) ((p + m : Nat) : Int) = true) (h2 : ffT L d p m < 0 ∨ (ftL L ((p : Int) - 1) ((p + m : Nat) : Int) d).1 ≠ 4) : ffT L d p (m + 1) = ((p + m : Nat) : Int) := by
  simp only [ffT]
  rw [if_pos ⟨h, h2⟩]
theorem ffT_no {m : Nat} (h : hasL L ((p : Int) - 1) ((p + m : Nat) : Int) = false) : ffT L d p (m + 1) = ffT L d p m := by
  simp only [ffT]
  rw [if_neg (by rw [h]; simp)]
theorem ffT_stay {m : Nat} (h1 : 0 ≤ ffT L d p m) (h2 : (ftL L ((p : Int) - 1) ((p + m : Nat) : Int) d).1 = 4) : ffT L d p (m + 1) = ffT L d p m := by
  simp only [ffT]
  rw [if_neg (by rintro ⟨_, h | h⟩ <;> omega)]
theorem ffT_in : ∀ {m : Nat}, ffT L d p m = -1 ∨ ∃ q : Nat, ffT L d p m = q ∧ p ≤ q ∧ q < p + m ∧ hasL L ((p : Int) - 1) q = true
  | 0 => .inl rfl
  | m + 1 => by
    have IH := ffT_in (m := m)
    simp only [ffT]
    by_cases h : hasL L ((p : Int) - 1) ((p + m : Nat) : Int) = true ∧ (ffT L d p m < 0 ∨ (ftL L ((p : Int) - 1) ((p + m : Nat) : Int) d).1 ≠ 4)
    · rw [if_pos h]
      exact .inr ⟨p + m, rfl, by omega, by omega, h.1⟩
    · rw [if_neg h]
      rcases IH with e | ⟨q, a, b, c, e⟩
      · exact .inl e
      · exact .inr ⟨q, a, b, by omega, e⟩
theorem ffT_up {b : Nat} (hb : hasL L ((p : Int) - 1) b = true) (hp : p ≤ b) : ∀ {m : Nat}, b < p + m → 0 ≤ ffT L d p m
  | 0, h => by omega
  | m + 1, h => by
    have IN := ffT_in (L := L) (d := d) (p := p) (m := m)
    rcases (by omega : b < p + m ∨ b = p + m) with e | e
    · have IH := ffT_up hb hp e
      simp only [ffT]
      split
      · omega
      · exact IH
    · subst e
      rcases IN with e | ⟨q, e, _⟩
      · rw [ffT_yes hb (.inl (by omega))]; omega
      · simp only [ffT]
        split <;> omega
theorem mayE_F {j : Nat} (h : isF (tg L j) = true) : mayE L j = true := by
  have c := of_decide_eq_true h
  unfold mayE
  rw [if_neg (by omega), if_pos (by omega)]
  exact decide_eq_true (by omega)
/-- The first break from p on ends a line behind item p - 1. -/
theorem first_break (ok : isOk L = true) (hp : p < L.length) (hm : p = 0 ∨ mayE L (p - 1) = true) : ∃ b, p ≤ b ∧ b < L.length ∧ hasL L ((p : Int) - 1) b = true := by
  obtain ⟨_, _, hlast⟩ := okB_last ok
  have key : ∀ k, k ≤ L.length - p → (∃ b, p ≤ b ∧ b < p + k ∧ mayE L b = true ∧ ∀ j, p ≤ j → j < b → mayE L j = false) ∨ (∀ j, p ≤ j → j < p + k → mayE L j = false) := fun k => by
    induction k with
    | zero => intro _; exact .inr fun j h1 h2 => by omega
    | succ k ih =>
      intro hk
      rcases ih (by omega) with ⟨b, h1, h2, h3, h4⟩ | h
      · exact .inl ⟨b, h1, by omega, h3, h4⟩
      · cases q : mayE L (p + k)
        · refine .inr fun j h1 h2 => ?_
          rcases (by omega : j < p + k ∨ j = p + k) with e | e
          · exact h j h1 e
          · rw [e]; exact q
        · exact .inl ⟨p + k, by omega, by omega, q, fun j h1 h2 => h j h1 h2⟩
  rcases key (L.length - p) (Nat.le_refl _) with ⟨b, h1, h2, h3, h4⟩ | h
  · refine ⟨b, h1, by omega, ?_⟩
    have hn : nF L p = nF L b := (nF_eq h1).2 fun j a c => by
      cases q : isF (tg L j)
      · rfl
      · have := mayE_F q
        rw [h4 j a c] at this; cases this
    rcases hm with rfl | hm
    · have e : ((0 : Nat) : Int) - 1 = -1 := rfl
      rw [e, hasL_0 (by omega) h3]
      exact decide_eq_true hn
    · rcases Nat.eq_zero_or_pos p with e0 | e0
      · subst e0
        have e : ((0 : Nat) : Int) - 1 = -1 := rfl
        rw [e, hasL_0 (by omega) h3]
        exact decide_eq_true hn
      · obtain ⟨m, rfl⟩ : ∃ m, p = m + 1 := ⟨p - 1, by omega⟩
        rw [Nat.add_sub_cancel] at hm
        rw [show (((m + 1 : Nat) : Int)) - 1 = (m : Int) by omega, hasL_6 (by omega) (by omega) hm h3]
        exact decide_eq_true hn
  · rw [h (L.length - 1) (by omega) (by omega)] at hlast; cases hlast
theorem ffN_ok (ok : isOk L = true) (hp : p < L.length) (hm : p = 0 ∨ mayE L (p - 1) = true) : ∃ q : Nat, ffN L d p = q ∧ p ≤ q ∧ q < L.length ∧ hasL L ((p : Int) - 1) q = true ∧ mayE L q = true := by
  obtain ⟨b, h1, h2, h3⟩ := first_break ok hp hm
  have h4 := ffT_up (d := d) h3 h1 (m := L.length - p) (by omega)
  rcases ffT_in (L := L) (d := d) (p := p) (m := L.length - p) with e | ⟨q, a, b', c, e⟩
  · omega
  · obtain ⟨_, q', _, e2, _, _, _, e6, _⟩ := hasL_of e
    obtain rfl : q = q' := by omega
    exact ⟨q, a, b', by omega, e, e6⟩
end
/-- Where line k begins, as a node. -/
noncomputable def fpS (L : List It) (d : Int) : Nat → Nat
  | 0 => 0
  | k + 1 => if fpS L d k < L.length then (ffN L d (fpS L d k)).toNat + 1 else fpS L d k
noncomputable def nLn (L : List It) (d : Int) : Nat → Nat
  | 0 => 0
  | k + 1 => if fpS L d k < L.length then k + 1 else nLn L d k
/-- The ends of the first k lines. -/
noncomputable def ffA (L : List It) (d : Int) : Nat → List Int
  | 0 => []
  | k + 1 => ffA L d k ++ [((fpS L d (k + 1) : Nat) : Int) - 1]
noncomputable def nFF (L : List It) (d : Int) : Nat := nLn L d L.length
/-- What FirstFit answers. -/
noncomputable def ffO (L : List It) (d : Int) : List Int := if isOk L && inB d 1 10000 then ffA L d (nFF L d) else []
theorem ffO_no {L : List It} {d : Int} (h : (isOk L && inB d 1 10000) = false) : ffO L d = [] := by unfold ffO; rw [h]; rfl
theorem ffO_yes {L : List It} {d : Int} (h : (isOk L && inB d 1 10000) = true) : ffO L d = ffA L d (nFF L d) := by unfold ffO; rw [h]; rfl
section
variable {L : List It} {d : Int}
theorem ffA_len : ∀ {k : Nat}, (ffA L d k).length = k
  | 0 => rfl
  | k + 1 => by simp only [ffA, List.length_append, ffA_len]; rfl
theorem ffA_at : ∀ {k j : Nat}, j < k → ng (ffA L d k) j = ((fpS L d (j + 1) : Nat) : Int) - 1
  | 0, _, h => by omega
  | k + 1, j, h => by
    simp only [ffA]
    rcases (by omega : j < k ∨ j = k) with e | e
    · rw [ng_appB (by rw [ffA_len]; exact e)]
      exact ffA_at e
    · subst e
      have := ng_lastB (E := ffA L d j) (x := ((fpS L d (j + 1) : Nat) : Int) - 1)
      rw [ffA_len] at this
      exact this
theorem ffA_frm {k j : Nat} (h : j ≤ k) : frm (-1) (ffA L d k) j = ((fpS L d j : Nat) : Int) - 1 := by
  cases j with
  | zero => rfl
  | succ j => rw [frm_succ]; exact ffA_at (by omega)
/-- One step. -/
theorem fpS_step (ok : isOk L = true) : ∀ {k : Nat}, (fpS L d k ≤ L.length ∧ (fpS L d k = 0 ∨ mayE L (fpS L d k - 1) = true)) ∧ (fpS L d k < L.length → ∃ q : Nat, ffN L d (fpS L d k) = q ∧ fpS L d k ≤ q ∧ q < L.length ∧ fpS L d (k + 1) = q + 1 ∧ hasL L (((fpS L d k : Nat) : Int) - 1) q = true) := fun {k} => by
  have step : ∀ k, (fpS L d k = 0 ∨ mayE L (fpS L d k - 1) = true) → fpS L d k < L.length → ∃ q : Nat, ffN L d (fpS L d k) = q ∧ fpS L d k ≤ q ∧ q < L.length ∧ fpS L d (k + 1) = q + 1 ∧ hasL L (((fpS L d k : Nat) : Int) - 1) q = true ∧ mayE L q = true := fun k hm hk => by
    obtain ⟨q, a, b, c, e, f⟩ := ffN_ok (d := d) ok hk hm
    refine ⟨q, a, b, c, ?_, e, f⟩
    simp only [fpS]
    rw [if_pos hk, a]; rfl
  have inv : ∀ k, fpS L d k ≤ L.length ∧ (fpS L d k = 0 ∨ mayE L (fpS L d k - 1) = true) := fun k => by
    induction k with
    | zero => exact ⟨Nat.zero_le _, .inl rfl⟩
    | succ k ih =>
      by_cases hk : fpS L d k < L.length
      · obtain ⟨q, a, b, c, e, f, g⟩ := step k ih.2 hk
        rw [e]
        exact ⟨by omega, .inr (by rw [Nat.add_sub_cancel]; exact g)⟩
      · have : fpS L d (k + 1) = fpS L d k := by simp only [fpS]; rw [if_neg hk]
        rw [this]; exact ih
  refine ⟨inv k, fun hk => ?_⟩
  obtain ⟨q, a, b, c, e, f, _⟩ := step k (inv k).2 hk
  exact ⟨q, a, b, c, e, f⟩
theorem fpS_mono (ok : isOk L = true) {i : Nat} : ∀ {j : Nat}, i ≤ j → fpS L d i ≤ fpS L d j
  | 0, h => by obtain rfl : i = 0 := by omega
               exact Nat.le_refl _
  | j + 1, h => by
    rcases (by omega : i = j + 1 ∨ i ≤ j) with e | e
    · rw [e]; exact Nat.le_refl _
    · have := fpS_mono ok e
      by_cases hk : fpS L d j < L.length
      · obtain ⟨q, _, b, _, e, _⟩ := (fpS_step (d := d) ok (k := j)).2 hk
        omega
      · have : fpS L d (j + 1) = fpS L d j := by simp only [fpS]; rw [if_neg hk]
        omega
theorem fpS_grow (ok : isOk L = true) : ∀ {k : Nat}, fpS L d k < L.length → k ≤ fpS L d k
  | 0, _ => Nat.zero_le _
  | k + 1, h => by
    have h1 := fpS_mono (d := d) ok (show k ≤ k + 1 by omega)
    have h2 := fpS_grow ok (k := k) (by omega)
    obtain ⟨q, _, b, _, e, _⟩ := (fpS_step (d := d) ok (k := k)).2 (by omega)
    omega
theorem nLn_in : ∀ {m : Nat}, nLn L d m ≤ m ∧ (nLn L d m = 0 ∨ fpS L d (nLn L d m - 1) < L.length) ∧ ∀ k, k < m → fpS L d k < L.length → k < nLn L d m
  | 0 => ⟨Nat.le_refl _, .inl rfl, fun k h => by omega⟩
  | m + 1 => by
    obtain ⟨a, b, c⟩ := nLn_in (m := m)
    simp only [nLn]
    by_cases h : fpS L d m < L.length
    · rw [if_pos h]
      exact ⟨Nat.le_refl _, .inr (by rw [Nat.add_sub_cancel]; exact h), fun k hk _ => hk⟩
    · rw [if_neg h]
      refine ⟨by omega, b, fun k hk hf => ?_⟩
      rcases (by omega : k < m ∨ k = m) with e | e
      · exact c k e hf
      · rw [e] at hf; exact absurd hf h
theorem nFF_lt (ok : isOk L = true) {k : Nat} (h : k < nFF L d) : fpS L d k < L.length := by
  obtain ⟨a, b, _⟩ := nLn_in (L := L) (d := d) (m := L.length)
  have h' : k < nLn L d L.length := h
  rcases b with b | b
  · omega
  · have := fpS_mono (d := d) ok (show k ≤ nLn L d L.length - 1 by omega)
    omega
theorem nFF_end (ok : isOk L = true) : fpS L d (nFF L d) = L.length := by
  obtain ⟨a, b, c⟩ := nLn_in (L := L) (d := d) (m := L.length)
  have h1 := (fpS_step (d := d) ok (k := nFF L d)).1.1
  rcases (by omega : fpS L d (nFF L d) = L.length ∨ fpS L d (nFF L d) < L.length) with e | e
  · exact e
  · have h2 := fpS_grow ok e
    have := c (nFF L d) (by omega) e
    have h3 : nFF L d < nLn L d L.length := this
    unfold nFF at h3
    omega
theorem nFF_le : nFF L d ≤ L.length := (nLn_in (L := L) (d := d) (m := L.length)).1
theorem ffO_len : (ffO L d).length ≤ 60 := by
  cases q : (isOk L && inB d 1 10000)
  · rw [ffO_no q]; simp
  · rw [ffO_yes q, ffA_len]
    have := (isOk_iff.1 ((Bool.and_eq_true _ _).mp q).1).2.1.2
    have := nFF_le (L := L) (d := d)
    omega
theorem ffO_wf : okW (ffO L d) := by
  cases q : (isOk L && inB d 1 10000)
  · rw [ffO_no q]; exact fun k hk => by simp at hk
  · have ok := ((Bool.and_eq_true _ _).mp q).1
    rw [ffO_yes q]
    intro k hk
    rw [ffA_len] at hk
    rw [ffA_at hk]
    have := (fpS_step (d := d) ok (k := k + 1)).1.1
    have := (isOk_iff.1 ok).2.1.2
    omega
/-- Breaks that are chosen one after the other divide the paragraph. -/
theorem ffO_valid (h : (isOk L && inB d 1 10000) = true) : vbO L (ffO L d) = true ∧ 0 < (ffO L d).length ∧ ng (ffO L d) ((ffO L d).length - 1) = (L.length : Int) - 1 := by
  have ok := ((Bool.and_eq_true _ _).mp h).1
  have hl := (isOk_iff.1 ok).2.1.1
  have he := nFF_end (d := d) ok
  have hpos : 0 < nFF L d := by
    rcases Nat.eq_zero_or_pos (nFF L d) with e | e
    · rw [e] at he
      have : fpS L d 0 = 0 := rfl
      omega
    · exact e
  rw [ffO_yes h]
  refine ⟨?_, by rw [ffA_len]; exact hpos, ?_⟩
  · rw [vbO_eq]
    have hb : endB L (ffA L d (nFF L d)) = true := decide_eq_true (by rw [ffA_len, ffA_frm (Nat.le_refl _), he])
    rw [cbV_of ok hb]
    intro j hj
    rw [ffA_len] at hj
    obtain ⟨q, _, _, _, e, f⟩ := (fpS_step (d := d) ok (k := j)).2 (nFF_lt ok hj)
    show hasL L (frm (-1) (ffA L d (nFF L d)) j) (ng (ffA L d (nFF L d)) j) = true
    rw [ffA_frm (by omega), ffA_at hj, e, show (((q + 1 : Nat) : Int)) - 1 = (q : Int) by omega]
    exact f
  · rw [ffA_len, ffA_at (by omega), show nFF L d - 1 + 1 = nFF L d by omega, he]
end
end Go.Proofs.Ytafddofajfcffaa

/- CheckBreaks and ValidBreaks in the model. -/
namespace Go.Proofs.Ytafddofajfcffaa
open Go.ChangeShapes Go.WideShapes Go.ChangeAt Go.RowKit
set_option linter.unusedVariables false
open Classical

theorem okT_step {s : Int} {E : List Int} {C : Nat → Int → Int → Int × Bool} {k : Nat} (h : okT s E C k) (hx : (C k (frm s E k) (ng E k)).2 = true) : okT s E C (k + 1) := fun i hi => by
  rcases (by omega : i < k ∨ i = k) with e | e
  · exact h i e
  · rw [e]; exact hx
set_option maxHeartbeats 2000000 in
theorem CheckBreaks_s (w : World) (A B : Option Addr) (n c m c' : Nat) (L : List It) (E : List Int) (d t : Int) (h : TL w A n L) (hn : n ≤ 1048576) (hE : IL w B m E) (hm : m ≤ 1048576) (hwf : okW E) :
    Calls Try.prog 40 #[.slice A n c, .int .i64 d, .int .i64 t, .slice B m c'] w fun e w' => e = .returned (.tuple #[.int .i64 (cbO L d t E).1, .bool (cbO L d t E).2]) ∧ Below w.heap.size w w' := by
  obtain rfl : n = L.length := h.1
  obtain rfl : m = E.length := hE.1
  have HI := hide h
  have HE := hide hE
  have HWF := hide hwf
  have LC := hide (fun (u : World) (hu : TL u A L.length L) (a b : Int) wa wb => LineCost_s u A L.length c L hu hn a b d t wa wb)
  have BAD := hide (fun k hk hx => cbV_bad (L := L) (E := E) (C := fun _ a b => coO L a b d t) (k := k) hk (fun _ => hx))
  have ALL := hide (fun h1 h2 h3 => cbV_of (L := L) (E := E) (C := fun _ a b => coO L a b d t) h1 h2 h3)
  have NO := hide (fun h1 => cbV_no (L := L) (E := E) (C := fun _ a b => coO L a b d t) h1)
  have SB := hide (fun (k : Nat) => sto_bd (f := fun j => (coO L (frm (-1) E j) (ng E j) d t).1) (M := 200000000) (k := k) (fun j _ => coO_bd _ _ d t))
  obtain ⟨V, hV⟩ : ∃ V, V = cbO L d t E := ⟨_, rfl⟩
  rw [← hV]
  unfold cbO at hV
  have HV := hide hV
  clear h hE hwf hV
  go_enter Try.func40, Try.ntmps40
  go_wp2
  go_loopw [10, 11, 12] (fun su fr i u => ∃ (k : Nat) (f z : Int), k ≤ E.length ∧ i = .int .i64 k ∧ fr = .int .i64 f ∧ frm (-1) E k = f ∧ su = .int .i64 z ∧ z = sto (fun j => (coO L (frm (-1) E j) (ng E j) d t).1) k ∧ okT (-1) E (fun _ a b => coO L a b d t) k ∧ Below w.heap.size w u) (fun _ _ i _ => E.length - (intOf i).toNat)
  case atStart => exact ⟨0, -1, 0, by omega, rfl, rfl, rfl, rfl, rfl, fun j hj => by omega, bl_refl _⟩
  case round =>
    obtain ⟨k, f, z, hk, rfl, rfl, hfr, rfl, hz, hok, hbl⟩ := hrel
    have sb := SB.out k
    rw [← hz] at sb
    have wa := frm_wf HWF.out hk
    rw [hfr] at wa
    have HOK := hide hok
    have HFR := hide hfr
    have HZ := hide hz
    have HB := hide hbl
    have HI1 := hide (HI.out.below hbl)
    clear hok hfr hz
    by_cases hlt : k < E.length
    · obtain ⟨b, o, rfl, hb0, c0⟩ := HE.out.at_ hlt
      have c0 := (hbl.cell (p := ⟨b, o + k, none⟩) hb0).trans c0
      have wb := HWF.out k hlt
      have FS := hide (frm_succ (-1) E k)
      have BK := hide (BAD.out k hlt)
      have OS := hide (fun hx => okT_step (s := -1) (E := E) (C := fun _ a b => coO L a b d t) (k := k) HOK.out hx)
      have SS := hide (show sto (fun j => (coO L (frm (-1) E j) (ng E j) d t).1) (k + 1) = sto (fun j => (coO L (frm (-1) E j) (ng E j) d t).1) k + (coO L (frm (-1) E k) (ng E k) d t).1 from rfl)
      have vb := coO_bd (L := L) (frm (-1) E k) (ng E k) d t
      rw [HFR.out] at BK OS SS vb
      rw [← HZ.out] at SS
      obtain ⟨y, hy⟩ : ∃ y, y = ng E k := ⟨_, rfl⟩
      rw [← hy] at c0 wb FS BK OS SS vb
      have LK := LC.out wr HI1.out f y wa wb
      obtain ⟨v, hv⟩ : ∃ v, v = (coO L f y d t).1 := ⟨_, rfl⟩
      obtain ⟨fl, hfl⟩ : ∃ v, v = (coO L f y d t).2 := ⟨_, rfl⟩
      rw [← hv, ← hfl] at LK
      rw [← hv] at SS vb
      rw [← hfl] at BK OS
      have HLK := hide LK
      clear hy hv hfl LK wa wb hbl
      cases fl
      · have O := hide (BK.out rfl)
        clear BK OS SS
        go_wp2_with fail
        (with_reducible refine HLK.out.mono ?_)
        rintro e u1 ⟨rfl, hb⟩
        have HB1 := hide (bl_call hb HB.out)
        clear hb c0
        go_wp2
        go_ret2
        exact ⟨by rw [HV.out, O.out]; rfl, HB1.out⟩
      · have O := hide (OS.out rfl)
        clear BK OS
        go_wp2_with fail
        (with_reducible refine HLK.out.mono ?_)
        rintro e u1 ⟨rfl, hb⟩
        have HB1 := hide (bl_call hb HB.out)
        have c0 := keep_cell hb c0
        clear hb
        go_wp2
        go_roundw
        case rel => exact ⟨k + 1, y, z + v, by omega, by go_num, rfl, FS.out, rfl, SS.out.symm, O.out, HB1.out⟩
        case measure => simp [intOf]; omega
    · obtain rfl : k = E.length := by omega
      rcases Nat.eq_zero_or_pos E.length with h0 | h0
      · have O := hide (NO.out (by
          cases q : isOk L
          · rfl
          · rw [show E = [] from List.eq_nil_of_length_eq_zero h0, endB_nil (isOk_iff.1 q).2.1.1]; rfl))
        have g0 : ((E.length : Int) == 0) = true := beq_iff_eq.2 (by omega)
        clear h0 hlt
        go_wp2
        go_ret2
        exact ⟨by rw [HV.out, O.out]; rfl, HB.out⟩
      · have g0 : ((E.length : Int) == 0) = false := beq_eq_false_iff_ne.2 (by omega)
        have OK1 := hide (coO_has (HOK.out 0 h0))
        cases q : decide (f = (L.length : Int) - 1)
        · have O := hide (NO.out (by
            have : endB L E = false := by unfold endB; rw [HFR.out]; exact q
            rw [this]; simp))
          have g1 : (f == (L.length : Int) - 1) = false := beq_eq_false_iff_ne.2 (of_decide_eq_false q)
          have g2 : (f != (L.length : Int) - 1) = true := bne_iff_ne.2 (of_decide_eq_false q)
          clear hlt
          go_wp2
          go_ret2
          exact ⟨by rw [HV.out, O.out]; rfl, HB.out⟩
        · have O := hide (ALL.out OK1.out (by unfold endB; rw [HFR.out]; exact q) HOK.out)
          have g1 : (f == (L.length : Int) - 1) = true := beq_iff_eq.2 (of_decide_eq_true q)
          have g2 : (f != (L.length : Int) - 1) = false := by rw [bne, g1]; rfl
          clear hlt
          go_wp2
          go_ret2
          exact ⟨by rw [HV.out, O.out, ← HZ.out]; rfl, HB.out⟩
set_option maxHeartbeats 2000000 in
theorem validBreaks_s (w : World) (A B : Option Addr) (n c m c' : Nat) (L : List It) (E : List Int) (h : TL w A n L) (hn : n ≤ 1048576) (hE : IL w B m E) (hm : m ≤ 1048576) (hwf : okW E) :
    Calls Try.prog 77 #[.slice A n c, .slice B m c'] w fun e w' => e = .returned (.bool (vbO L E)) ∧ Below w.heap.size w w' := by
  obtain rfl : n = L.length := h.1
  obtain rfl : m = E.length := hE.1
  have HI := hide h
  have HE := hide hE
  have HWF := hide hwf
  have LC := hide (fun (u : World) (hu : TL u A L.length L) (a b : Int) wa wb => validLine_s u A L.length c L hu hn a b wa wb)
  have VI := hide (fun (u : World) (hu : TL u A L.length L) => validItems_s u A L.length c L hu (by omega))
  have BAD := hide (fun k hk hx => cbV_bad (L := L) (E := E) (C := fun _ a b => (0, okL L a b)) (k := k) hk (fun _ => hx))
  have ALL := hide (fun h1 h2 h3 => cbV_of (L := L) (E := E) (C := fun _ a b => (0, okL L a b)) h1 h2 h3)
  have NO := hide (fun h1 => cbV_no (L := L) (E := E) (C := fun _ a b => (0, okL L a b)) h1)
  obtain ⟨V, hV⟩ : ∃ V, V = vbO L E := ⟨_, rfl⟩
  rw [← hV]
  unfold vbO at hV
  have HV := hide hV
  clear h hE hwf hV
  go_enter Try.func77, Try.ntmps77
  go_wp2
  go_loopw [5, 6] (fun fr i u => ∃ (k : Nat) (f : Int), k ≤ E.length ∧ i = .int .i64 k ∧ fr = .int .i64 f ∧ frm (-1) E k = f ∧ okT (-1) E (fun _ a b => (0, okL L a b)) k ∧ Below w.heap.size w u) (fun _ i _ => E.length - (intOf i).toNat)
  case atStart => exact ⟨0, -1, by omega, rfl, rfl, rfl, fun j hj => by omega, bl_refl _⟩
  case round =>
    obtain ⟨k, f, hk, rfl, rfl, hfr, hok, hbl⟩ := hrel
    have wa := frm_wf HWF.out hk
    rw [hfr] at wa
    have HOK := hide hok
    have HFR := hide hfr
    have HB := hide hbl
    have HI1 := hide (HI.out.below hbl)
    clear hok hfr
    by_cases hlt : k < E.length
    · obtain ⟨b, o, rfl, hb0, c0⟩ := HE.out.at_ hlt
      have c0 := (hbl.cell (p := ⟨b, o + k, none⟩) hb0).trans c0
      have wb := HWF.out k hlt
      have FS := hide (frm_succ (-1) E k)
      have BK := hide (BAD.out k hlt)
      have OS := hide (fun hx => okT_step (s := -1) (E := E) (C := fun _ a b => (0, okL L a b)) (k := k) HOK.out hx)
      rw [HFR.out] at BK OS
      obtain ⟨y, hy⟩ : ∃ y, y = ng E k := ⟨_, rfl⟩
      rw [← hy] at c0 wb FS BK OS
      have LK := LC.out wr HI1.out f y wa wb
      obtain ⟨fl, hfl⟩ : ∃ v, v = okL L f y := ⟨_, rfl⟩
      rw [← hfl] at LK BK OS
      have HLK := hide LK
      clear hy hfl LK wa wb hbl
      cases fl
      · have O := hide (BK.out rfl)
        clear BK OS
        go_wp2_with fail
        (with_reducible refine HLK.out.mono ?_)
        rintro e u1 ⟨rfl, hb⟩
        have HB1 := hide (bl_call hb HB.out)
        clear hb c0
        go_wp2
        go_ret
        exact ⟨by rw [HV.out, O.out]; first | done | rfl, HB1.out⟩
      · have O := hide (OS.out rfl)
        clear BK OS
        go_wp2_with fail
        (with_reducible refine HLK.out.mono ?_)
        rintro e u1 ⟨rfl, hb⟩
        have HB1 := hide (bl_call hb HB.out)
        have c0 := keep_cell hb c0
        clear hb
        go_wp2
        go_roundw
        case rel => exact ⟨k + 1, y, by omega, by go_num, rfl, FS.out, O.out, HB1.out⟩
        case measure => simp [intOf]; omega
    · obtain rfl : k = E.length := by omega
      have VK := VI.out wr HI1.out
      obtain ⟨ok, hko⟩ : ∃ b, b = isOk L := ⟨_, rfl⟩
      rw [← hko] at VK
      have HVK := hide VK
      have HO1 := hide hko
      clear VK hlt hko
      cases ok
      · have O := hide (NO.out (by rw [← HO1.out]; rfl))
        go_wp2_with fail
        (with_reducible refine HVK.out.mono ?_)
        rintro e u1 ⟨rfl, hb⟩
        have HB1 := hide (bl_call hb HB.out)
        clear hb
        go_wp2
        go_ret
        exact ⟨by rw [HV.out, O.out]; first | done | rfl, HB1.out⟩
      · cases q : decide (f = (L.length : Int) - 1)
        · have O := hide (NO.out (by
            have : endB L E = false := by unfold endB; rw [HFR.out]; exact q
            rw [this]; simp))
          have g1 : (f == (L.length : Int) - 1) = false := beq_eq_false_iff_ne.2 (of_decide_eq_false q)
          go_wp2_with fail
          (with_reducible refine HVK.out.mono ?_)
          rintro e u1 ⟨rfl, hb⟩
          have HB1 := hide (bl_call hb HB.out)
          clear hb
          go_wp2
          go_ret
          exact ⟨by rw [HV.out, O.out]; first | done | rfl, HB1.out⟩
        · have O := hide (ALL.out HO1.out.symm (by unfold endB; rw [HFR.out]; exact q) HOK.out)
          have g1 : (f == (L.length : Int) - 1) = true := beq_iff_eq.2 (of_decide_eq_true q)
          go_wp2_with fail
          (with_reducible refine HVK.out.mono ?_)
          rintro e u1 ⟨rfl, hb⟩
          have HB1 := hide (bl_call hb HB.out)
          clear hb
          go_wp2
          go_ret
          exact ⟨by rw [HV.out, O.out]; first | done | rfl, HB1.out⟩
theorem ValidBreaks_s (w : World) (A B : Option Addr) (n c m c' : Nat) (L : List It) (E : List Int) (h : TL w A n L) (hn : n ≤ 1048576) (hE : IL w B m E) (hm : m ≤ 1048576) (hwf : okW E) :
    Calls Try.prog 38 #[.slice A n c, .slice B m c'] w fun e w' => e = .returned (.bool (vbO L E)) ∧ Below w.heap.size w w' := by
  have HV := hide (validBreaks_s w A B n c m c' L E h hn hE hm hwf)
  clear h hE hwf
  go_enter Try.func38, Try.ntmps38
  go_wp2_with fail
  (with_reducible refine HV.out.mono ?_)
  rintro e u1 ⟨rfl, hb⟩
  go_wp2
  go_ret
  exact ⟨rfl, hb⟩
end Go.Proofs.Ytafddofajfcffaa

/- The costs of lines as closures, and the totals of given breaks, in the program. -/
namespace Go.Proofs.Ytafddofajfcffaa
open Go.ChangeShapes Go.WideShapes Go.ChangeAt Go.RowKit
set_option linter.unusedVariables false
set_option linter.unusedSimpArgs false
open Classical

theorem PS.cells {u : World} {B gp g c1 gs gf gb : Nat} {L : List It} (h : PS u B gp g c1 gs gf gb L) : u.cell? ⟨gp, 0, none⟩ = some (.slice (some ⟨g, 0, none⟩) L.length c1) ∧ u.cell? ⟨gp, 1, none⟩ = some (.slice (some ⟨gs, 0, none⟩) (L.length + 1) (L.length + 1)) ∧ u.cell? ⟨gp, 2, none⟩ = some (.slice (some ⟨gf, 0, none⟩) (L.length + 1) (L.length + 1)) ∧ u.cell? ⟨gp, 3, none⟩ = some (.slice (some ⟨gb, 0, none⟩) (L.length + 1) (L.length + 1)) := ⟨h.k0, h.k1, h.k2, h.k3⟩
/-- A measured paragraph that is copied into another variable. -/
theorem PS.copy {u : World} {B gp g c1 gs gf gb : Nat} {L : List It} (h : PS u B gp g c1 gs gf gb L) : PS (u.alloc (.cells #[.slice (some ⟨g, 0, none⟩) L.length c1, .slice (some ⟨gs, 0, none⟩) (L.length + 1) (L.length + 1), .slice (some ⟨gf, 0, none⟩) (L.length + 1) (L.length + 1), .slice (some ⟨gb, 0, none⟩) (L.length + 1) (L.length + 1)] 92)) B u.heap.size g c1 gs gf gb L := ps_made h.row h.pr
theorem sameWidth_i (d : Int) (w : World) :
    Calls Try.prog 83 #[.int .i64 d] w fun e w' => e = .returned (.func (.func 129) #[] #[.pointer (some ⟨w.heap.size, 0, none⟩)]) ∧ w.alloc (.cells #[.int .i64 d] 3) = w' := by
  go_enter Try.func83, Try.ntmps83
  go_wp2
  go_ret
  exact ⟨rfl, rfl⟩
theorem same1_i (x d : Int) (b : Nat) (w : World) (h : w.cell? ⟨b, 0, none⟩ = some (.int .i64 d)) :
    Calls Try.prog 129 #[.int .i64 x, .pointer (some ⟨b, 0, none⟩)] w fun e w' => e = .returned (.int .i64 d) ∧ w = w' := by
  go_enter Try.func129, Try.ntmps129
  go_wp2
  go_ret
  exact ⟨rfl, rfl⟩
theorem costBy_i (w : World) (v0 v1 v2 v3 : Value) (F : Nat) (qs : Array Value) (t : Int) :
    Calls Try.prog 82 #[.agg #[v0, v1, v2, v3], .func (.func F) #[] qs, .int .i64 t] w fun e w' => e = .returned (.func (.func 128) #[] #[.pointer (some ⟨w.heap.size, 0, none⟩), .pointer (some ⟨w.heap.size + 1, 0, none⟩), .pointer (some ⟨w.heap.size + 1 + 1, 0, none⟩)]) ∧ ((w.alloc (.cells #[v0, v1, v2, v3] 92)).alloc (.cells #[.func (.func F) #[] qs] 106)).alloc (.cells #[.int .i64 t] 3) = w' := by
  go_enter Try.func82, Try.ntmps82
  go_wp2
  go_ret
  exact ⟨rfl, rfl⟩
set_option maxRecDepth 8000 in
set_option maxHeartbeats 4000000 in
/-- The cost of a line, all lines having one width. -/
theorem lines1_i (w : World) {B gp b4 b5 bw g c1 gs gf gb : Nat} (L : List It) (hps : PS w B gp g c1 gs gf gb L) (hall : ∀ i, i < L.length → itOk (tg L i) = true) (h1 : 1 ≤ L.length ∧ L.length ≤ 60) (x a b d t : Int) (wa : -9223372036854775808 ≤ a ∧ a ≤ 9223372036854775807) (wb : -9223372036854775808 ≤ b ∧ b ≤ 9223372036854775807)
    (k4 : w.cell? ⟨b4, 0, none⟩ = some (.func (.func 129) #[] #[.pointer (some ⟨bw, 0, none⟩)])) (k5 : w.cell? ⟨b5, 0, none⟩ = some (.int .i64 t)) (kw : w.cell? ⟨bw, 0, none⟩ = some (.int .i64 d)) :
    Calls Try.prog 128 #[.int .i64 x, .int .i64 a, .int .i64 b, .pointer (some ⟨gp, 0, none⟩), .pointer (some ⟨b4, 0, none⟩), .pointer (some ⟨b5, 0, none⟩)] w fun e w' => e = .returned (.tuple #[.int .i64 (coL L a b d t).1, .bool (coL L a b d t).2]) ∧ Below w.heap.size w w' := by
  have k0 := hps.k0
  have k1 := hps.k1
  have k2 := hps.k2
  have k3 := hps.k3
  have HC := hide (fun (u : World) (hu : Below w.heap.size w u) => cost_i u L (hps.below hu) hall h1 a b d t wa wb)
  obtain ⟨v, hv⟩ : ∃ v, v = coL L a b d t := ⟨_, rfl⟩
  rw [← hv] at HC ⊢
  obtain ⟨v1, v2⟩ := v
  clear hv hps hall
  go_enter Try.func128, Try.ntmps128
  go_upto_region 1 with fail
  have S0 := bl_drew (bl_refl w)
  have kwd : w.drew.cell? ⟨bw, 0, none⟩ = some (.int .i64 d) := kw
  refine wp_region_held_drew (S := fun u : World => Below w.heap.size w u) (by kernel_rfl) (S0) (fun hHeld => ?_)
  refine tkY (i := 0) (oi := ?_) (v := ?_) ?_ (by kernel_rfl) ?_ ?_ ?_ (by assumption) ?_; rotate_left 2; (next => simp only [tka, tkb, tkc]; rfl); (next => exact fun _ _ _ h => h); (next => rfl); (next => intro w_ hSw; (try dsimp only at hSw); have k0 := keep_cell hSw k0; have k1 := keep_cell hSw k1; have k2 := keep_cell hSw k2; have k3 := keep_cell hSw k3; go_simp; (try (with_reducible rfl))); (try simp only [Act.put, tkd, tke, tkf])
  (first | refine tky 1 (h := ?_) | refine tkn 1 (h := ?_)); (try simp only [Act.put, tkd, tke, tkf])
  (first | refine tky 2 (h := ?_) | refine tkn 2 (h := ?_)); (try simp only [Act.put, tkd, tke, tkf])
  refine tkY (i := 3) (oi := ?_) (v := ?_) ?_ (by kernel_rfl) ?_ ?_ ?_ (by assumption) ?_; rotate_left 2; (next => simp only [tka, tkb, tkc]; rfl); (next => exact fun _ _ _ h => h); (next => rfl); (next => intro w_ hSw; (try dsimp only at hSw); have k4 := keep_cell hSw k4; go_simp; (try (with_reducible rfl))); (try simp only [Act.put, tkd, tke, tkf])
  (first | refine tky 4 (h := ?_) | refine tkn 4 (h := ?_)); (try simp only [Act.put, tkd, tke, tkf])
  refine tkY (i := 6) (oi := ?_) (v := ?_) ?_ (by kernel_rfl) ?_ ?_ ?_ (by assumption) ?_; rotate_left 2; (next => simp only [tka, tkb, tkc]; rfl); (next => exact fun _ _ _ h => h); (next => rfl); (next => intro w_ hSw; (try dsimp only at hSw); have k5 := keep_cell hSw k5; go_simp; (try (with_reducible rfl))); (try simp only [Act.put, tkd, tke, tkf])
  refine wpAnyH_ready (rs := [5]) (by kernel_rfl) (by simp) ?_; refine AllReadyH.cons (o := ?_) ?_ (fun K hK => ?_) AllReadyH.nil; rotate_left 1; (next => simp only [List.getElem?_toArray, List.getElem?_cons_succ, List.getElem?_cons_zero]; rfl); go_simp
  go_at_call 129
  (with_reducible refine (same1_i _ d bw _ kwd).mono ?_)
  rintro e w' ⟨rfl, rfl⟩
  (try go_wp2_with fail); refine hK.out _ _ (S0) (fun hHeld => ?_); clear hK K; (try simp only [Act.put, List.setIfInBounds_toArray, List.set_cons_zero, List.set_cons_succ])
  refine wpAnyH_ready (rs := [7]) (by kernel_rfl) (by simp) ?_; refine AllReadyH.cons (o := ?_) ?_ (fun K hK => ?_) AllReadyH.nil; rotate_left 1; (next => simp only [List.getElem?_toArray, List.getElem?_cons_succ, List.getElem?_cons_zero]; rfl); go_simp
  go_at_call 102
  (with_reducible refine (HC.out _ (bl_drew (bl_refl _))).mono ?_)
  rintro e u1 ⟨rfl, hb⟩
  (try (with_reducible have hb := bl_undrew hb))
  (try go_wp2_with fail); refine hK.out _ _ (hb) (fun hHeld => ?_); clear hK K; (try simp only [Act.put, List.setIfInBounds_toArray, List.set_cons_zero, List.set_cons_succ])
  (first | refine tky 8 (h := ?_) | refine tkn 8 (h := ?_)); (try simp only [Act.put, tkd, tke, tkf])
  (first | refine tky 9 (h := ?_) | refine tkn 9 (h := ?_)); (try simp only [Act.put, tkd, tke, tkf])
  (first | refine tky 10 (h := ?_) | refine tkn 10 (h := ?_)); (try simp only [Act.put, tkd, tke, tkf])
  (first | refine tky 11 (h := ?_) | refine tkn 11 (h := ?_)); (try simp only [Act.put, tkd, tke, tkf])
  refine wpAnyH_done (by kernel_rfl) ?_ _
  go_wp2
  go_ret2
  exact ⟨rfl, hb⟩
set_option maxRecDepth 8000 in
set_option maxHeartbeats 4000000 in
theorem div1_i (w : World) {B gp g c1 gs gf gb : Nat} (L : List It) (hps : PS w B gp g c1 gs gf gb L) (hall : ∀ i, i < L.length → itOk (tg L i) = true) (h1 : 1 ≤ L.length ∧ L.length ≤ 60) (x a b : Int) (wa : -9223372036854775808 ≤ a ∧ a ≤ 9223372036854775807) (wb : -9223372036854775808 ≤ b ∧ b ≤ 9223372036854775807) :
    Calls Try.prog 125 #[.int .i64 x, .int .i64 a, .int .i64 b, .pointer (some ⟨gp, 0, none⟩)] w fun e w' => e = .returned (.tuple #[.int .i64 0, .bool (hasL L a b)]) ∧ Below w.heap.size w w' := by
  have k0 := hps.k0
  have k1 := hps.k1
  have k2 := hps.k2
  have k3 := hps.k3
  have HC := hide (hps.hasLine hall h1 a b wa wb)
  clear hps hall wa wb
  go_enter Try.func125, Try.ntmps125
  go_wp2_with fail
  (with_reducible refine HC.out.mono ?_)
  rintro e u1 ⟨rfl, hb⟩
  go_wp2
  go_ret2
  exact ⟨rfl, hb⟩
/-- What p.totalCost answers. -/
noncomputable def ptO (L : List It) (E : List Int) (C : Nat → Int → Int → Int × Bool) : Int × Bool := if endB L E then toO (-1) E C else (0, false)
theorem ptO_no {L : List It} {E : List Int} {C : Nat → Int → Int → Int × Bool} (h : endB L E = false) : ptO L E C = (0, false) := by unfold ptO; rw [h]; rfl
theorem ptO_yes {L : List It} {E : List Int} {C : Nat → Int → Int → Int × Bool} (h : endB L E = true) : ptO L E C = toO (-1) E C := by unfold ptO; rw [if_pos h]
theorem cbV_ok {L : List It} {E : List Int} {C : Nat → Int → Int → Int × Bool} (h : isOk L = true) : cbV L E C = ptO L E C := by unfold cbV ptO; rw [h, Bool.true_and]
set_option maxRecDepth 8000 in
set_option maxHeartbeats 4000000 in
theorem ptotal_lines (w : World) {B gp g c1 gs gf gb : Nat} (L : List It) (hps : PS w B gp g c1 gs gf gb L) (h1 : 1 ≤ L.length ∧ L.length ≤ 60) (A : Option Addr) (m c : Nat) (E : List Int) (hE : IL w A m E) (hm : m ≤ 1048576) (C : Nat → Int → Int → Int × Bool) (qs : Array Value)
    (HT : ∀ u, Below w.heap.size w u → Calls Try.prog 127 #[.int .i64 (-1), .slice A E.length c, .func (.func 128) #[] qs] u fun e w' => e = .returned (.tuple #[.int .i64 (toO (-1) E C).1, .bool (toO (-1) E C).2]) ∧ Below u.heap.size u w') :
    Calls Try.prog 81 #[.agg #[.slice (some ⟨g, 0, none⟩) L.length c1, .slice (some ⟨gs, 0, none⟩) (L.length + 1) (L.length + 1), .slice (some ⟨gf, 0, none⟩) (L.length + 1) (L.length + 1), .slice (some ⟨gb, 0, none⟩) (L.length + 1) (L.length + 1)], .slice A m c, .func (.func 128) #[] qs] w fun e w' => e = .returned (.tuple #[.int .i64 (ptO L E C).1, .bool (ptO L E C).2]) ∧ Below w.heap.size w w' := by
  obtain rfl : m = E.length := hE.1
  have HP := hide hps.copy
  have k0 := HP.out.k0
  have k1 := HP.out.k1
  have k2 := HP.out.k2
  have k3 := HP.out.k3
  have HB0 := hide (bl_alloc (bl_refl w) (.cells #[.slice (some ⟨g, 0, none⟩) L.length c1, .slice (some ⟨gs, 0, none⟩) (L.length + 1) (L.length + 1), .slice (some ⟨gf, 0, none⟩) (L.length + 1) (L.length + 1), .slice (some ⟨gb, 0, none⟩) (L.length + 1) (L.length + 1)] 92))
  have HTT := hide HT
  clear hps HT
  rcases Nat.eq_zero_or_pos E.length with h0 | h0
  · have O := hide (ptO_no (L := L) (E := E) (C := C) (by rw [List.eq_nil_of_length_eq_zero h0]; exact endB_nil h1.1))
    have g0 : ((E.length : Int) == 0) = true := beq_iff_eq.2 (by omega)
    clear hE h0
    go_enter Try.func81, Try.ntmps81
    go_upto_region 1 with fail
    refine wp_region_held_drew (S := fun u : World => u.cell? ⟨w.heap.size, 0, none⟩ = some (.slice (some ⟨g, 0, none⟩) L.length c1) ∧ u.cell? ⟨w.heap.size, 1, none⟩ = some (.slice (some ⟨gs, 0, none⟩) (L.length + 1) (L.length + 1)) ∧ u.cell? ⟨w.heap.size, 2, none⟩ = some (.slice (some ⟨gf, 0, none⟩) (L.length + 1) (L.length + 1)) ∧ u.cell? ⟨w.heap.size, 3, none⟩ = some (.slice (some ⟨gb, 0, none⟩) (L.length + 1) (L.length + 1))) (by kernel_rfl) (by first | (simp [go_sem, *]; done) | exact ⟨k0, k1, k2, k3⟩) (fun hHeld => ?_)
    (first | refine tky 0 (h := ?_) | refine tkn 0 (h := ?_)); (try simp only [Act.put, tkd, tke, tkf]); (first | refine tky 1 (h := ?_) | refine tkn 1 (h := ?_)); (try simp only [Act.put, tkd, tke, tkf]); (first | refine tky 2 (h := ?_) | refine tkn 2 (h := ?_)); (try simp only [Act.put, tkd, tke, tkf]); (first | refine tky 3 (h := ?_) | refine tkn 3 (h := ?_)); (try simp only [Act.put, tkd, tke, tkf]); (first | refine tky 4 (h := ?_) | refine tkn 4 (h := ?_)); (try simp only [Act.put, tkd, tke, tkf]); (first | refine tky 5 (h := ?_) | refine tkn 5 (h := ?_)); (try simp only [Act.put, tkd, tke, tkf]); (first | refine tky 6 (h := ?_) | refine tkn 6 (h := ?_)); (try simp only [Act.put, tkd, tke, tkf]); (first | refine tky 7 (h := ?_) | refine tkn 7 (h := ?_)); (try simp only [Act.put, tkd, tke, tkf]); (first | refine tky 8 (h := ?_) | refine tkn 8 (h := ?_)); (try simp only [Act.put, tkd, tke, tkf]); (first | refine tky 9 (h := ?_) | refine tkn 9 (h := ?_)); (try simp only [Act.put, tkd, tke, tkf]); (first | refine tky 10 (h := ?_) | refine tkn 10 (h := ?_)); (try simp only [Act.put, tkd, tke, tkf])
    (first | refine tky 11 (h := ?_) | refine tkn 11 (h := ?_)); (try simp only [Act.put, tkd, tke, tkf])
    (first | refine tky 12 (h := ?_) | refine tkn 12 (h := ?_)); (try simp only [Act.put, tkd, tke, tkf])
    (first | refine tky 13 (h := ?_) | refine tkn 13 (h := ?_)); (try simp only [Act.put, tkd, tke, tkf])
    refine wpAnyH_done (by kernel_rfl) ?_ _
    go_wp2
    go_ret2
    exact ⟨by rw [O.out]; rfl, bl_drew HB0.out⟩
  · obtain ⟨b, o, rfl, hb0, c0⟩ := hE.at_ (i := E.length - 1) (by omega)
    have FL := frm_last h0
    have g0 : ((E.length : Int) == 0) = false := beq_eq_false_iff_ne.2 (by omega)
    have CAST : ((E.length : Int) - 1) = ((E.length - 1 : Nat) : Int) := by omega
    have wE : IntKind.i64.wrap ((E.length : Int) - 1) = ((E.length - 1 : Nat) : Int) := by rw [← CAST]; exact IntWalk.i64_in _ (by omega)
    have c0 : (w.alloc (.cells #[.slice (some ⟨g, 0, none⟩) L.length c1, .slice (some ⟨gs, 0, none⟩) (L.length + 1) (L.length + 1), .slice (some ⟨gf, 0, none⟩) (L.length + 1) (L.length + 1), .slice (some ⟨gb, 0, none⟩) (L.length + 1) (L.length + 1)] 92)).cell? ⟨b, o + (E.length - 1), none⟩ = _ := keep_alloc c0 _
    obtain ⟨y, hy⟩ : ∃ y, y = ng E (E.length - 1) := ⟨_, rfl⟩
    rw [← hy] at c0 FL
    have hlt : E.length - 1 < E.length := by omega
    have hlt2 : ((E.length - 1 : Nat) : Int) < (E.length : Int) := by omega
    have hlt0 : (0 : Int) ≤ ((E.length - 1 : Nat) : Int) := by omega
    obtain ⟨r, hr⟩ : ∃ r, r = E.length - 1 := ⟨_, rfl⟩
    rw [← hr] at c0 CAST wE hlt hlt2 hlt0
    have wr' : IntKind.i64.wrap (r : Int) = (r : Int) := IntWalk.i64_in _ (by omega)
    obtain ⟨ml, hml⟩ : ∃ m, m = L.length := ⟨_, rfl⟩
    have NO := hide (fun (h : y ≠ (L.length : Int) - 1) => ptO_no (L := L) (E := E) (C := C) (decide_eq_false (by rw [FL]; exact h)))
    have YES := hide (fun (h : y = (L.length : Int) - 1) => ptO_yes (L := L) (E := E) (C := C) (decide_eq_true (by rw [FL]; exact h)))
    clear hE hy hr FL hml
    have hl1000 : L.length ≤ 1000 := by omega
    by_cases hq : y = (L.length : Int) - 1
    · have O := hide (YES.out hq)
      have g1 : (y != (L.length : Int) - 1) = false := by simp [hq]
      have g2 : (y == (L.length : Int) - 1) = true := by simp [hq]
      clear YES NO hq h0
      go_enter Try.func81, Try.ntmps81
      go_upto_region 1 with fail
      refine wp_region_held_drew (S := fun u : World => u.cell? ⟨w.heap.size, 0, none⟩ = some (.slice (some ⟨g, 0, none⟩) L.length c1) ∧ u.cell? ⟨w.heap.size, 1, none⟩ = some (.slice (some ⟨gs, 0, none⟩) (L.length + 1) (L.length + 1)) ∧ u.cell? ⟨w.heap.size, 2, none⟩ = some (.slice (some ⟨gf, 0, none⟩) (L.length + 1) (L.length + 1)) ∧ u.cell? ⟨w.heap.size, 3, none⟩ = some (.slice (some ⟨gb, 0, none⟩) (L.length + 1) (L.length + 1)) ∧ u.cell? ⟨b, o + r, none⟩ = some (.int .i64 y)) (by kernel_rfl) (by first | (simp [go_sem, *]; done) | exact ⟨k0, k1, k2, k3, c0⟩) (fun hHeld => ?_)
      (first | refine tky 0 (h := ?_) | refine tkn 0 (h := ?_)); (try simp only [Act.put, tkd, tke, tkf]); (first | refine tky 1 (h := ?_) | refine tkn 1 (h := ?_)); (try simp only [Act.put, tkd, tke, tkf]); (first | refine tky 2 (h := ?_) | refine tkn 2 (h := ?_)); (try simp only [Act.put, tkd, tke, tkf]); (first | refine tky 3 (h := ?_) | refine tkn 3 (h := ?_)); (try simp only [Act.put, tkd, tke, tkf]); (first | refine tky 4 (h := ?_) | refine tkn 4 (h := ?_)); (try simp only [Act.put, tkd, tke, tkf]); (first | refine tky 5 (h := ?_) | refine tkn 5 (h := ?_)); (try simp only [Act.put, tkd, tke, tkf]); (first | refine tky 6 (h := ?_) | refine tkn 6 (h := ?_)); (try simp only [Act.put, tkd, tke, tkf]); (first | refine tky 7 (h := ?_) | refine tkn 7 (h := ?_)); (try simp only [Act.put, tkd, tke, tkf]); (first | refine tky 8 (h := ?_) | refine tkn 8 (h := ?_)); (try simp only [Act.put, tkd, tke, tkf]); (first | refine tky 9 (h := ?_) | refine tkn 9 (h := ?_)); (try simp only [Act.put, tkd, tke, tkf]); (first | refine tky 10 (h := ?_) | refine tkn 10 (h := ?_)); (try simp only [Act.put, tkd, tke, tkf])
      refine wpAnyH_ready (rs := [11]) (by kernel_rfl) (by simp) ?_; refine AllReadyH.cons (o := ?_) ?_ (fun K hK => ?_) AllReadyH.nil; rotate_left 1; (next => simp only [List.getElem?_toArray, List.getElem?_cons_succ, List.getElem?_cons_zero]; rfl); go_simp
      go_at_call 120
      (with_reducible refine (last_i _ _ _ _ hl1000).mono ?_)
      rintro e u1 ⟨rfl, hb⟩
      (try (with_reducible have hb := bl_undrew hb))
      have k0 := keep_cell hb k0; have k1 := keep_cell hb k1; have k2 := keep_cell hb k2; have k3 := keep_cell hb k3
      have c0 := keep_cell hb c0
      have HB1 := hide (bl_call hb HB0.out)
      clear hb
      (try go_wp2_with fail); refine hK.out _ _ (⟨k0, k1, k2, k3, c0⟩) (fun hHeld => ?_); clear hK K; (try simp only [Act.put, List.setIfInBounds_toArray, List.set_cons_zero, List.set_cons_succ])
      (first | refine tky 12 (h := ?_) | refine tkn 12 (h := ?_)); (try simp only [Act.put, tkd, tke, tkf])
      (first | refine tky 13 (h := ?_) | refine tkn 13 (h := ?_)); (try simp only [Act.put, tkd, tke, tkf])
      refine wpAnyH_done (by kernel_rfl) ?_ _
      go_wp2_with fail
      (with_reducible refine (HTT.out _ HB1.out).mono ?_)
      rintro e u2 ⟨rfl, hb⟩
      have HB2 := hide (bl_call hb HB1.out)
      clear hb k0 k1 k2 k3 c0
      go_wp2
      go_ret2
      exact ⟨by rw [O.out]; first | done | rfl, HB2.out⟩
    · have O := hide (NO.out hq)
      have g1 : (y != (L.length : Int) - 1) = true := by simp [hq]
      have g2 : (y == (L.length : Int) - 1) = false := by simp [hq]
      clear YES NO hq h0
      go_enter Try.func81, Try.ntmps81
      go_upto_region 1 with fail
      refine wp_region_held_drew (S := fun u : World => u.cell? ⟨w.heap.size, 0, none⟩ = some (.slice (some ⟨g, 0, none⟩) L.length c1) ∧ u.cell? ⟨w.heap.size, 1, none⟩ = some (.slice (some ⟨gs, 0, none⟩) (L.length + 1) (L.length + 1)) ∧ u.cell? ⟨w.heap.size, 2, none⟩ = some (.slice (some ⟨gf, 0, none⟩) (L.length + 1) (L.length + 1)) ∧ u.cell? ⟨w.heap.size, 3, none⟩ = some (.slice (some ⟨gb, 0, none⟩) (L.length + 1) (L.length + 1)) ∧ u.cell? ⟨b, o + r, none⟩ = some (.int .i64 y)) (by kernel_rfl) (by first | (simp [go_sem, *]; done) | exact ⟨k0, k1, k2, k3, c0⟩) (fun hHeld => ?_)
      (first | refine tky 0 (h := ?_) | refine tkn 0 (h := ?_)); (try simp only [Act.put, tkd, tke, tkf]); (first | refine tky 1 (h := ?_) | refine tkn 1 (h := ?_)); (try simp only [Act.put, tkd, tke, tkf]); (first | refine tky 2 (h := ?_) | refine tkn 2 (h := ?_)); (try simp only [Act.put, tkd, tke, tkf]); (first | refine tky 3 (h := ?_) | refine tkn 3 (h := ?_)); (try simp only [Act.put, tkd, tke, tkf]); (first | refine tky 4 (h := ?_) | refine tkn 4 (h := ?_)); (try simp only [Act.put, tkd, tke, tkf]); (first | refine tky 5 (h := ?_) | refine tkn 5 (h := ?_)); (try simp only [Act.put, tkd, tke, tkf]); (first | refine tky 6 (h := ?_) | refine tkn 6 (h := ?_)); (try simp only [Act.put, tkd, tke, tkf]); (first | refine tky 7 (h := ?_) | refine tkn 7 (h := ?_)); (try simp only [Act.put, tkd, tke, tkf]); (first | refine tky 8 (h := ?_) | refine tkn 8 (h := ?_)); (try simp only [Act.put, tkd, tke, tkf]); (first | refine tky 9 (h := ?_) | refine tkn 9 (h := ?_)); (try simp only [Act.put, tkd, tke, tkf]); (first | refine tky 10 (h := ?_) | refine tkn 10 (h := ?_)); (try simp only [Act.put, tkd, tke, tkf])
      refine wpAnyH_ready (rs := [11]) (by kernel_rfl) (by simp) ?_; refine AllReadyH.cons (o := ?_) ?_ (fun K hK => ?_) AllReadyH.nil; rotate_left 1; (next => simp only [List.getElem?_toArray, List.getElem?_cons_succ, List.getElem?_cons_zero]; rfl); go_simp
      go_at_call 120
      (with_reducible refine (last_i _ _ _ _ hl1000).mono ?_)
      rintro e u1 ⟨rfl, hb⟩
      (try (with_reducible have hb := bl_undrew hb))
      have k0 := keep_cell hb k0; have k1 := keep_cell hb k1; have k2 := keep_cell hb k2; have k3 := keep_cell hb k3
      have c0 := keep_cell hb c0
      have HB1 := hide (bl_call hb HB0.out)
      clear hb
      (try go_wp2_with fail); refine hK.out _ _ (⟨k0, k1, k2, k3, c0⟩) (fun hHeld => ?_); clear hK K; (try simp only [Act.put, List.setIfInBounds_toArray, List.set_cons_zero, List.set_cons_succ])
      (first | refine tky 12 (h := ?_) | refine tkn 12 (h := ?_)); (try simp only [Act.put, tkd, tke, tkf])
      (first | refine tky 13 (h := ?_) | refine tkn 13 (h := ?_)); (try simp only [Act.put, tkd, tke, tkf])
      refine wpAnyH_done (by kernel_rfl) ?_ _
      go_wp2
      go_ret2
      exact ⟨by rw [O.out]; rfl, HB1.out⟩
set_option maxRecDepth 8000 in
set_option maxHeartbeats 4000000 in
theorem ptotal_div (w : World) {B gp g c1 gs gf gb : Nat} (L : List It) (hps : PS w B gp g c1 gs gf gb L) (h1 : 1 ≤ L.length ∧ L.length ≤ 60) (A : Option Addr) (m c : Nat) (E : List Int) (hE : IL w A m E) (hm : m ≤ 1048576) (C : Nat → Int → Int → Int × Bool) (qs : Array Value)
    (HT : ∀ u, Below w.heap.size w u → Calls Try.prog 127 #[.int .i64 (-1), .slice A E.length c, .func (.func 125) #[] qs] u fun e w' => e = .returned (.tuple #[.int .i64 (toO (-1) E C).1, .bool (toO (-1) E C).2]) ∧ Below u.heap.size u w') :
    Calls Try.prog 81 #[.agg #[.slice (some ⟨g, 0, none⟩) L.length c1, .slice (some ⟨gs, 0, none⟩) (L.length + 1) (L.length + 1), .slice (some ⟨gf, 0, none⟩) (L.length + 1) (L.length + 1), .slice (some ⟨gb, 0, none⟩) (L.length + 1) (L.length + 1)], .slice A m c, .func (.func 125) #[] qs] w fun e w' => e = .returned (.tuple #[.int .i64 (ptO L E C).1, .bool (ptO L E C).2]) ∧ Below w.heap.size w w' := by
  obtain rfl : m = E.length := hE.1
  have HP := hide hps.copy
  have k0 := HP.out.k0
  have k1 := HP.out.k1
  have k2 := HP.out.k2
  have k3 := HP.out.k3
  have HB0 := hide (bl_alloc (bl_refl w) (.cells #[.slice (some ⟨g, 0, none⟩) L.length c1, .slice (some ⟨gs, 0, none⟩) (L.length + 1) (L.length + 1), .slice (some ⟨gf, 0, none⟩) (L.length + 1) (L.length + 1), .slice (some ⟨gb, 0, none⟩) (L.length + 1) (L.length + 1)] 92))
  have HTT := hide HT
  clear hps HT
  rcases Nat.eq_zero_or_pos E.length with h0 | h0
  · have O := hide (ptO_no (L := L) (E := E) (C := C) (by rw [List.eq_nil_of_length_eq_zero h0]; exact endB_nil h1.1))
    have g0 : ((E.length : Int) == 0) = true := beq_iff_eq.2 (by omega)
    clear hE h0
    go_enter Try.func81, Try.ntmps81
    go_upto_region 1 with fail
    refine wp_region_held_drew (S := fun u : World => u.cell? ⟨w.heap.size, 0, none⟩ = some (.slice (some ⟨g, 0, none⟩) L.length c1) ∧ u.cell? ⟨w.heap.size, 1, none⟩ = some (.slice (some ⟨gs, 0, none⟩) (L.length + 1) (L.length + 1)) ∧ u.cell? ⟨w.heap.size, 2, none⟩ = some (.slice (some ⟨gf, 0, none⟩) (L.length + 1) (L.length + 1)) ∧ u.cell? ⟨w.heap.size, 3, none⟩ = some (.slice (some ⟨gb, 0, none⟩) (L.length + 1) (L.length + 1))) (by kernel_rfl) (by first | (simp [go_sem, *]; done) | exact ⟨k0, k1, k2, k3⟩) (fun hHeld => ?_)
    (first | refine tky 0 (h := ?_) | refine tkn 0 (h := ?_)); (try simp only [Act.put, tkd, tke, tkf]); (first | refine tky 1 (h := ?_) | refine tkn 1 (h := ?_)); (try simp only [Act.put, tkd, tke, tkf]); (first | refine tky 2 (h := ?_) | refine tkn 2 (h := ?_)); (try simp only [Act.put, tkd, tke, tkf]); (first | refine tky 3 (h := ?_) | refine tkn 3 (h := ?_)); (try simp only [Act.put, tkd, tke, tkf]); (first | refine tky 4 (h := ?_) | refine tkn 4 (h := ?_)); (try simp only [Act.put, tkd, tke, tkf]); (first | refine tky 5 (h := ?_) | refine tkn 5 (h := ?_)); (try simp only [Act.put, tkd, tke, tkf]); (first | refine tky 6 (h := ?_) | refine tkn 6 (h := ?_)); (try simp only [Act.put, tkd, tke, tkf]); (first | refine tky 7 (h := ?_) | refine tkn 7 (h := ?_)); (try simp only [Act.put, tkd, tke, tkf]); (first | refine tky 8 (h := ?_) | refine tkn 8 (h := ?_)); (try simp only [Act.put, tkd, tke, tkf]); (first | refine tky 9 (h := ?_) | refine tkn 9 (h := ?_)); (try simp only [Act.put, tkd, tke, tkf]); (first | refine tky 10 (h := ?_) | refine tkn 10 (h := ?_)); (try simp only [Act.put, tkd, tke, tkf])
    (first | refine tky 11 (h := ?_) | refine tkn 11 (h := ?_)); (try simp only [Act.put, tkd, tke, tkf])
    (first | refine tky 12 (h := ?_) | refine tkn 12 (h := ?_)); (try simp only [Act.put, tkd, tke, tkf])
    (first | refine tky 13 (h := ?_) | refine tkn 13 (h := ?_)); (try simp only [Act.put, tkd, tke, tkf])
    refine wpAnyH_done (by kernel_rfl) ?_ _
    go_wp2
    go_ret2
    exact ⟨by rw [O.out]; rfl, bl_drew HB0.out⟩
  · obtain ⟨b, o, rfl, hb0, c0⟩ := hE.at_ (i := E.length - 1) (by omega)
    have FL := frm_last h0
    have g0 : ((E.length : Int) == 0) = false := beq_eq_false_iff_ne.2 (by omega)
    have CAST : ((E.length : Int) - 1) = ((E.length - 1 : Nat) : Int) := by omega
    have wE : IntKind.i64.wrap ((E.length : Int) - 1) = ((E.length - 1 : Nat) : Int) := by rw [← CAST]; exact IntWalk.i64_in _ (by omega)
    have c0 : (w.alloc (.cells #[.slice (some ⟨g, 0, none⟩) L.length c1, .slice (some ⟨gs, 0, none⟩) (L.length + 1) (L.length + 1), .slice (some ⟨gf, 0, none⟩) (L.length + 1) (L.length + 1), .slice (some ⟨gb, 0, none⟩) (L.length + 1) (L.length + 1)] 92)).cell? ⟨b, o + (E.length - 1), none⟩ = _ := keep_alloc c0 _
    obtain ⟨y, hy⟩ : ∃ y, y = ng E (E.length - 1) := ⟨_, rfl⟩
    rw [← hy] at c0 FL
    have hlt : E.length - 1 < E.length := by omega
    have hlt2 : ((E.length - 1 : Nat) : Int) < (E.length : Int) := by omega
    have hlt0 : (0 : Int) ≤ ((E.length - 1 : Nat) : Int) := by omega
    obtain ⟨r, hr⟩ : ∃ r, r = E.length - 1 := ⟨_, rfl⟩
    rw [← hr] at c0 CAST wE hlt hlt2 hlt0
    have wr' : IntKind.i64.wrap (r : Int) = (r : Int) := IntWalk.i64_in _ (by omega)
    obtain ⟨ml, hml⟩ : ∃ m, m = L.length := ⟨_, rfl⟩
    have NO := hide (fun (h : y ≠ (L.length : Int) - 1) => ptO_no (L := L) (E := E) (C := C) (decide_eq_false (by rw [FL]; exact h)))
    have YES := hide (fun (h : y = (L.length : Int) - 1) => ptO_yes (L := L) (E := E) (C := C) (decide_eq_true (by rw [FL]; exact h)))
    clear hE hy hr FL hml
    have hl1000 : L.length ≤ 1000 := by omega
    by_cases hq : y = (L.length : Int) - 1
    · have O := hide (YES.out hq)
      have g1 : (y != (L.length : Int) - 1) = false := by simp [hq]
      have g2 : (y == (L.length : Int) - 1) = true := by simp [hq]
      clear YES NO hq h0
      go_enter Try.func81, Try.ntmps81
      go_upto_region 1 with fail
      refine wp_region_held_drew (S := fun u : World => u.cell? ⟨w.heap.size, 0, none⟩ = some (.slice (some ⟨g, 0, none⟩) L.length c1) ∧ u.cell? ⟨w.heap.size, 1, none⟩ = some (.slice (some ⟨gs, 0, none⟩) (L.length + 1) (L.length + 1)) ∧ u.cell? ⟨w.heap.size, 2, none⟩ = some (.slice (some ⟨gf, 0, none⟩) (L.length + 1) (L.length + 1)) ∧ u.cell? ⟨w.heap.size, 3, none⟩ = some (.slice (some ⟨gb, 0, none⟩) (L.length + 1) (L.length + 1)) ∧ u.cell? ⟨b, o + r, none⟩ = some (.int .i64 y)) (by kernel_rfl) (by first | (simp [go_sem, *]; done) | exact ⟨k0, k1, k2, k3, c0⟩) (fun hHeld => ?_)
      (first | refine tky 0 (h := ?_) | refine tkn 0 (h := ?_)); (try simp only [Act.put, tkd, tke, tkf]); (first | refine tky 1 (h := ?_) | refine tkn 1 (h := ?_)); (try simp only [Act.put, tkd, tke, tkf]); (first | refine tky 2 (h := ?_) | refine tkn 2 (h := ?_)); (try simp only [Act.put, tkd, tke, tkf]); (first | refine tky 3 (h := ?_) | refine tkn 3 (h := ?_)); (try simp only [Act.put, tkd, tke, tkf]); (first | refine tky 4 (h := ?_) | refine tkn 4 (h := ?_)); (try simp only [Act.put, tkd, tke, tkf]); (first | refine tky 5 (h := ?_) | refine tkn 5 (h := ?_)); (try simp only [Act.put, tkd, tke, tkf]); (first | refine tky 6 (h := ?_) | refine tkn 6 (h := ?_)); (try simp only [Act.put, tkd, tke, tkf]); (first | refine tky 7 (h := ?_) | refine tkn 7 (h := ?_)); (try simp only [Act.put, tkd, tke, tkf]); (first | refine tky 8 (h := ?_) | refine tkn 8 (h := ?_)); (try simp only [Act.put, tkd, tke, tkf]); (first | refine tky 9 (h := ?_) | refine tkn 9 (h := ?_)); (try simp only [Act.put, tkd, tke, tkf]); (first | refine tky 10 (h := ?_) | refine tkn 10 (h := ?_)); (try simp only [Act.put, tkd, tke, tkf])
      refine wpAnyH_ready (rs := [11]) (by kernel_rfl) (by simp) ?_; refine AllReadyH.cons (o := ?_) ?_ (fun K hK => ?_) AllReadyH.nil; rotate_left 1; (next => simp only [List.getElem?_toArray, List.getElem?_cons_succ, List.getElem?_cons_zero]; rfl); go_simp
      go_at_call 120
      (with_reducible refine (last_i _ _ _ _ hl1000).mono ?_)
      rintro e u1 ⟨rfl, hb⟩
      (try (with_reducible have hb := bl_undrew hb))
      have k0 := keep_cell hb k0; have k1 := keep_cell hb k1; have k2 := keep_cell hb k2; have k3 := keep_cell hb k3
      have c0 := keep_cell hb c0
      have HB1 := hide (bl_call hb HB0.out)
      clear hb
      (try go_wp2_with fail); refine hK.out _ _ (⟨k0, k1, k2, k3, c0⟩) (fun hHeld => ?_); clear hK K; (try simp only [Act.put, List.setIfInBounds_toArray, List.set_cons_zero, List.set_cons_succ])
      (first | refine tky 12 (h := ?_) | refine tkn 12 (h := ?_)); (try simp only [Act.put, tkd, tke, tkf])
      (first | refine tky 13 (h := ?_) | refine tkn 13 (h := ?_)); (try simp only [Act.put, tkd, tke, tkf])
      refine wpAnyH_done (by kernel_rfl) ?_ _
      go_wp2_with fail
      (with_reducible refine (HTT.out _ HB1.out).mono ?_)
      rintro e u2 ⟨rfl, hb⟩
      have HB2 := hide (bl_call hb HB1.out)
      clear hb k0 k1 k2 k3 c0
      go_wp2
      go_ret2
      exact ⟨by rw [O.out]; first | done | rfl, HB2.out⟩
    · have O := hide (NO.out hq)
      have g1 : (y != (L.length : Int) - 1) = true := by simp [hq]
      have g2 : (y == (L.length : Int) - 1) = false := by simp [hq]
      clear YES NO hq h0
      go_enter Try.func81, Try.ntmps81
      go_upto_region 1 with fail
      refine wp_region_held_drew (S := fun u : World => u.cell? ⟨w.heap.size, 0, none⟩ = some (.slice (some ⟨g, 0, none⟩) L.length c1) ∧ u.cell? ⟨w.heap.size, 1, none⟩ = some (.slice (some ⟨gs, 0, none⟩) (L.length + 1) (L.length + 1)) ∧ u.cell? ⟨w.heap.size, 2, none⟩ = some (.slice (some ⟨gf, 0, none⟩) (L.length + 1) (L.length + 1)) ∧ u.cell? ⟨w.heap.size, 3, none⟩ = some (.slice (some ⟨gb, 0, none⟩) (L.length + 1) (L.length + 1)) ∧ u.cell? ⟨b, o + r, none⟩ = some (.int .i64 y)) (by kernel_rfl) (by first | (simp [go_sem, *]; done) | exact ⟨k0, k1, k2, k3, c0⟩) (fun hHeld => ?_)
      (first | refine tky 0 (h := ?_) | refine tkn 0 (h := ?_)); (try simp only [Act.put, tkd, tke, tkf]); (first | refine tky 1 (h := ?_) | refine tkn 1 (h := ?_)); (try simp only [Act.put, tkd, tke, tkf]); (first | refine tky 2 (h := ?_) | refine tkn 2 (h := ?_)); (try simp only [Act.put, tkd, tke, tkf]); (first | refine tky 3 (h := ?_) | refine tkn 3 (h := ?_)); (try simp only [Act.put, tkd, tke, tkf]); (first | refine tky 4 (h := ?_) | refine tkn 4 (h := ?_)); (try simp only [Act.put, tkd, tke, tkf]); (first | refine tky 5 (h := ?_) | refine tkn 5 (h := ?_)); (try simp only [Act.put, tkd, tke, tkf]); (first | refine tky 6 (h := ?_) | refine tkn 6 (h := ?_)); (try simp only [Act.put, tkd, tke, tkf]); (first | refine tky 7 (h := ?_) | refine tkn 7 (h := ?_)); (try simp only [Act.put, tkd, tke, tkf]); (first | refine tky 8 (h := ?_) | refine tkn 8 (h := ?_)); (try simp only [Act.put, tkd, tke, tkf]); (first | refine tky 9 (h := ?_) | refine tkn 9 (h := ?_)); (try simp only [Act.put, tkd, tke, tkf]); (first | refine tky 10 (h := ?_) | refine tkn 10 (h := ?_)); (try simp only [Act.put, tkd, tke, tkf])
      refine wpAnyH_ready (rs := [11]) (by kernel_rfl) (by simp) ?_; refine AllReadyH.cons (o := ?_) ?_ (fun K hK => ?_) AllReadyH.nil; rotate_left 1; (next => simp only [List.getElem?_toArray, List.getElem?_cons_succ, List.getElem?_cons_zero]; rfl); go_simp
      go_at_call 120
      (with_reducible refine (last_i _ _ _ _ hl1000).mono ?_)
      rintro e u1 ⟨rfl, hb⟩
      (try (with_reducible have hb := bl_undrew hb))
      have k0 := keep_cell hb k0; have k1 := keep_cell hb k1; have k2 := keep_cell hb k2; have k3 := keep_cell hb k3
      have c0 := keep_cell hb c0
      have HB1 := hide (bl_call hb HB0.out)
      clear hb
      (try go_wp2_with fail); refine hK.out _ _ (⟨k0, k1, k2, k3, c0⟩) (fun hHeld => ?_); clear hK K; (try simp only [Act.put, List.setIfInBounds_toArray, List.set_cons_zero, List.set_cons_succ])
      (first | refine tky 12 (h := ?_) | refine tkn 12 (h := ?_)); (try simp only [Act.put, tkd, tke, tkf])
      (first | refine tky 13 (h := ?_) | refine tkn 13 (h := ?_)); (try simp only [Act.put, tkd, tke, tkf])
      refine wpAnyH_done (by kernel_rfl) ?_ _
      go_wp2
      go_ret2
      exact ⟨by rw [O.out]; rfl, HB1.out⟩
set_option maxRecDepth 8000 in
set_option maxHeartbeats 4000000 in
theorem divides_i (w : World) {B gp g c1 gs gf gb : Nat} (L : List It) (hps : PS w B gp g c1 gs gf gb L) (hall : ∀ i, i < L.length → itOk (tg L i) = true) (h1 : 1 ≤ L.length ∧ L.length ≤ 60) (A : Option Addr) (m c : Nat) (E : List Int) (hE : IL w A m E) (hm : m ≤ 1048576) (hwf : okW E) :
    Calls Try.prog 78 #[.agg #[.slice (some ⟨g, 0, none⟩) L.length c1, .slice (some ⟨gs, 0, none⟩) (L.length + 1) (L.length + 1), .slice (some ⟨gf, 0, none⟩) (L.length + 1) (L.length + 1), .slice (some ⟨gb, 0, none⟩) (L.length + 1) (L.length + 1)], .slice A m c] w fun e w' => e = .returned (.bool (ptO L E (fun _ a b => (0, hasL L a b))).2) ∧ Below w.heap.size w w' := by
  obtain rfl : m = E.length := hE.1
  have HP := hide hps.copy
  have k0 := HP.out.k0
  have k1 := HP.out.k1
  have k2 := HP.out.k2
  have k3 := HP.out.k3
  have HB0 := hide (bl_alloc (bl_refl w) (.cells #[.slice (some ⟨g, 0, none⟩) L.length c1, .slice (some ⟨gs, 0, none⟩) (L.length + 1) (L.length + 1), .slice (some ⟨gf, 0, none⟩) (L.length + 1) (L.length + 1), .slice (some ⟨gb, 0, none⟩) (L.length + 1) (L.length + 1)] 92))
  have PT := hide (ptotal_div (w.alloc (.cells #[.slice (some ⟨g, 0, none⟩) L.length c1, .slice (some ⟨gs, 0, none⟩) (L.length + 1) (L.length + 1), .slice (some ⟨gf, 0, none⟩) (L.length + 1) (L.length + 1), .slice (some ⟨gb, 0, none⟩) (L.length + 1) (L.length + 1)] 92)) L HP.out h1 A E.length c E (hE.alloc _) hm (fun _ a b => (0, hasL L a b)) #[.pointer (some ⟨w.heap.size, 0, none⟩)] (fun u hu => total_div u A c E ((hE.alloc _).below hu) hm (-1) (fun _ a b => (0, hasL L a b)) (.pointer (some ⟨w.heap.size, 0, none⟩)) (fun _ _ _ => by simp) (fun v hv i x => div1_i v L ((HP.out.below hu).below hv) hall h1 i _ _ (frm_wf hwf (by have := x.isLt; omega)) (hwf _ x.isLt))))
  obtain ⟨r, hr⟩ : ∃ r, r = ptO L E (fun _ a b => (0, hasL L a b)) := ⟨_, rfl⟩
  rw [← hr] at PT ⊢
  obtain ⟨r1, r2⟩ := r
  clear hps hE hwf hall hr
  go_enter Try.func78, Try.ntmps78
  go_wp2_with fail
  (with_reducible refine PT.out.mono ?_)
  rintro e u2 ⟨rfl, hb⟩
  have HB2 := hide (bl_call hb HB0.out)
  clear hb k0 k1 k2 k3
  go_wp2
  go_ret
  exact ⟨rfl, HB2.out⟩
set_option maxRecDepth 8000 in
set_option maxHeartbeats 4000000 in
theorem ValidBreaks_i (w : World) (A B : Option Addr) (n c m c' : Nat) (L : List It) (E : List Int) (h : TL w A n L) (hn : n ≤ 1048576) (hE : IL w B m E) (hm : m ≤ 1048576) (hwf : okW E) :
    Calls Try.prog 39 #[.slice A n c, .slice B m c'] w fun e w' => e = .returned (.bool (vbO L E)) ∧ Below w.heap.size w w' := by
  have ME := hide (measure_i w A n c L h (by omega))
  obtain rfl : n = L.length := h.1
  have HE := hide hE
  rw [vbO_eq]
  clear h hE
  cases hok : isOk L
  · have O := hide (cbV_no (L := L) (E := E) (C := fun _ a b => (0, hasL L a b)) (by rw [hok]; rfl))
    rw [hok] at ME
    clear hok
    go_enter Try.func39, Try.ntmps39
    go_wp2_with fail
    (with_reducible refine ME.out.mono ?_)
    rintro e u1 ⟨v, rfl, hv, hv0, hb⟩
    obtain rfl := hv0 (by trivial)
    have HB1 := hide hb
    clear hv hv0 hb
    go_wp2
    go_ret
    exact ⟨by rw [O.out]; rfl, bl_alloc HB1.out _⟩
  · have HK := isOk_iff.1 hok
    have HALL := hide HK.1
    have hl60 := HK.2.1
    rw [hok] at ME
    rw [cbV_ok hok]
    obtain ⟨r, hr⟩ : ∃ r, r = ptO L E (fun _ a b => (0, hasL L a b)) := ⟨_, rfl⟩
    have HR := hide hr
    rw [← hr]
    clear HK hok hr
    go_enter Try.func39, Try.ntmps39
    go_wp2_with fail
    (with_reducible refine ME.out.mono ?_)
    rintro e u1 ⟨v, rfl, hv, hv0, hb⟩
    obtain ⟨g, c1, gs, gf, gb, rfl, hrow, hpr⟩ := hv (by trivial)
    have HPS := hide (ps_made hrow hpr)
    have HB1 := hide (bl_alloc hb (.cells #[.slice (some ⟨g, 0, none⟩) L.length c1, .slice (some ⟨gs, 0, none⟩) (L.length + 1) (L.length + 1), .slice (some ⟨gf, 0, none⟩) (L.length + 1) (L.length + 1), .slice (some ⟨gb, 0, none⟩) (L.length + 1) (L.length + 1)] 92))
    have HD := hide (divides_i _ L HPS.out HALL.out hl60 B m c' E (HE.out.below HB1.out) hm hwf)
    rw [← HR.out] at HD
    clear hv hv0 hb hrow hpr
    have k0 := HPS.out.k0
    have k1 := HPS.out.k1
    have k2 := HPS.out.k2
    have k3 := HPS.out.k3
    go_wp2_with fail
    (with_reducible refine HD.out.mono ?_)
    rintro e u2 ⟨rfl, hb⟩
    have HB2 := hide (bl_call hb HB1.out)
    clear hb k0 k1 k2 k3
    go_wp2
    go_ret
    exact ⟨rfl, HB2.out⟩
set_option maxRecDepth 8000 in
set_option maxHeartbeats 4000000 in
theorem CheckBreaks_i (w : World) (A B : Option Addr) (n c m c' : Nat) (L : List It) (E : List Int) (d t : Int) (h : TL w A n L) (hn : n ≤ 1048576) (hE : IL w B m E) (hm : m ≤ 1048576) (hwf : okW E) :
    Calls Try.prog 41 #[.slice A n c, .int .i64 d, .int .i64 t, .slice B m c'] w fun e w' => e = .returned (.tuple #[.int .i64 (cbO L d t E).1, .bool (cbO L d t E).2]) ∧ Below w.heap.size w w' := by
  have ME := hide (measure_i w A n c L h (by omega))
  obtain rfl : n = L.length := h.1
  obtain rfl : m = E.length := hE.1
  have HE := hide hE
  rw [cbO_eq]
  clear h hE
  cases hok : isOk L
  · have O := hide (cbV_no (L := L) (E := E) (C := fun _ a b => coL L a b d t) (by rw [hok]; rfl))
    rw [hok] at ME
    clear hok
    go_enter Try.func41, Try.ntmps41
    go_wp2_with fail
    (with_reducible refine ME.out.mono ?_)
    rintro e u1 ⟨v, rfl, hv, hv0, hb⟩
    obtain rfl := hv0 (by trivial)
    have HB1 := hide hb
    clear hv hv0 hb
    go_wp2
    go_ret2
    exact ⟨by rw [O.out]; rfl, bl_alloc HB1.out _⟩
  · have HK := isOk_iff.1 hok
    have HALL := hide HK.1
    have hl60 := HK.2.1
    rw [hok] at ME
    rw [cbV_ok hok]
    have CB := hide (fun p q => coL_bd HALL.out p q d t)
    obtain ⟨r, hr⟩ : ∃ r, r = ptO L E (fun _ a b => coL L a b d t) := ⟨_, rfl⟩
    have HR := hide hr
    rw [← hr]
    obtain ⟨r1, r2⟩ := r
    clear HK hok hr
    go_enter Try.func41, Try.ntmps41
    go_wp2_with fail
    (with_reducible refine ME.out.mono ?_)
    rintro e u1 ⟨v, rfl, hv, hv0, hb⟩
    obtain ⟨g, c1, gs, gf, gb, rfl, hrow, hpr⟩ := hv (by trivial)
    have HPS := hide (ps_made hrow hpr)
    have HB1 := hide (bl_alloc hb (.cells #[.slice (some ⟨g, 0, none⟩) L.length c1, .slice (some ⟨gs, 0, none⟩) (L.length + 1) (L.length + 1), .slice (some ⟨gf, 0, none⟩) (L.length + 1) (L.length + 1), .slice (some ⟨gb, 0, none⟩) (L.length + 1) (L.length + 1)] 92))
    clear hv hv0 hb hrow hpr
    have k0 := HPS.out.k0
    have k1 := HPS.out.k1
    have k2 := HPS.out.k2
    have k3 := HPS.out.k3
    go_upto_region 4 with fail
    obtain ⟨W, hW⟩ : ∃ W, W = u1.alloc (.cells #[.slice (some ⟨g, 0, none⟩) L.length c1, .slice (some ⟨gs, 0, none⟩) (L.length + 1) (L.length + 1), .slice (some ⟨gf, 0, none⟩) (L.length + 1) (L.length + 1), .slice (some ⟨gb, 0, none⟩) (L.length + 1) (L.length + 1)] 92) := ⟨_, rfl⟩
    have hp1 : u1.heap.size < W.heap.size := by rw [hW]; simp
    rw [← hW] at HPS HB1 k0 k1 k2 k3
    have PT := hide (fun (u : World) (hu : Below W.heap.size W u) (b2 b3 b4 bw : Nat) (hp : PS u w.heap.size b2 g c1 gs gf gb L) (e3 : u.cell? ⟨b3, 0, none⟩ = some (.func (.func 129) #[] #[.pointer (some ⟨bw, 0, none⟩)])) (e4 : u.cell? ⟨b4, 0, none⟩ = some (.int .i64 t)) (ew : u.cell? ⟨bw, 0, none⟩ = some (.int .i64 d)) =>
      ptotal_lines u L hp hl60 B E.length c' E ((HE.out.below HB1.out).below hu) hm (fun _ a b => coL L a b d t) #[.pointer (some ⟨b2, 0, none⟩), .pointer (some ⟨b3, 0, none⟩), .pointer (some ⟨b4, 0, none⟩)] (fun v hv => by
        exact total_lines v B c' E (((HE.out.below HB1.out).below hu).below hv) hm (-1) (fun _ a b => coL L a b d t) _ _ _ (fun _ p q => by have := CB.out p q; show -8000000000 ≤ (coL L p q d t).1 ∧ (coL L p q d t).1 ≤ 8000000000; omega) (fun y hy i x => lines1_i y L ((hp.below hv).below hy) HALL.out hl60 i _ _ d t (frm_wf hwf (by have := x.isLt; omega)) (hwf _ x.isLt) (keep_cell hy (keep_cell hv e3)) (keep_cell hy (keep_cell hv e4)) (keep_cell hy (keep_cell hv ew)))))
    rw [← HR.out] at PT
    rw [← hW]
    have HWW := hide hW
    clear hW
    have S0 := bl_drew (bl_refl W)
    clear hwf
    refine wp_region_held_drew (S := fun u : World => Below W.heap.size W u) (by kernel_rfl) (S0) (fun hHeld => ?_)
    refine tkY (i := 0) (oi := ?_) (v := ?_) ?_ (by kernel_rfl) ?_ ?_ ?_ (by assumption) ?_; rotate_left 2; (next => simp only [tka, tkb, tkc]; rfl); (next => exact fun _ _ _ h => h); (next => rfl); (next => intro w_ hSw; (try dsimp only at hSw); have k0 := keep_cell hSw k0; have k1 := keep_cell hSw k1; have k2 := keep_cell hSw k2; have k3 := keep_cell hSw k3; go_simp; (try (with_reducible rfl))); (try simp only [Act.put, tkd, tke, tkf])
    (first | refine tky 1 (h := ?_) | refine tkn 1 (h := ?_)); (try simp only [Act.put, tkd, tke, tkf])
    refine tkY (i := 2) (oi := ?_) (v := ?_) ?_ (by kernel_rfl) ?_ ?_ ?_ (by assumption) ?_; rotate_left 2; (next => simp only [tka, tkb, tkc]; rfl); (next => exact fun _ _ _ h => h); (next => rfl); (next => intro w_ hSw; (try dsimp only at hSw); have k0 := keep_cell hSw k0; have k1 := keep_cell hSw k1; have k2 := keep_cell hSw k2; have k3 := keep_cell hSw k3; go_simp; (try (with_reducible rfl))); (try simp only [Act.put, tkd, tke, tkf])
    (first | refine tky 3 (h := ?_) | refine tkn 3 (h := ?_)); (try simp only [Act.put, tkd, tke, tkf])
    (first | refine tky 5 (h := ?_) | refine tkn 5 (h := ?_)); (try simp only [Act.put, tkd, tke, tkf])
    refine wpAnyH_ready (rs := [4]) (by kernel_rfl) (by simp) ?_; refine AllReadyH.cons (o := ?_) ?_ (fun K hK => ?_) AllReadyH.nil; rotate_left 1; (next => simp only [List.getElem?_toArray, List.getElem?_cons_succ, List.getElem?_cons_zero]; rfl); go_simp
    go_at_call 83
    (with_reducible refine (sameWidth_i _ _).mono ?_)
    rintro e w' ⟨rfl, rfl⟩
    (try go_wp2_with fail); refine hK.out _ _ ((by repeat' (first | exact bl_refl _ | refine bl_drew ?_ | refine bl_alloc ?_ _))) (fun hHeld => ?_); clear hK K; (try simp only [Act.put, List.setIfInBounds_toArray, List.set_cons_zero, List.set_cons_succ])
    refine wpAnyH_ready (rs := [6]) (by kernel_rfl) (by simp) ?_; refine AllReadyH.cons (o := ?_) ?_ (fun K hK => ?_) AllReadyH.nil; rotate_left 1; (next => simp only [List.getElem?_toArray, List.getElem?_cons_succ, List.getElem?_cons_zero]; rfl); go_simp
    go_at_call 82
    (with_reducible refine (costBy_i _ _ _ _ _ _ _ _).mono ?_)
    rintro e w' ⟨rfl, rfl⟩
    (try go_wp2_with fail); refine hK.out _ _ ((by repeat' (first | exact bl_refl _ | refine bl_drew ?_ | refine bl_alloc ?_ _))) (fun hHeld => ?_); clear hK K; (try simp only [Act.put, List.setIfInBounds_toArray, List.set_cons_zero, List.set_cons_succ])
    refine wpAnyH_ready (rs := [7]) (by kernel_rfl) (by simp) ?_; refine AllReadyH.cons (o := ?_) ?_ (fun K hK => ?_) AllReadyH.nil; rotate_left 1; (next => simp only [List.getElem?_toArray, List.getElem?_cons_succ, List.getElem?_cons_zero]; rfl); go_simp
    go_at_call 81
    (with_reducible refine (PT.out _ ?_ _ _ _ W.heap.size ?_ ?_ ?_ ?_).mono ?_)
    · exact (by repeat' (first | exact bl_refl _ | refine bl_drew ?_ | refine bl_alloc ?_ _))
    · have h5 := (HPS.out.below (bl_alloc (bl_refl _) (.cells #[.int .i64 d] 3))).copy
      rw [show (W.alloc (.cells #[.int .i64 d] 3)).heap.size = W.heap.size + 1 by simp] at h5
      refine h5.below ?_
      exact (by repeat' (first | exact bl_refl _ | refine bl_drew ?_ | refine bl_alloc ?_ _))
    · simp [go_sem]
    · simp [go_sem]
    · simp [go_sem]
    rintro e u2 ⟨rfl, hb⟩
    have HB2 := hide (bl_call hb (show Below W.heap.size W _ from (by repeat' (first | exact bl_refl _ | refine bl_drew ?_ | refine bl_alloc ?_ _))))
    clear hb
    (try go_wp2_with fail); refine hK.out _ _ (HB2.out) (fun hHeld => ?_); clear hK K; (try simp only [Act.put, List.setIfInBounds_toArray, List.set_cons_zero, List.set_cons_succ])
    (first | refine tky 8 (h := ?_) | refine tkn 8 (h := ?_)); (try simp only [Act.put, tkd, tke, tkf])
    (first | refine tky 9 (h := ?_) | refine tkn 9 (h := ?_)); (try simp only [Act.put, tkd, tke, tkf])
    (first | refine tky 10 (h := ?_) | refine tkn 10 (h := ?_)); (try simp only [Act.put, tkd, tke, tkf])
    (first | refine tky 11 (h := ?_) | refine tkn 11 (h := ?_)); (try simp only [Act.put, tkd, tke, tkf])
    refine wpAnyH_done (by kernel_rfl) ?_ _
    go_wp2
    go_ret2
    exact ⟨rfl, bl_call HB2.out HB1.out⟩
end Go.Proofs.Ytafddofajfcffaa

/- The places of a paragraph: an iterator over its breaks; the search for the best breaks. -/
namespace Go.Proofs.Ytafddofajfcffaa
open Go.ChangeShapes Go.WideShapes Go.ChangeAt Go.RowKit Go.Shelf
set_option linter.unusedVariables false
attribute [local go_sem] Oper.semAt_some

theorem grown_none {u v : World} (h : Below u.heap.size u v) : u.grownBy v none := ⟨h.os, h.tape, h.output, h.size, fun i hi _ => h.block i hi⟩
theorem places_i (w : World) (v0 v1 v2 v3 : Value) :
    Calls Try.prog 99 #[.agg #[v0, v1, v2, v3]] w fun e w' => e = .returned (.func (.func 144) #[] #[.pointer (some ⟨w.heap.size, 0, none⟩)]) ∧ w.alloc (.cells #[v0, v1, v2, v3] 92) = w' := by
  go_enter Try.func99, Try.ntmps99
  go_wp2
  go_ret
  exact ⟨rfl, rfl⟩
set_option maxRecDepth 100000 in
set_option maxHeartbeats 4000000 in
theorem places_seq (w : World) {B gp g c1 gs gf gb : Nat} (L : List It) (hps : PS w B gp g c1 gs gf gb L) (ok : isOk L = true) :
    SeqN Fence.wide 4 Try.prog 144 #[.pointer (some ⟨gp, 0, none⟩)] (encW (plB L)) (Below w.heap.size) (nbB L) w := fun l J W hW hJ hY h0 => by
  obtain ⟨hall, ⟨_, hl60⟩, _⟩ := isOk_iff.1 ok
  have HALL := hide hall
  have HPS := hide hps
  have HJ := hide hJ
  have HYY := hide hY
  have HW := hide hW
  have hzW := hW.size
  have d0 := (hps.below hW).k0
  have J0 := hide h0
  clear hall hps hJ hY hW h0 ok
  refine callsIn_of_wp Try.func144 rfl trivial ?_ rfl
  simp only [Try.ntmps144, List.size_toArray, List.length_cons, List.length_nil, Nat.reduceAdd, Nat.reduceSub, Array.replicate_succ, Array.replicate_zero, List.push_toArray, List.append_toArray, List.nil_append, List.cons_append]
  gi_wp2
  clear d0
  gi_loopw [8] (fun i wr => ∃ k : Nat, k ≤ L.length ∧ i = .int .i64 k ∧ J (brTo L k).length wr ∧ Below w.heap.size W wr ∧ W.heap.size ≤ wr.heap.size) (fun i _ => L.length - (intOf i).toNat)
  case atStart => exact ⟨0, Nat.zero_le _, rfl, J0.out, Below.refl _ _, Nat.le_refl _⟩
  case round =>
    obtain ⟨k, hk, rfl, hJs, hnx, hzr⟩ := hrel
    have HJS := hide hJs
    have HX := hide hnx
    have HPW := hide (HPS.out.below (HW.out.trans hnx))
    clear hJs hnx
    by_cases hlt : k < L.length
    · have d0 := HPW.out.k0
      have d1 := HPW.out.k1
      have d2 := HPW.out.k2
      have d3 := HPW.out.k3
      have e0 := World.ownsRow.cellAt HPW.out.row k (by omega)
      rw [List.getElem?_map, tg_get hlt, Option.map_some] at e0
      have IB := fun (u : World) => isForced_i (tg L k) (KOk.of (HALL.out k hlt)) u
      obtain ⟨pt, py, hpv⟩ := part_iface (tg L k)
      rw [hpv] at e0 IB
      have AT := fun (h : mayE L k = true) => brTo_at (L := L) (i := k) (m := L.length) hlt h
      have YES := hide (fun (h : mayE L k = true) => show (brTo L (k + 1)).length = (brTo L k).length + 1 by rw [brTo_yes h]; simp)
      have NO := hide (fun (h : mayE L k = false) => show (brTo L (k + 1)).length = (brTo L k).length by rw [brTo_no h])
      have PL := hide (fun (h : mayE L k = true) => show (brTo L k).length < nbB L ∧ plB L (brTo L k).length = ((k : Int), isF (tg L k)) from ⟨(AT h).1, by unfold plB; rw [(AT h).2]; rfl⟩)
      rw [show (decide ((tg L k).k = 3 ∧ (tg L k).p = -1000)) = isF (tg L k) from rfl] at IB
      obtain ⟨ff, hff⟩ : ∃ f, f = isF (tg L k) := ⟨_, rfl⟩
      rw [← hff] at IB PL
      have ME := fun (u : World) (hu : u.ownsRow B 132 1 (.slice (some ⟨g, 0, none⟩) L.length c1) L.length (L.map part)) (x1 x2 x3 : Value) => mayEndAt_i u x1 x2 x3 L HALL.out hl60 hu hlt
      obtain ⟨fb, hfb⟩ : ∃ fb, fb = mayE L k := ⟨_, rfl⟩
      rw [← hfb] at ME YES NO PL
      have HME := hide ME
      have HIB := hide IB
      clear IB ME hpv hff hfb AT
      cases fb
      · have N1 := hide (NO.out rfl)
        clear YES NO PL
        gi_wp2_with (refine ⟨trivial, ?_⟩; gi_at_call 106; (with_reducible refine (callsIn_wide.2 (HME.out _ HPW.out.row _ _ _)).mono ?_); rintro e u4 ⟨rfl, hb⟩; have HB4 := hide hb; clear hb)
        refine ⟨trivial, ?_⟩
        gi_wp2
        refine ⟨fun f h => (by cases h), ?_⟩; gi_wp2
        go_roundw
        case rel => exact ⟨k + 1, by omega, by go_num, by rw [N1.out]; exact HJ.out _ _ _ none HJS.out (grown_none HB4.out) (fun r h => by cases h), HX.out.trans (HB4.out.mono (Nat.le_trans hzW hzr)), Nat.le_trans hzr HB4.out.size⟩
        case measure => simp [intOf]; omega
      · have N1 := hide (YES.out rfl)
        obtain ⟨p1, p2⟩ := PL.out rfl
        have P2 := hide p2
        clear YES NO PL p2
        gi_wp2_with (first | (refine ⟨trivial, ?_⟩; gi_at_call 106; (with_reducible refine (callsIn_wide.2 (HME.out _ HPW.out.row _ _ _)).mono ?_); rintro e u4 ⟨rfl, hb⟩; have HB4 := hide hb; clear hb) | (refine ⟨trivial, ?_⟩; gi_at_call 108; (with_reducible refine (callsIn_wide.2 (HIB.out _)).mono ?_); rintro e u5 ⟨rfl, hb⟩; have HB5 := hide (bl_call hb HB4.out); clear hb; obtain ⟨fn, tmps, assign, body, hy, hR⟩ := HYY.out _ u5 p1 (HJ.out _ _ _ none HJS.out (grown_none HB5.out) (fun r h => by cases h)); dsimp only [encW] at hy; rw [P2.out] at hy; (try dsimp only at hy); have HR := hide hR; clear hR))
        refine HR.out.mono ?_
        rintro e W3 ⟨rfl, hJ3, hk3⟩
        gi_wp2
        go_roundw
        case rel => exact ⟨k + 1, by omega, by go_num, by rw [N1.out]; exact hJ3, (HX.out.trans (HB5.out.mono (Nat.le_trans hzW hzr))).trans hk3, Nat.le_trans hzr (Nat.le_trans HB5.out.size hk3.size)⟩
        case measure => simp [intOf]; omega
    · obtain rfl : k = L.length := by omega
      gi_wp2
      go_end0
      exact ⟨⟨_, rfl⟩, HJS.out⟩
end Go.Proofs.Ytafddofajfcffaa

/- Breaks that are chosen one after the other, in the program: FirstFit. -/
namespace Go.Proofs.Ytafddofajfcffaa
open Go.ChangeShapes Go.WideShapes Go.ChangeAt Go.RowKit Go.Shelf
set_option linter.unusedVariables false
set_option linter.unusedSimpArgs false
attribute [local go_sem] Oper.semAt_some

theorem own_blk {w w' : World} {B n size : Nat} {e : TypeId} {v : Value} {xs : List Value} (h : w.ownsRow B e size v n xs) (hk : ∀ k, v.ownBlock = some k → w'.heap[k]? = w.heap[k]?) : w'.ownsRow B e size v n xs := by
  refine ⟨h.1, ?_⟩
  rcases h.2 with h0 | ⟨g, cap, cur, h1, h2, h3, h4⟩
  · exact .inl h0
  · refine .inr ⟨g, cap, cur, h1, h2, ?_, h4⟩
    rw [hk g (by rw [h1]; rfl)]
    exact h3
/-- The blocks of a measured paragraph. -/
theorem PS.blocks {u : World} {B gp g c1 gs gf gb : Nat} {L : List It} (h : PS u B gp g c1 gs gf gb L) : gp < u.heap.size ∧ (B ≤ g ∧ g < u.heap.size) ∧ (B ≤ gs ∧ gs < u.heap.size) ∧ (B ≤ gf ∧ gf < u.heap.size) ∧ (B ≤ gb ∧ gb < u.heap.size) :=
  ⟨World.block_lt_of_cell? u _ h.k0, World.ownsRow.lt h.row g rfl, World.ownsRow.lt h.pr.1 gs rfl, World.ownsRow.lt h.pr.2.1 gf rfl, World.ownsRow.lt h.pr.2.2 gb rfl⟩
theorem PS.kb {u u' : World} {B gp g c1 gs gf gb n₁ bx : Nat} {L : List It} (h : PS u B gp g c1 gs gf gb L) (hk : KB n₁ bx u u') (hp : gp < n₁ ∧ gp ≠ bx) (hg : g < n₁ ∧ g ≠ bx) (hs : gs < n₁ ∧ gs ≠ bx) (hf : gf < n₁ ∧ gf ≠ bx) (hb : gb < n₁ ∧ gb ≠ bx) : PS u' B gp g c1 gs gf gb L := by
  have hc : ∀ j, u'.cell? ⟨gp, j, none⟩ = u.cell? ⟨gp, j, none⟩ := fun j => hk.cell (p := ⟨gp, j, none⟩) hp.1 hp.2
  have ho : ∀ {b : Nat} {cc m : Nat}, b < n₁ ∧ b ≠ bx → ∀ k, (Value.slice (some ⟨b, 0, none⟩) m cc).ownBlock = some k → u'.heap[k]? = u.heap[k]? := fun {b cc m} hb k e => by
    have e' : (Value.slice (some ⟨b, 0, none⟩) m cc).ownBlock = some b := rfl
    rw [e'] at e
    cases e
    exact hk.2 b hb.1 hb.2
  exact ⟨(hc 0).trans h.k0, (hc 1).trans h.k1, (hc 2).trans h.k2, (hc 3).trans h.k3, own_blk h.row (ho hg), own_blk h.pr.1 (ho hs), own_blk h.pr.2.1 (ho hf), own_blk h.pr.2.2 (ho hb)⟩
theorem KB.b {n₁ bx : Nat} {w : World} (hn : n₁ ≤ w.heap.size) (W : World) (l : Nat) (o o' : Obj) (hl : w.heap.size ≤ l) (h : W.heap[l]? = some o) (h2 : o.isCells = false) (h3 : o.isWalk = false) : KB n₁ bx W (W.putObj l o') :=
  KB.below (belowK_b hn W l o o' hl h h2 h3)
set_option maxRecDepth 8000 in
set_option maxHeartbeats 4000000 in
theorem firstFit_i (w : World) {B gp g c1 gs gf gb : Nat} (L : List It) (hps : PS w B gp g c1 gs gf gb L) (ok : isOk L = true) (d : Int) (hd : inB d 1 10000 = true) (p : Nat) (a : Int) (ha : a = (p : Int) - 1) (hp : p ≤ L.length) :
    Calls Try.prog 135 #[.agg #[.slice (some ⟨g, 0, none⟩) L.length c1, .slice (some ⟨gs, 0, none⟩) (L.length + 1) (L.length + 1), .slice (some ⟨gf, 0, none⟩) (L.length + 1) (L.length + 1), .slice (some ⟨gb, 0, none⟩) (L.length + 1) (L.length + 1)], .int .i64 a, .int .i64 d] w fun e w' => e = .returned (.int .i64 (ffN L d p)) ∧ Below w.heap.size w w' := by
  have HA := hide ha
  have ha1 : a ≤ (p : Int) - 1 := by omega
  have ha2 : (p : Int) - 1 ≤ a := by omega
  have wp : IntKind.i64.wrap (a + 1) = (p : Int) := by rw [show a + 1 = (p : Int) by omega]; exact IntWalk.i64_in _ (by have := (isOk_iff.1 ok).2.1; omega)
  have HPS := hide hps.copy
  have HB0 := hide (bl_alloc (bl_refl w) (.cells #[.slice (some ⟨g, 0, none⟩) L.length c1, .slice (some ⟨gs, 0, none⟩) (L.length + 1) (L.length + 1), .slice (some ⟨gf, 0, none⟩) (L.length + 1) (L.length + 1), .slice (some ⟨gb, 0, none⟩) (L.length + 1) (L.length + 1)] 92))
  have HK := isOk_iff.1 ok
  have HALL := hide HK.1
  have hl60 := HK.2.1
  have hl1000 : L.length ≤ 1000 := by omega
  have HD := hide hd
  obtain ⟨F, hF⟩ : ∃ F, F = ffN L d p := ⟨_, rfl⟩
  rw [← hF]
  unfold ffN at hF
  have HF := hide hF
  have wl1 : IntKind.i64.wrap ((L.length : Int) - 1) = (L.length : Int) - 1 := IntWalk.i64_in _ (by omega)
  clear hps ha HK hd hF ok
  go_enter Try.func135, Try.ntmps135
  go_wp2
  go_loopw [7, 8] (fun f i u => ∃ (m : Nat) (z t : Int), p + m ≤ L.length ∧ i = .int .i64 t ∧ t = ((p + m : Nat) : Int) ∧ f = .int .i64 z ∧ z = ffT L d p m ∧ Below w.heap.size w u ∧ PS u B w.heap.size g c1 gs gf gb L) (fun _ i _ => L.length - (intOf i).toNat)
  case atStart => exact ⟨0, -1, (p : Int), hp, rfl, rfl, rfl, rfl, HB0.out, HPS.out⟩
  case round =>
    obtain ⟨m, z, t, hm, rfl, ht, rfl, hz, hbl, hpw⟩ := hrel
    have HZ := hide hz
    have HB := hide hbl
    have HPW := hide hpw
    have IN := ffT_in (L := L) (d := d) (p := p) (m := m)
    rw [← hz] at IN
    have HT := hide ht
    have ht1 : (p : Int) ≤ t := by omega
    have ht2 : t ≤ (L.length : Int) := by omega
    have hz1 : -1 ≤ z := by rcases IN with e | ⟨q, e, _⟩ <;> omega
    clear hz hbl hpw HPS HB0
    have k0 := HPW.out.k0; have k1 := HPW.out.k1; have k2 := HPW.out.k2; have k3 := HPW.out.k3
    by_cases hlt : p + m < L.length
    · have htl : t ≤ (L.length : Int) - 1 := by omega
      have htl2 : t < (L.length : Int) := by omega
      have PH := fun (u : World) (hu : PS u B w.heap.size g c1 gs gf gb L) => hu.hasLine HALL.out hl60 a t (by omega) (by omega)
      have PF := fun (u : World) (hu : PS u B w.heap.size g c1 gs gf gb L) => fit_i u L hu HALL.out hl60 a t d (by omega) (by omega)
      have FY := hide (fun h h2 => ffT_yes (L := L) (d := d) (p := p) (m := m) h h2)
      have FN := hide (fun h => ffT_no (L := L) (d := d) (p := p) (m := m) h)
      have FS := hide (fun h h2 => ffT_stay (L := L) (d := d) (p := p) (m := m) h h2)
      rw [← HZ.out, ← HA.out, ← HT.out] at FY FN FS
      obtain ⟨hl, hhl⟩ : ∃ h, h = hasL L a t := ⟨_, rfl⟩
      obtain ⟨r1, hr1⟩ : ∃ h, h = (ftL L a t d).1 := ⟨_, rfl⟩
      obtain ⟨r2, hr2⟩ : ∃ h, h = (ftL L a t d).2 := ⟨_, rfl⟩
      rw [← hhl] at PH FY FN
      rw [← hr1] at FY FS PF
      rw [← hr2] at PF
      have HPH := hide PH
      have HPF := hide PF
      clear ht IN PH PF hhl hr1 hr2
      go_wp2_with fail; (with_reducible refine (last_i _ _ _ _ hl1000).mono ?_); rintro e u1 ⟨rfl, hb⟩; have HB1 := hide (bl_call hb HB.out); have HPW1 := hide (HPW.out.below hb); have k0 := keep_cell hb k0; have k1 := keep_cell hb k1; have k2 := keep_cell hb k2; have k3 := keep_cell hb k3; clear hb
      go_wp2_with fail
      (with_reducible refine (HPH.out _ HPW1.out).mono ?_)
      rintro e u2 ⟨rfl, hb⟩
      have HB2 := hide (bl_call hb HB1.out)
      have HPW2 := hide (HPW1.out.below hb)
      clear hb k0 k1 k2 k3
      have k0 := HPW2.out.k0
      have k1 := HPW2.out.k1
      have k2 := HPW2.out.k2
      have k3 := HPW2.out.k3
      cases hl
      · have N := hide (FN.out rfl)
        clear FY FN FS
        go_wp2
        go_roundw
        case rel => exact ⟨m + 1, z, t + 1, by omega, by go_num, by have := HT.out; omega, rfl, N.out.symm, HB2.out, HPW2.out⟩
        case measure => simp [intOf]; omega
      · have FY' := hide (FY.out rfl)
        clear FY FN
        go_wp2_with fail
        (with_reducible refine (HPF.out _ HPW2.out).mono ?_)
        rintro e u3 ⟨rfl, hb⟩
        have HB3 := hide (bl_call hb HB2.out)
        have HPW3 := hide (HPW2.out.below hb)
        clear hb k0 k1 k2 k3
        rcases (by omega : z < 0 ∨ 0 ≤ z ∧ r1 ≠ 4 ∨ 0 ≤ z ∧ r1 = 4) with q | ⟨q, q2⟩ | ⟨q, q2⟩
        · have N := hide (FY'.out (.inl q))
          clear FY' FS
          go_wp2
          go_roundw
          case rel => exact ⟨m + 1, t, t + 1, by omega, by go_num, by have := HT.out; omega, rfl, N.out.symm, HB3.out, HPW3.out⟩
          case measure => simp [intOf]; omega
        · have N := hide (FY'.out (.inr q2))
          have g1 : (r1 != 4) = true := bne_iff_ne.2 q2
          have g2 : ¬ z < 0 := by omega
          clear FY' FS q2
          go_wp2
          go_roundw
          case rel => exact ⟨m + 1, t, t + 1, by omega, by go_num, by have := HT.out; omega, rfl, N.out.symm, HB3.out, HPW3.out⟩
          case measure => simp [intOf]; omega
        · have N := hide (FS.out q q2)
          subst q2
          have g2 : ¬ z < 0 := by omega
          clear FY' FS
          go_wp2
          go_roundw
          case rel => exact ⟨m + 1, z, t + 1, by omega, by go_num, by have := HT.out; omega, rfl, N.out.symm, HB3.out, HPW3.out⟩
          case measure => simp [intOf]; omega
    · have hml : m = L.length - p := by omega
      have E := hide (show z = F by rw [HF.out, HZ.out, hml])
      have htl : ¬ t ≤ (L.length : Int) - 1 := by omega
      clear ht hml IN hlt
      go_wp2_with fail; (with_reducible refine (last_i _ _ _ _ hl1000).mono ?_); rintro e u1 ⟨rfl, hb⟩; have HB1 := hide (bl_call hb HB.out); have HPW1 := hide (HPW.out.below hb); have k0 := keep_cell hb k0; have k1 := keep_cell hb k1; have k2 := keep_cell hb k2; have k3 := keep_cell hb k3; clear hb
      go_wp2
      go_ret
      exact ⟨by rw [← E.out]; rfl, HB1.out⟩
noncomputable abbrev encF (L : List It) (d : Int) (k : Nat) : Array Value := #[.int .i64 (((fpS L d k : Nat) : Int) - 1), .int .i64 (((fpS L d (k + 1) : Nat) : Int) - 1)]
theorem firstLines_i (w : World) (v0 v1 v2 v3 : Value) (d : Int) :
    Calls Try.prog 91 #[.agg #[v0, v1, v2, v3], .int .i64 d] w fun e w' => e = .returned (.func (.func 134) #[] #[.pointer (some ⟨w.heap.size, 0, none⟩), .pointer (some ⟨w.heap.size + 1, 0, none⟩)]) ∧ (w.alloc (.cells #[v0, v1, v2, v3] 92)).alloc (.cells #[.int .i64 d] 3) = w' := by
  go_enter Try.func91, Try.ntmps91
  go_wp2
  go_ret
  exact ⟨rfl, rfl⟩
set_option maxRecDepth 100000 in
set_option maxHeartbeats 4000000 in
theorem firstLines_seq (w : World) {B gp bd g c1 gs gf gb : Nat} (L : List It) (hps : PS w B gp g c1 gs gf gb L) (ok : isOk L = true) (d : Int) (hd : inB d 1 10000 = true) (hbd : w.cell? ⟨bd, 0, none⟩ = some (.int .i64 d)) (bx : Nat) (hx1 : gp ≠ bx) (hx2 : g ≠ bx) (hx3 : gs ≠ bx) (hx4 : gf ≠ bx) (hx5 : gb ≠ bx) (hx6 : bd ≠ bx) :
    SeqN Fence.wide 4 Try.prog 134 #[.pointer (some ⟨gp, 0, none⟩), .pointer (some ⟨bd, 0, none⟩)] (encF L d) (KB w.heap.size bx) (nFF L d) w := fun l J W hW hJ hY h0 => by
  have hl60 := (isOk_iff.1 ok).2.1
  have hl1000 : L.length ≤ 1000 := by omega
  have wl1 : IntKind.i64.wrap ((L.length : Int) - 1) = (L.length : Int) - 1 := IntWalk.i64_in _ (by omega)
  have HPS := hide hps
  have PB := hide hps.blocks
  have hbl := World.block_lt_of_cell? w _ hbd
  have HJ := hide hJ
  have HYY := hide hY
  have HW := hide hW
  have HOK := hide ok
  have HDD := hide hd
  have HBD := hide hbd
  have hzW := hW.size
  have J0 := hide h0
  clear hps hJ hY hW h0 ok hd hbd
  refine callsIn_of_wp Try.func134 rfl trivial ?_ rfl
  simp only [Try.ntmps134, List.size_toArray, List.length_cons, List.length_nil, Nat.reduceAdd, Nat.reduceSub, Array.replicate_succ, Array.replicate_zero, List.push_toArray, List.append_toArray, List.nil_append, List.cons_append]
  gi_wp2
  gi_loopw [4] (fun i wr => ∃ (k : Nat) (f : Int), k ≤ nFF L d ∧ i = .int .i64 f ∧ f = ((fpS L d k : Nat) : Int) - 1 ∧ J k wr ∧ KB w.heap.size bx W wr ∧ W.heap.size ≤ wr.heap.size) (fun i _ => ((L.length : Int) - 1 - intOf i).toNat)
  case atStart => exact ⟨0, -1, Nat.zero_le _, rfl, rfl, J0.out, KB.refl _ _ _, Nat.le_refl _⟩
  case round =>
    obtain ⟨k, f, hk, rfl, hf, hJs, hnx, hzr⟩ := hrel
    have HJS := hide hJs
    have HX := hide hnx
    have HPW := hide ((HPS.out.below HW.out).kb hnx ⟨PB.out.1, hx1⟩ ⟨PB.out.2.1.2, hx2⟩ ⟨PB.out.2.2.1.2, hx3⟩ ⟨PB.out.2.2.2.1.2, hx4⟩ ⟨PB.out.2.2.2.2.2, hx5⟩)
    have kd : wr.cell? ⟨bd, 0, none⟩ = some (.int .i64 d) := (hnx.cell (p := ⟨bd, 0, none⟩) hbl hx6).trans (keep_cell HW.out HBD.out)
    have k0 := HPW.out.k0; have k1 := HPW.out.k1; have k2 := HPW.out.k2; have k3 := HPW.out.k3
    have FST := (fpS_step (d := d) HOK.out (k := k))
    have hf1 := FST.1.1
    clear hJs hnx
    by_cases hlt : k < nFF L d
    · have hfl := nFF_lt HOK.out hlt
      obtain ⟨q, q1, q2, q3, q4, q5⟩ := FST.2 hfl
      have HEN := hide (show encF L d k = #[.int .i64 f, .int .i64 q] by unfold encF; rw [← hf, q4, show (((q + 1 : Nat) : Int)) - 1 = (q : Int) by omega])
      have HFF := hide (fun (u : World) (hu : PS u B gp g c1 gs gf gb L) => firstFit_i u L hu HOK.out d HDD.out (fpS L d k) f hf hf1)
      rw [q1] at HFF
      have NX := hide (show (q : Int) = ((fpS L d (k + 1) : Nat) : Int) - 1 by rw [q4]; omega)
      have hfa : f < (L.length : Int) - 1 := by omega
      have hfq : f < (q : Int) := by omega
      have hql : (q : Int) < (L.length : Int) := by omega
      have hkn : k < nFF L d := hlt
      clear FST hf1 hfl q1 q2 q4 q5 hf hlt
      gi_wp2_with (first | (refine ⟨trivial, ?_⟩; gi_at_call 120; (with_reducible refine (callsIn_wide.2 (last_i _ _ _ _ hl1000)).mono ?_); rintro e u1 ⟨rfl, hb⟩; have HB1 := hide hb; have HPW1 := hide (HPW.out.below hb); have k0 := keep_cell hb k0; have k1 := keep_cell hb k1; have k2 := keep_cell hb k2; have k3 := keep_cell hb k3; have kd := keep_cell hb kd; clear hb) | (refine ⟨trivial, ?_⟩; gi_at_call 135; (with_reducible refine (callsIn_wide.2 (HFF.out _ HPW1.out)).mono ?_); rintro e u2 ⟨rfl, hb⟩; have HB2 := hide (bl_call hb HB1.out); clear hb; obtain ⟨fn, tmps, assign, body, hy, hR⟩ := HYY.out _ u2 hkn (HJ.out _ _ _ none HJS.out (grown_none HB2.out) (fun r h => by cases h)); rw [HEN.out] at hy; (try dsimp only at hy); have HR := hide hR; clear hR))
      refine HR.out.mono ?_
      rintro e W3 ⟨rfl, hJ3, hk3⟩
      gi_wp2
      go_roundw
      case rel => exact ⟨k + 1, q, by omega, by go_num, NX.out, hJ3, (HX.out.trans (KB.below (HB2.out.mono (Nat.le_trans hzW hzr)))).trans hk3, Nat.le_trans hzr (Nat.le_trans HB2.out.size hk3.1)⟩
      case measure => simp [intOf]; omega
    · have hkn : k = nFF L d := by omega
      have he := nFF_end (d := d) HOK.out
      have hfa : ¬ f < (L.length : Int) - 1 := by rw [hf, hkn, he]; omega
      have HKN := hide hkn
      clear FST hf1 hf hlt he hkn
      gi_wp2_with (refine ⟨trivial, ?_⟩; gi_at_call 120; (with_reducible refine (callsIn_wide.2 (last_i _ _ _ _ hl1000)).mono ?_); rintro e u1 ⟨rfl, hb⟩; have HB1 := hide hb; have HPW1 := hide (HPW.out.below hb); have k0 := keep_cell hb k0; have k1 := keep_cell hb k1; have k2 := keep_cell hb k2; have k3 := keep_cell hb k3; have kd := keep_cell hb kd; clear hb)
      go_end0
      exact ⟨⟨_, rfl⟩, by rw [← HKN.out]; exact HJ.out _ _ _ none HJS.out (grown_none HB1.out) (fun r h => by cases h)⟩
set_option maxRecDepth 100000 in
set_option maxHeartbeats 4000000 in
theorem FirstFit_i (w : World) (A : Option Addr) (n c : Nat) (L : List It) (d : Int) (h : TL w A n L) (hn : n ≤ 1048576) :
    Calls Try.prog 45 #[.slice A n c, .int .i64 d] w (RetL w (ffO L d)) := by
  have ME := hide (measure_i w A n c L h (by omega))
  obtain rfl : n = L.length := h.1
  clear h
  cases hok : isOk L
  · have O := hide (ffO_no (L := L) (d := d) (by rw [hok]; rfl))
    rw [hok] at ME
    clear hok
    go_enter Try.func45, Try.ntmps45
    go_wp2_with fail
    (with_reducible refine ME.out.mono ?_)
    rintro e u1 ⟨v, rfl, hv, hv0, hb⟩
    obtain rfl := hv0 (by trivial)
    have HB1 := hide hb
    clear hv hv0 hb
    go_wp2
    go_ret
    exact ⟨none, 0, by rw [O.out]; rfl, by rw [O.out]; exact OL.nil _ _ _, bl_alloc HB1.out _⟩
  cases q1 : inB d 1 10000
  · have O := hide (ffO_no (L := L) (d := d) (by rw [q1]; simp))
    rw [hok] at ME
    clear hok
    go_enter Try.func45, Try.ntmps45
    go_wp2_with fail
    (with_reducible refine ME.out.mono ?_)
    rintro e u1 ⟨v, rfl, hv, hv0, hb⟩
    have HB1 := hide hb
    obtain ⟨g, c1, gs, gf, gb, rfl, hrow, hpr⟩ := hv (by trivial)
    clear hv hv0 hb hrow hpr
    go_wp2_with (go_at_call 73; refine (validWidth_ii _ _).mono ?_; rintro e w' ⟨rfl, rfl⟩)
    go_ret
    exact ⟨none, 0, by rw [O.out]; rfl, by rw [O.out]; exact OL.nil _ _ _, bl_alloc HB1.out _⟩
  have O := hide (ffO_yes (L := L) (d := d) (by rw [hok, q1]; rfl))
  have HOK := hide hok
  have HQ1 := hide q1
  have hl60 := (isOk_iff.1 hok).2.1
  rw [hok] at ME
  rw [O.out]
  obtain ⟨i0, hi0, jz0, jz1, jz2⟩ := info_parts int_info
  clear hok O
  refine (callsIn_wide (n := 5)).1 ?_
  refine callsIn_of_wp_marks Try.func45 rfl trivial ?_ rfl
  simp only [Try.ntmps45, List.size_toArray, List.length_cons, List.length_nil, Nat.reduceAdd, Nat.reduceSub, Array.replicate_succ, Array.replicate_zero, List.push_toArray, List.append_toArray, List.nil_append, List.cons_append]
  gi_wp2_with (first | (refine ⟨trivial, ?_⟩; gi_at_call 72; (with_reducible refine (callsIn_wide.2 ME.out).mono ?_); rintro e u1 ⟨v, rfl, hv, hv0, hb⟩; obtain ⟨g, c1, gs, gf, gb, rfl, hrow, hpr⟩ := hv (by trivial); have HBK := hide (show g < u1.heap.size ∧ gs < u1.heap.size ∧ gf < u1.heap.size ∧ gb < u1.heap.size from ⟨(World.ownsRow.lt hrow g rfl).2, (World.ownsRow.lt hpr.1 gs rfl).2, (World.ownsRow.lt hpr.2.1 gf rfl).2, (World.ownsRow.lt hpr.2.2 gb rfl).2⟩); have HPS := hide (ps_made hrow hpr); have HB1 := hide (bl_alloc hb (.cells #[.slice (some ⟨g, 0, none⟩) L.length c1, .slice (some ⟨gs, 0, none⟩) (L.length + 1) (L.length + 1), .slice (some ⟨gf, 0, none⟩) (L.length + 1) (L.length + 1), .slice (some ⟨gb, 0, none⟩) (L.length + 1) (L.length + 1)] 92)); clear hv hv0 hb hrow hpr; have k0 := HPS.out.k0; have k1 := HPS.out.k1; have k2 := HPS.out.k2; have k3 := HPS.out.k3) | (refine ⟨trivial, ?_⟩; gi_at_call 73; (with_reducible refine (callsIn_wide.2 (validWidth_ii _ _)).mono ?_); rintro e w' ⟨rfl, rfl⟩) | (refine ⟨trivial, ?_⟩; gi_at_call 91; (with_reducible refine (callsIn_wide.2 (firstLines_i _ _ _ _ _ _)).mono ?_); rintro e w' ⟨rfl, rfl⟩))
  have c7 : ((((u1.alloc (.cells #[.slice (some ⟨g, 0, none⟩) L.length c1, .slice (some ⟨gs, 0, none⟩) (L.length + 1) (L.length + 1), .slice (some ⟨gf, 0, none⟩) (L.length + 1) (L.length + 1), .slice (some ⟨gb, 0, none⟩) (L.length + 1) (L.length + 1)] 92)).alloc (.cells #[.slice none 0 0] 24)).alloc (.cells #[.slice (some ⟨g, 0, none⟩) L.length c1, .slice (some ⟨gs, 0, none⟩) (L.length + 1) (L.length + 1), .slice (some ⟨gf, 0, none⟩) (L.length + 1) (L.length + 1), .slice (some ⟨gb, 0, none⟩) (L.length + 1) (L.length + 1)] 92)).alloc (.cells #[.int .i64 d] 3)).cell? ⟨u1.heap.size + 1, 0, none⟩ = some (.slice none 0 0) := by simp [go_sem]
  have f7 : ((((u1.alloc (.cells #[.slice (some ⟨g, 0, none⟩) L.length c1, .slice (some ⟨gs, 0, none⟩) (L.length + 1) (L.length + 1), .slice (some ⟨gf, 0, none⟩) (L.length + 1) (L.length + 1), .slice (some ⟨gb, 0, none⟩) (L.length + 1) (L.length + 1)] 92)).alloc (.cells #[.slice none 0 0] 24)).alloc (.cells #[.slice (some ⟨g, 0, none⟩) L.length c1, .slice (some ⟨gs, 0, none⟩) (L.length + 1) (L.length + 1), .slice (some ⟨gf, 0, none⟩) (L.length + 1) (L.length + 1), .slice (some ⟨gb, 0, none⟩) (L.length + 1) (L.length + 1)] 92)).alloc (.cells #[.int .i64 d] 3)).frozen? ⟨u1.heap.size + 1, 0, none⟩ = false := by simp [go_sem]
  have cd : ((((u1.alloc (.cells #[.slice (some ⟨g, 0, none⟩) L.length c1, .slice (some ⟨gs, 0, none⟩) (L.length + 1) (L.length + 1), .slice (some ⟨gf, 0, none⟩) (L.length + 1) (L.length + 1), .slice (some ⟨gb, 0, none⟩) (L.length + 1) (L.length + 1)] 92)).alloc (.cells #[.slice none 0 0] 24)).alloc (.cells #[.slice (some ⟨g, 0, none⟩) L.length c1, .slice (some ⟨gs, 0, none⟩) (L.length + 1) (L.length + 1), .slice (some ⟨gf, 0, none⟩) (L.length + 1) (L.length + 1), .slice (some ⟨gb, 0, none⟩) (L.length + 1) (L.length + 1)] 92)).alloc (.cells #[.int .i64 d] 3)).cell? ⟨u1.heap.size + 1 + 1 + 1, 0, none⟩ = some (.int .i64 d) := by simp [go_sem]
  have hz0 : ((((u1.alloc (.cells #[.slice (some ⟨g, 0, none⟩) L.length c1, .slice (some ⟨gs, 0, none⟩) (L.length + 1) (L.length + 1), .slice (some ⟨gf, 0, none⟩) (L.length + 1) (L.length + 1), .slice (some ⟨gb, 0, none⟩) (L.length + 1) (L.length + 1)] 92)).alloc (.cells #[.slice none 0 0] 24)).alloc (.cells #[.slice (some ⟨g, 0, none⟩) L.length c1, .slice (some ⟨gs, 0, none⟩) (L.length + 1) (L.length + 1), .slice (some ⟨gf, 0, none⟩) (L.length + 1) (L.length + 1), .slice (some ⟨gb, 0, none⟩) (L.length + 1) (L.length + 1)] 92)).alloc (.cells #[.int .i64 d] 3)).heap.size = u1.heap.size + 4 := by simp
  have HP3 := hide (show PS ((((u1.alloc (.cells #[.slice (some ⟨g, 0, none⟩) L.length c1, .slice (some ⟨gs, 0, none⟩) (L.length + 1) (L.length + 1), .slice (some ⟨gf, 0, none⟩) (L.length + 1) (L.length + 1), .slice (some ⟨gb, 0, none⟩) (L.length + 1) (L.length + 1)] 92)).alloc (.cells #[.slice none 0 0] 24)).alloc (.cells #[.slice (some ⟨g, 0, none⟩) L.length c1, .slice (some ⟨gs, 0, none⟩) (L.length + 1) (L.length + 1), .slice (some ⟨gf, 0, none⟩) (L.length + 1) (L.length + 1), .slice (some ⟨gb, 0, none⟩) (L.length + 1) (L.length + 1)] 92)).alloc (.cells #[.int .i64 d] 3)) w.heap.size (u1.heap.size + 1 + 1) g c1 gs gf gb L from by
    have h5 := (HPS.out.below (bl_alloc (bl_refl _) (.cells #[.slice none 0 0] 24))).copy
    rw [show ((u1.alloc (.cells #[.slice (some ⟨g, 0, none⟩) L.length c1, .slice (some ⟨gs, 0, none⟩) (L.length + 1) (L.length + 1), .slice (some ⟨gf, 0, none⟩) (L.length + 1) (L.length + 1), .slice (some ⟨gb, 0, none⟩) (L.length + 1) (L.length + 1)] 92)).alloc (.cells #[.slice none 0 0] 24)).heap.size = u1.heap.size + 1 + 1 by simp] at h5
    exact h5.below (bl_alloc (bl_refl _) _))
  have PBL := hide (show (g < u1.heap.size ∧ gs < u1.heap.size ∧ gf < u1.heap.size ∧ gb < u1.heap.size) from HBK.out)
  have hB0 : Below w.heap.size w ((((u1.alloc (.cells #[.slice (some ⟨g, 0, none⟩) L.length c1, .slice (some ⟨gs, 0, none⟩) (L.length + 1) (L.length + 1), .slice (some ⟨gf, 0, none⟩) (L.length + 1) (L.length + 1), .slice (some ⟨gb, 0, none⟩) (L.length + 1) (L.length + 1)] 92)).alloc (.cells #[.slice none 0 0] 24)).alloc (.cells #[.slice (some ⟨g, 0, none⟩) L.length c1, .slice (some ⟨gs, 0, none⟩) (L.length + 1) (L.length + 1), .slice (some ⟨gf, 0, none⟩) (L.length + 1) (L.length + 1), .slice (some ⟨gb, 0, none⟩) (L.length + 1) (L.length + 1)] 92)).alloc (.cells #[.int .i64 d] 3)) := bl_alloc (bl_alloc (bl_alloc HB1.out _) _) _
  have hu1 : w.heap.size ≤ u1.heap.size + 1 := by have := HB1.out.size; simp at this; omega
  obtain ⟨W0, hW0⟩ : ∃ W0, W0 = ((((u1.alloc (.cells #[.slice (some ⟨g, 0, none⟩) L.length c1, .slice (some ⟨gs, 0, none⟩) (L.length + 1) (L.length + 1), .slice (some ⟨gf, 0, none⟩) (L.length + 1) (L.length + 1), .slice (some ⟨gb, 0, none⟩) (L.length + 1) (L.length + 1)] 92)).alloc (.cells #[.slice none 0 0] 24)).alloc (.cells #[.slice (some ⟨g, 0, none⟩) L.length c1, .slice (some ⟨gs, 0, none⟩) (L.length + 1) (L.length + 1), .slice (some ⟨gf, 0, none⟩) (L.length + 1) (L.length + 1), .slice (some ⟨gb, 0, none⟩) (L.length + 1) (L.length + 1)] 92)).alloc (.cells #[.int .i64 d] 3)) := ⟨_, rfl⟩
  rw [← hW0] at c7 f7 cd hz0 HP3 hB0 ⊢
  clear hW0 k0 k1 k2 k3 HPS HB1 ME
  refine range_seq (F := Fence.wide) (n := 5) rfl (by decide) (gf := 134) (lb := #[.pointer (some ⟨u1.heap.size + 1 + 1, 0, none⟩), .pointer (some ⟨u1.heap.size + 1 + 1 + 1, 0, none⟩)]) rfl trivial (enters_of Try.func134 (by kernel_rfl) rfl)
    (firstLines_seq W0 L HP3.out HOK.out d HQ1.out cd (u1.heap.size + 1) (by omega) (by have := PBL.out; omega) (by have := PBL.out; omega) (by have := PBL.out; omega) (by have := PBL.out; omega) (by omega)) (fun h k => KB.trans h k) (KB.b (Nat.le_refl _)) (Below.refl _ _) (fun _ => rfl)
    (fun k W => (∃ A' cc, W.cell? ⟨u1.heap.size + 1, 0, none⟩ = some (.slice A' k cc) ∧ W.frozen? ⟨u1.heap.size + 1, 0, none⟩ = false ∧ OL W 3 W0.heap.size A' cc (ffA L d k) ∧ W0.heap.size ≤ W.heap.size) ∧ Below w.heap.size w W)
    (OwnFrom.and (Own.from (fun s' A' B' row hs hg hr => by
      obtain ⟨A2, c2, h1, h2, h3, h4⟩ := hs
      exact ⟨A2, c2, cell_kept h1 hg hr, (frozen_kept h1 hg hr).trans h2, h3.keptN hg hr, Nat.le_trans h4 hg.size⟩) _) (ownFrom_below (Nat.le_refl _) (by omega)))
    ⟨⟨none, 0, c7, f7, OL.nil _ _ _, Nat.le_refl _⟩, hB0⟩
    (fun k => { tmps := #[.slice A L.length c, .int .i64 d, undef, undef, .slice none 0 0, .pointer (some ⟨u1.heap.size, 0, none⟩), .bool true, .pointer (some ⟨u1.heap.size + 1, 0, none⟩), undef, .int .i64 (((fpS L d (k + 1) : Nat) : Int) - 1), .tuple #[.agg #[.slice (some ⟨g, 0, none⟩) L.length c1, .slice (some ⟨gs, 0, none⟩) (L.length + 1) (L.length + 1), .slice (some ⟨gf, 0, none⟩) (L.length + 1) (L.length + 1), .slice (some ⟨gb, 0, none⟩) (L.length + 1) (L.length + 1)], .bool true], .slice A L.length c, .tuple #[.agg #[.slice (some ⟨g, 0, none⟩) L.length c1, .slice (some ⟨gs, 0, none⟩) (L.length + 1) (L.length + 1), .slice (some ⟨gf, 0, none⟩) (L.length + 1) (L.length + 1), .slice (some ⟨gb, 0, none⟩) (L.length + 1) (L.length + 1)], .bool true], .agg #[.slice (some ⟨g, 0, none⟩) L.length c1, .slice (some ⟨gs, 0, none⟩) (L.length + 1) (L.length + 1), .slice (some ⟨gf, 0, none⟩) (L.length + 1) (L.length + 1), .slice (some ⟨gb, 0, none⟩) (L.length + 1) (L.length + 1)], .bool true, .bool true, .bool false, .bool false, .int .i64 d, .bool true, .bool false, .bool false, .agg #[.slice (some ⟨g, 0, none⟩) L.length c1, .slice (some ⟨gs, 0, none⟩) (L.length + 1) (L.length + 1), .slice (some ⟨gf, 0, none⟩) (L.length + 1) (L.length + 1), .slice (some ⟨gb, 0, none⟩) (L.length + 1) (L.length + 1)], .int .i64 d, .func (.func 134) #[] #[.pointer (some ⟨u1.heap.size + 1 + 1, 0, none⟩), .pointer (some ⟨u1.heap.size + 1 + 1 + 1, 0, none⟩)], .int .i64 (((fpS L d k : Nat) : Int) - 1), .int .i64 (((fpS L d (k + 1) : Nat) : Int) - 1), undef, undef, undef, undef, undef], defers := [] }) ?assign ?body ?done
  case assign =>
    intro lp k W K hk hK
    gi_wp2
    exact hK
  case body =>
    rintro lp k W hk ⟨⟨A2, cc, c7, f7, hol, hzW⟩, hB⟩
    have hd : (1 : Nat) ≤ 5 - 1 - 1 := by decide
    have hkl := nFF_le (L := L) (d := d)
    have hkl2 : k ≤ 1000 := by omega
    have hl := hide (ffA_len (L := L) (d := d) (k := k)).symm
    have SN := hide (show ffA L d (k + 1) = ffA L d k ++ [((fpS L d (k + 1) : Nat) : Int) - 1] from rfl)
    obtain ⟨y, hy⟩ : ∃ y, y = ((fpS L d (k + 1) : Nat) : Int) - 1 := ⟨_, rfl⟩
    rw [← hy] at SN ⊢
    obtain ⟨x, hx⟩ : ∃ y, y = ((fpS L d k : Nat) : Int) - 1 := ⟨_, rfl⟩
    rw [← hx]
    have hf7 := ((bcell (bl_alloc (bl_refl W) (.cells #[.int .i64 y] 3))).2 (u1.heap.size + 1) 0 (by omega)).trans f7
    have HOL := hide hol
    clear hy hx hol
    gi_wp2_with (gi_at_builtin; go_loud (refine wpListIn_append_int rfl (.tmp 27) (.tmp 29) _ rfl 3 i0 Try.underlying24 hi0 jz0 jz1 jz2 W0.heap.size A2 cc k (ffA L d k) rfl hl.out (HOL.out.alloc _) W.heap.size y rfl (by simp) (by omega) (by simp; omega) ?_); intro A' c' w' hol' hb' hg'; have bg := box_grown (HOL.out.alloc _) hl.out hg' (show u1.heap.size + 1 < W0.heap.size by omega) (keep_alloc c7 _); have c7' := bg.1; have f7' := bg.2.trans hf7)
    have hgg : (W.alloc (.cells #[.int .i64 y] 3)).grownBy w' (Value.slice A2 (ffA L d k).length cc).ownBlock := by rw [← hl.out]; exact hg'
    have hzz := hg'.size
    simp at hzz
    have hBW : Below w.heap.size w w' := (bl_alloc hB _).trans (hb'.mono (by omega))
    exact ⟨(((ko_alloc (ko_refl W) _).trans (ko_grownL (HOL.out.alloc _) hgg)).trans (KeepsOthers.setCell _ _ _)).from _, ((KB.below ((Below.refl W0.heap.size W).alloc hzW _)).trans (KB.below hb')).set 0 _, ⟨A', c', World.cell?_setCell_same' _ _ _ (by rw [c7']; rfl), by rw [World.frozen?_setCell]; exact f7', by rw [SN.out]; exact hol'.box (by omega) _, by simp; omega⟩, bl_set hBW (show w.heap.size ≤ u1.heap.size + 1 by omega) _⟩
  case done =>
    rintro D W hD ⟨⟨A2, cc, c7, f7, hol, hzW⟩, hB⟩ hK
    have hl := hide (ffA_len (L := L) (d := d) (k := nFF L d)).symm
    obtain ⟨N, hN⟩ : ∃ N, N = nFF L d := ⟨_, rfl⟩
    rw [← hN] at c7 hol hl ⊢
    have HN := hide hN
    clear hN
    gi_wp2
    refine ⟨by simp, .inl ⟨_, _, rfl, run_takeDeferred hK, ?_⟩⟩
    have hol' : OL _ 3 W0.heap.size A2 cc (ffA L d N) := hol.keptN (grownBy_putObj' W D (.deferred none)) (fun r e => by cases e; exact ⟨_, hK, rfl⟩)
    refine ⟨.slice A2 N cc, by simp [results, Try.results45, go_sem], ?_⟩
    rw [← HN.out]
    exact ⟨A2, cc, by rw [← hl.out], hol'.more (B' := w.heap.size) (by omega), hB.trans (belowK_b (n₀ := w.heap.size) (w := W0) (by omega) _ D _ _ hD hK rfl rfl)⟩
end Go.Proofs.Ytafddofajfcffaa

/- The overfull lines, in the program. -/
namespace Go.Proofs.Ytafddofajfcffaa
open Go.ChangeShapes Go.WideShapes Go.ChangeAt Go.RowKit Go.Shelf
set_option linter.unusedVariables false
set_option linter.unusedSimpArgs false
attribute [local go_sem] Oper.semAt_some

/-- The overfull ones among the first k lines. -/
noncomputable def ovN (L : List It) (d : Int) (E : List Int) : Nat → List Int
  | 0 => []
  | k + 1 => if (ftL L (frm (-1) E k) (ng E k) d).1 = 4 then ovN L d E k ++ [(k : Int)] else ovN L d E k
theorem ovN_len (L : List It) (d : Int) (E : List Int) : ∀ k, (ovN L d E k).length ≤ k
  | 0 => Nat.le_refl _
  | k + 1 => by
    have := ovN_len L d E k
    simp only [ovN]
    split
    · simp; omega
    · omega
theorem ovN_yes {L : List It} {d : Int} {E : List Int} {k : Nat} (h : (ftL L (frm (-1) E k) (ng E k) d).1 = 4) : ovN L d E (k + 1) = ovN L d E k ++ [(k : Int)] := by
  simp only [ovN]; rw [if_pos h]
theorem ovN_no {L : List It} {d : Int} {E : List Int} {k : Nat} (h : (ftL L (frm (-1) E k) (ng E k) d).1 ≠ 4) : ovN L d E (k + 1) = ovN L d E k := by
  simp only [ovN]; rw [if_neg h]
/-- What OverfullLines answers. -/
noncomputable def ovO (L : List It) (d : Int) (E : List Int) : List Int := if vbO L E && inB d 1 10000 then ovN L d E E.length else []
theorem ovO_no {L : List It} {d : Int} {E : List Int} (h : (vbO L E && inB d 1 10000) = false) : ovO L d E = [] := by simp [ovO, h]
theorem ovO_yes {L : List It} {d : Int} {E : List Int} (h : (vbO L E && inB d 1 10000) = true) : ovO L d E = ovN L d E E.length := by simp [ovO, h]
theorem piecesOf_o (w : World) (s : Int) (A : Option Addr) (n c : Nat) :
    Calls Try.prog 126 #[.int .i64 s, .slice A n c] w fun e w' => e = .returned (.func (.func 157) #[] #[.pointer (some ⟨w.heap.size, 0, none⟩), .pointer (some ⟨w.heap.size + 1, 0, none⟩)]) ∧ (w.alloc (.cells #[.int .i64 s] 3)).alloc (.cells #[.slice A n c] 24) = w' := by
  go_enter Try.func126, Try.ntmps126
  go_wp2
  go_ret
  exact ⟨rfl, rfl⟩
theorem linesOf_i (w : World) (A : Option Addr) (n c : Nat) :
    Calls Try.prog 79 #[.slice A n c] w fun e w' => e = .returned (.func (.func 157) #[] #[.pointer (some ⟨w.heap.size, 0, none⟩), .pointer (some ⟨w.heap.size + 1, 0, none⟩)]) ∧ (w.alloc (.cells #[.int .i64 (-1)] 3)).alloc (.cells #[.slice A n c] 24) = w' := by
  go_enter Try.func79, Try.ntmps79
  go_wp2_with fail
  (with_reducible refine (piecesOf_o _ _ _ _ _).mono ?_)
  rintro e w' ⟨rfl, rfl⟩
  go_wp2
  go_ret
  exact ⟨rfl, rfl⟩
set_option maxRecDepth 100000 in
set_option maxHeartbeats 4000000 in
theorem OverfullLines_i (w : World) (A B : Option Addr) (n c m c' : Nat) (L : List It) (E : List Int) (d : Int) (h : TL w A n L) (hn : n ≤ 1048576) (hE : IL w B m E) (hm : m ≤ 1048576) (hwf : okW E) :
    Calls Try.prog 43 #[.slice A n c, .int .i64 d, .slice B m c'] w (RetL w (ovO L d E)) := by
  have ME := hide (measure_i (w.alloc (.cells #[.int .i64 d] 3)) A n c L (h.alloc _) (by omega))
  have HB0 := hide (bl_alloc (bl_refl w) (.cells #[.int .i64 d] 3))
  have kd0 : (w.alloc (.cells #[.int .i64 d] 3)).cell? ⟨w.heap.size, 0, none⟩ = some (.int .i64 d) := by simp [go_sem]
  obtain rfl : n = L.length := h.1
  obtain rfl : m = E.length := hE.1
  have HE := hide hE
  have HDV := fun (hok : isOk L = true) => hide (fun (u : World) (B' gp g c1 gs gf gb : Nat) (hu : PS u B' gp g c1 gs gf gb L) (hb : Below w.heap.size w u) => divides_i u L hu (isOk_iff.1 hok).1 (isOk_iff.1 hok).2.1 B E.length c' E (hE.below hb) hm hwf)
  clear h hE
  cases hok : isOk L
  · have O := hide (ovO_no (L := L) (d := d) (E := E) (by rw [vbO_eq, cbV_no (by rw [hok]; rfl)]; rfl))
    rw [hok] at ME
    clear hok HDV
    go_enter Try.func43, Try.ntmps43
    go_wp2_with fail
    (with_reducible refine ME.out.mono ?_)
    rintro e u1 ⟨v, rfl, hv, hv0, hb⟩
    obtain rfl := hv0 (by trivial)
    have HB1 := hide (bl_call hb HB0.out)
    have kd := keep_cell hb kd0
    clear hv hv0 hb
    go_wp2
    go_ret
    exact ⟨none, 0, by rw [O.out]; rfl, by rw [O.out]; exact OL.nil _ _ _, bl_alloc HB1.out _⟩
  replace HDV := HDV hok
  cases q1 : inB d 1 10000
  · have O := hide (ovO_no (L := L) (d := d) (E := E) (by rw [q1]; simp))
    rw [hok] at ME
    clear hok
    go_enter Try.func43, Try.ntmps43
    go_wp2_with fail
    (with_reducible refine ME.out.mono ?_)
    rintro e u1 ⟨v, rfl, hv, hv0, hb⟩
    have HB1 := hide (bl_call hb HB0.out)
    obtain ⟨g, c1, gs, gf, gb, rfl, hrow, hpr⟩ := hv (by trivial)
    have kd := keep_alloc (keep_cell hb kd0) (.cells #[.slice (some ⟨g, 0, none⟩) L.length c1, .slice (some ⟨gs, 0, none⟩) (L.length + 1) (L.length + 1), .slice (some ⟨gf, 0, none⟩) (L.length + 1) (L.length + 1), .slice (some ⟨gb, 0, none⟩) (L.length + 1) (L.length + 1)] 92)
    clear hv hv0 hb hrow hpr
    go_wp2_with (go_at_call 73; refine (validWidth_ii _ _).mono ?_; rintro e w' ⟨rfl, rfl⟩)
    go_ret
    exact ⟨none, 0, by rw [O.out]; rfl, by rw [O.out]; exact OL.nil _ _ _, bl_alloc HB1.out _⟩
  have VE : vbO L E = (ptO L E (fun _ a b => (0, hasL L a b))).2 := by rw [vbO_eq, cbV_ok hok]
  rw [← VE] at HDV
  have HFI := hide (fun (u : World) (B' gp g c1 gs gf gb : Nat) (hu : PS u B' gp g c1 gs gf gb L) (x y : Int) (wx : -9223372036854775808 ≤ x ∧ x ≤ 9223372036854775807) (wy : -9223372036854775808 ≤ y ∧ y ≤ 9223372036854775807) => fit_i u L hu (isOk_iff.1 hok).1 (isOk_iff.1 hok).2.1 x y d wx wy)
  rw [hok] at ME
  cases q2 : vbO L E
  · have O := hide (ovO_no (L := L) (d := d) (E := E) (by rw [q2]; rfl))
    rw [q2] at HDV
    clear hok VE HFI
    go_enter Try.func43, Try.ntmps43
    go_wp2_with fail
    (with_reducible refine ME.out.mono ?_)
    rintro e u1 ⟨v, rfl, hv, hv0, hb⟩
    have HB1 := hide (bl_call hb HB0.out)
    obtain ⟨g, c1, gs, gf, gb, rfl, hrow, hpr⟩ := hv (by trivial)
    have kd := keep_alloc (keep_cell hb kd0) (.cells #[.slice (some ⟨g, 0, none⟩) L.length c1, .slice (some ⟨gs, 0, none⟩) (L.length + 1) (L.length + 1), .slice (some ⟨gf, 0, none⟩) (L.length + 1) (L.length + 1), .slice (some ⟨gb, 0, none⟩) (L.length + 1) (L.length + 1)] 92)
    have HPS := hide (ps_made hrow hpr)
    have HB1 := hide (bl_alloc HB1.out (.cells #[.slice (some ⟨g, 0, none⟩) L.length c1, .slice (some ⟨gs, 0, none⟩) (L.length + 1) (L.length + 1), .slice (some ⟨gf, 0, none⟩) (L.length + 1) (L.length + 1), .slice (some ⟨gb, 0, none⟩) (L.length + 1) (L.length + 1)] 92))
    clear hv hv0 hb hrow hpr
    have k0 := HPS.out.k0
    have k1 := HPS.out.k1
    have k2 := HPS.out.k2
    have k3 := HPS.out.k3
    go_wp2_with (go_at_call 73; refine (validWidth_ii _ _).mono ?_; rintro e w' ⟨rfl, rfl⟩)
    (with_reducible refine (HDV.out _ _ _ _ _ _ _ _ HPS.out HB1.out).mono ?_)
    rintro e u2 ⟨rfl, hb⟩
    have HB2 := hide (bl_call hb HB1.out)
    clear hb k0 k1 k2 k3
    go_wp2
    go_ret
    exact ⟨none, 0, by rw [O.out]; rfl, by rw [O.out]; exact OL.nil _ _ _, HB2.out⟩
  have O := hide (ovO_yes (L := L) (d := d) (E := E) (by rw [q1, q2]; rfl))
  rw [q2] at HDV
  rw [O.out]
  have HWF := hide hwf
  obtain ⟨i0, hi0, jz0, jz1, jz2⟩ := info_parts int_info
  clear hok O VE q2 hwf
  refine (callsIn_wide (n := 5)).1 ?_
  refine callsIn_of_wp_marks Try.func43 rfl trivial ?_ rfl
  simp only [Try.ntmps43, List.size_toArray, List.length_cons, List.length_nil, Nat.reduceAdd, Nat.reduceSub, Array.replicate_succ, Array.replicate_zero, List.push_toArray, List.append_toArray, List.nil_append, List.cons_append]
  gi_wp2_with (first | (refine ⟨trivial, ?_⟩; gi_at_call 72; (with_reducible refine (callsIn_wide.2 ME.out).mono ?_); rintro e u1 ⟨v, rfl, hv, hv0, hb⟩; obtain ⟨g, c1, gs, gf, gb, rfl, hrow, hpr⟩ := hv (by trivial); have HPS := hide (ps_made hrow hpr); have HB1 := hide (bl_alloc (bl_call hb HB0.out) (.cells #[.slice (some ⟨g, 0, none⟩) L.length c1, .slice (some ⟨gs, 0, none⟩) (L.length + 1) (L.length + 1), .slice (some ⟨gf, 0, none⟩) (L.length + 1) (L.length + 1), .slice (some ⟨gb, 0, none⟩) (L.length + 1) (L.length + 1)] 92)); have kd := keep_alloc (keep_cell hb kd0) (.cells #[.slice (some ⟨g, 0, none⟩) L.length c1, .slice (some ⟨gs, 0, none⟩) (L.length + 1) (L.length + 1), .slice (some ⟨gf, 0, none⟩) (L.length + 1) (L.length + 1), .slice (some ⟨gb, 0, none⟩) (L.length + 1) (L.length + 1)] 92); clear hv hv0 hb hrow hpr; have k0 := HPS.out.k0; have k1 := HPS.out.k1; have k2 := HPS.out.k2; have k3 := HPS.out.k3) | (refine ⟨trivial, ?_⟩; gi_at_call 73; (with_reducible refine (callsIn_wide.2 (validWidth_ii _ _)).mono ?_); rintro e w' ⟨rfl, rfl⟩) | (refine ⟨trivial, ?_⟩; gi_at_call 78; (with_reducible refine (callsIn_wide.2 (HDV.out _ _ _ _ _ _ _ _ HPS.out HB1.out)).mono ?_); rintro e u2 ⟨rfl, hb⟩; have HB2 := hide (bl_call hb HB1.out); have HPS2 := hide (HPS.out.below hb); have kd := keep_cell hb kd; clear hb k0 k1 k2 k3; have k0 := HPS2.out.k0; have k1 := HPS2.out.k1; have k2 := HPS2.out.k2; have k3 := HPS2.out.k3) | (refine ⟨trivial, ?_⟩; gi_at_call 79; (with_reducible refine (callsIn_wide.2 (linesOf_i _ _ _ _)).mono ?_); rintro e w' ⟨rfl, rfl⟩))
  have HEW := hide (HE.out.below (bl_alloc (bl_alloc (bl_alloc (bl_alloc HB2.out (.cells #[.slice none 0 0] 24)) (.cells #[.int .i64 0] 3)) (.cells #[.int .i64 (-1)] 3)) (.cells #[.slice B E.length c'] 24)))
  have c9 : ((((u2.alloc (.cells #[.slice none 0 0] 24)).alloc (.cells #[.int .i64 0] 3)).alloc (.cells #[.int .i64 (-1)] 3)).alloc (.cells #[.slice B E.length c'] 24)).cell? ⟨u2.heap.size, 0, none⟩ = some (.slice none 0 0) := by simp [go_sem]
  have f9 : ((((u2.alloc (.cells #[.slice none 0 0] 24)).alloc (.cells #[.int .i64 0] 3)).alloc (.cells #[.int .i64 (-1)] 3)).alloc (.cells #[.slice B E.length c'] 24)).frozen? ⟨u2.heap.size, 0, none⟩ = false := by simp [go_sem]
  have c10 : ((((u2.alloc (.cells #[.slice none 0 0] 24)).alloc (.cells #[.int .i64 0] 3)).alloc (.cells #[.int .i64 (-1)] 3)).alloc (.cells #[.slice B E.length c'] 24)).cell? ⟨u2.heap.size + 1, 0, none⟩ = some (.int .i64 0) := by simp [go_sem]
  have f10 : ((((u2.alloc (.cells #[.slice none 0 0] 24)).alloc (.cells #[.int .i64 0] 3)).alloc (.cells #[.int .i64 (-1)] 3)).alloc (.cells #[.slice B E.length c'] 24)).frozen? ⟨u2.heap.size + 1, 0, none⟩ = false := by simp [go_sem]
  have b1 : ((((u2.alloc (.cells #[.slice none 0 0] 24)).alloc (.cells #[.int .i64 0] 3)).alloc (.cells #[.int .i64 (-1)] 3)).alloc (.cells #[.slice B E.length c'] 24)).cell? ⟨u2.heap.size + 1 + 1, 0, none⟩ = some (.int .i64 (-1)) := by simp [go_sem]
  have b2 : ((((u2.alloc (.cells #[.slice none 0 0] 24)).alloc (.cells #[.int .i64 0] 3)).alloc (.cells #[.int .i64 (-1)] 3)).alloc (.cells #[.slice B E.length c'] 24)).cell? ⟨u2.heap.size + 1 + 1 + 1, 0, none⟩ = some (.slice B E.length c') := by simp [go_sem]
  have hz0 : ((((u2.alloc (.cells #[.slice none 0 0] 24)).alloc (.cells #[.int .i64 0] 3)).alloc (.cells #[.int .i64 (-1)] 3)).alloc (.cells #[.slice B E.length c'] 24)).heap.size = u2.heap.size + 4 := by simp
  have hBu : Below u2.heap.size u2 ((((u2.alloc (.cells #[.slice none 0 0] 24)).alloc (.cells #[.int .i64 0] 3)).alloc (.cells #[.int .i64 (-1)] 3)).alloc (.cells #[.slice B E.length c'] 24)) := bl_alloc (bl_alloc (bl_alloc (bl_alloc (bl_refl u2) _) _) _) _
  have hzw : w.heap.size ≤ u2.heap.size := HB2.out.size
  have hBB : Below w.heap.size w ((((u2.alloc (.cells #[.slice none 0 0] 24)).alloc (.cells #[.int .i64 0] 3)).alloc (.cells #[.int .i64 (-1)] 3)).alloc (.cells #[.slice B E.length c'] 24)) := bl_alloc (bl_alloc (bl_alloc (bl_alloc HB2.out _) _) _) _
  obtain ⟨W0, hW0⟩ : ∃ W0, W0 = ((((u2.alloc (.cells #[.slice none 0 0] 24)).alloc (.cells #[.int .i64 0] 3)).alloc (.cells #[.int .i64 (-1)] 3)).alloc (.cells #[.slice B E.length c'] 24)) := ⟨_, rfl⟩
  rw [← hW0] at HEW c9 f9 c10 f10 b1 b2 hz0 hBu hBB ⊢
  have HBU := hide hBu
  have HBB := hide hBB
  have KD := hide kd
  have LEN := hide (fun k => ovN_len L d E k)
  clear hW0 k0 k1 k2 k3 kd kd0 HPS HB1 ME hBu hBB HDV HB0
  refine range_seq (F := Fence.wide) (n := 5) rfl (by decide) (gf := 157) (lb := #[.pointer (some ⟨u2.heap.size + 1 + 1, 0, none⟩), .pointer (some ⟨u2.heap.size + 1 + 1 + 1, 0, none⟩)]) rfl trivial (enters_of Try.func157 (by kernel_rfl) rfl)
    (pieces_seq Fence.wide 4 trivial rfl (by decide) (u2.heap.size + 1 + 1) (u2.heap.size + 1 + 1 + 1) u2.heap.size (-1) B c' E (by omega) W0 (by omega) (by omega) (by omega) b1 b2 (fun j hj => by
      obtain ⟨b, o, e, hb, _⟩ := HE.out.at_ hj
      obtain ⟨b', o', e', _, hc⟩ := HEW.out.at_ hj
      rw [e] at e'
      injection e' with e'
      cases e'
      exact ⟨b, o, e, by omega, hc⟩)) (fun h k => h.trans k) (belowK_b (by omega)) (Below.refl _ _) (fun _ => rfl)
    (fun k W => ((∃ A' m cc, W.cell? ⟨u2.heap.size, 0, none⟩ = some (.slice A' m cc) ∧ W.frozen? ⟨u2.heap.size, 0, none⟩ = false ∧ OL W 3 W0.heap.size A' cc (ovN L d E k) ∧ m = (ovN L d E k).length ∧ W0.heap.size ≤ W.heap.size) ∧ W.cell? ⟨u2.heap.size + 1, 0, none⟩ = some (.int .i64 k) ∧ W.frozen? ⟨u2.heap.size + 1, 0, none⟩ = false) ∧ Below u2.heap.size W0 W)
    (OwnFrom.and (Own.from (fun s' A' B' row hs hg hr => by
      obtain ⟨⟨A2, m2, c2, h1, h2, h3, h4, h5⟩, h6, h7⟩ := hs
      exact ⟨⟨A2, m2, c2, cell_kept h1 hg hr, (frozen_kept h1 hg hr).trans h2, h3.keptN hg hr, h4, Nat.le_trans h5 hg.size⟩, cell_kept h6 hg hr, (frozen_kept h6 hg hr).trans h7⟩) _) (ownFrom_below (by omega) (by omega)))
    ⟨⟨⟨none, 0, 0, c9, f9, OL.nil _ _ _, rfl, Nat.le_refl _⟩, c10, f10⟩, Below.refl _ _⟩
    (fun k => { tmps := #[.slice A L.length c, .int .i64 d, .slice B E.length c', undef, .pointer (some ⟨w.heap.size, 0, none⟩), undef, .slice none 0 0, .pointer (some ⟨u1.heap.size, 0, none⟩), .bool true, .pointer (some ⟨u2.heap.size, 0, none⟩), .pointer (some ⟨u2.heap.size + 1, 0, none⟩), .int .i64 (frm (-1) E k), .int .i64 (ng E k), undef, undef, .tuple #[.agg #[.slice (some ⟨g, 0, none⟩) L.length c1, .slice (some ⟨gs, 0, none⟩) (L.length + 1) (L.length + 1), .slice (some ⟨gf, 0, none⟩) (L.length + 1) (L.length + 1), .slice (some ⟨gb, 0, none⟩) (L.length + 1) (L.length + 1)], .bool true], .slice A L.length c, .tuple #[.agg #[.slice (some ⟨g, 0, none⟩) L.length c1, .slice (some ⟨gs, 0, none⟩) (L.length + 1) (L.length + 1), .slice (some ⟨gf, 0, none⟩) (L.length + 1) (L.length + 1), .slice (some ⟨gb, 0, none⟩) (L.length + 1) (L.length + 1)], .bool true], .agg #[.slice (some ⟨g, 0, none⟩) L.length c1, .slice (some ⟨gs, 0, none⟩) (L.length + 1) (L.length + 1), .slice (some ⟨gf, 0, none⟩) (L.length + 1) (L.length + 1), .slice (some ⟨gb, 0, none⟩) (L.length + 1) (L.length + 1)], .bool true, .bool true, .bool false, .bool false, .int .i64 d, .bool true, .bool false, .bool false, .bool false, .agg #[.slice (some ⟨g, 0, none⟩) L.length c1, .slice (some ⟨gs, 0, none⟩) (L.length + 1) (L.length + 1), .slice (some ⟨gf, 0, none⟩) (L.length + 1) (L.length + 1), .slice (some ⟨gb, 0, none⟩) (L.length + 1) (L.length + 1)], .slice B E.length c', .bool true, .bool false, .bool false, .slice B E.length c', .func (.func 157) #[] #[.pointer (some ⟨u2.heap.size + 1 + 1, 0, none⟩), .pointer (some ⟨u2.heap.size + 1 + 1 + 1, 0, none⟩)], .int .i64 (frm (-1) E k), .int .i64 (ng E k), undef, undef, undef, undef, undef, undef, undef, undef, undef, undef, undef, undef, undef, undef, undef, undef, undef], defers := [] }) ?assign ?body ?done
  case assign =>
    intro lp k W K hk hK
    gi_wp2
    exact hK
  case body =>
    rintro lp k W hk ⟨⟨⟨A2, m, cc, c9, f9, hol, hm, hzW⟩, c10, f10⟩, hB⟩
    have hkE : k < E.length := hk
    have hd : (1 : Nat) ≤ 5 - 1 - 1 := by decide
    have wk : IntKind.i64.wrap ((k : Int) + 1) = (k : Int) + 1 := IntWalk.i64_in _ (by omega)
    have HM := hide hm
    have HOL := hide hol
    have HBW := hide hB
    have HP := hide (HPS2.out.below (HBU.out.trans hB))
    have k0 := HP.out.k0
    have k1 := HP.out.k1
    have k2 := HP.out.k2
    have k3 := HP.out.k3
    have kd := keep_cell (HBU.out.trans hB) KD.out
    have hl9 := World.block_lt_of_cell? W _ c9
    have hl10 := World.block_lt_of_cell? W _ c10
    dsimp only at hl9 hl10
    have hlk := LEN.out k
    have hmk : m ≤ k := by omega
    have SY := hide (fun h => ovN_yes (L := L) (d := d) (E := E) (k := k) h)
    have SN := hide (fun h => ovN_no (L := L) (d := d) (E := E) (k := k) h)
    have FI := HFI.out W _ _ _ _ _ _ _ HP.out (frm (-1) E k) (ng E k) (frm_wf HWF.out (by omega)) (HWF.out k hkE)
    obtain ⟨r1, hr1⟩ : ∃ r, r = (ftL L (frm (-1) E k) (ng E k) d).1 := ⟨_, rfl⟩
    obtain ⟨r2, hr2⟩ : ∃ r, r = (ftL L (frm (-1) E k) (ng E k) d).2 := ⟨_, rfl⟩
    rw [← hr1] at SY SN FI
    rw [← hr2] at FI
    obtain ⟨x, hx⟩ : ∃ r, r = frm (-1) E k := ⟨_, rfl⟩
    obtain ⟨y, hy⟩ : ∃ r, r = ng E k := ⟨_, rfl⟩
    rw [← hx, ← hy] at FI ⊢
    have HFI2 := hide FI
    clear FI hr1 hr2 hx hy hm hol hB hlk
    rcases (by omega : r1 = 4 ∨ r1 ≠ 4) with rfl | q
    · have SY1 := hide (SY.out rfl)
      clear SY SN
      gi_wp2_with (first | (refine ⟨trivial, ?_⟩; gi_at_call 85; (with_reducible refine (CallsIn.inRound lp (callsIn_wide.2 HFI2.out)).mono ?_); rintro e u3 ⟨rfl, hb⟩; have c9 := keep_cell hb c9; have f9 := (hb.frozen (p := ⟨u2.heap.size, 0, none⟩) hl9).trans f9; have c10 := keep_cell hb c10; have f10 := (hb.frozen (p := ⟨u2.heap.size + 1, 0, none⟩) hl10).trans f10; have HB3 := hide hb; have HOL3 := hide (HOL.out.below hb); have hz3 := Nat.le_trans hzW hb.size; clear hb) | (gi_at_builtin; go_loud (refine wpListIn_append_int rfl (.tmp 47) (.tmp 49) _ rfl 3 i0 Try.underlying24 hi0 jz0 jz1 jz2 W0.heap.size A2 cc m (ovN L d E k) rfl HM.out (HOL3.out.alloc _) u3.heap.size (k : Int) rfl (by simp) (by omega) (by simp; omega) ?_); intro A' c2 w' hol' hb' hg'; have bg := box_grown (HOL3.out.alloc _) HM.out hg' (show u2.heap.size < W0.heap.size by omega) (keep_alloc c9 _); have bh := box_grown (HOL3.out.alloc _) HM.out hg' (show u2.heap.size + 1 < W0.heap.size by omega) (keep_alloc c10 _); have c9' := bg.1; have c10' := bh.1; have f9' := bg.2.trans ((World.frozen?_alloc_past (.cells #[.int .i64 (k : Int)] 3) u2.heap.size 0 (show u2.heap.size < u3.heap.size by omega)).trans f9); have f10' := bh.2.trans ((World.frozen?_alloc_past (.cells #[.int .i64 (k : Int)] 3) (u2.heap.size + 1) 0 (show u2.heap.size + 1 < u3.heap.size by omega)).trans f10); have HHB := hide hb'; have HHG := hide hg'; have HHO := hide hol'; have hzz := hg'.size; simp at hzz; clear bg bh hb' hg' hol'))
      have hgg : (u3.alloc (.cells #[.int .i64 (k : Int)] 3)).grownBy w' (Value.slice A2 (ovN L d E k).length cc).ownBlock := by rw [← HM.out]; exact HHG.out
      have hBX : Below u2.heap.size W w' := ((HB3.out.mono (by omega)).trans ((bl_alloc (bl_refl u3) _).mono (by omega))).trans (HHB.out.mono (by omega))
      exact ⟨(((((ko_below HB3.out).trans (ko_alloc (ko_refl u3) _)).trans (ko_grownL (HOL3.out.alloc _) hgg)).trans (KeepsOthers.setCell _ _ _)).trans (KeepsOthers.setCell _ _ _)).from _, (hBX.setCell (p := ⟨u2.heap.size, 0, none⟩) (Nat.le_refl _) _).setCell (p := ⟨u2.heap.size + 1, 0, none⟩) (Nat.le_succ _) _, ⟨⟨A', m + 1, c2, by simp [go_sem, c9', c10'], by simp [go_sem, f9'], by rw [SY1.out]; exact (HHO.out.box (by omega) _).box (by omega) _, by rw [SY1.out, List.length_append, ← HM.out]; rfl, by simp; omega⟩, by simp [go_sem, c10', wk], by simp [go_sem, f10']⟩, HBW.out.trans ((hBX.setCell (p := ⟨u2.heap.size, 0, none⟩) (Nat.le_refl _) _).setCell (p := ⟨u2.heap.size + 1, 0, none⟩) (Nat.le_succ _) _)⟩
    · have SN1 := hide (SN.out q)
      have g1 : (r1 == 4) = false := beq_eq_false_iff_ne.2 q
      clear SY SN q
      gi_wp2_with (refine ⟨trivial, ?_⟩; gi_at_call 85; (with_reducible refine (CallsIn.inRound lp (callsIn_wide.2 HFI2.out)).mono ?_); rintro e u3 ⟨rfl, hb⟩; have c9 := keep_cell hb c9; have f9 := (hb.frozen (p := ⟨u2.heap.size, 0, none⟩) hl9).trans f9; have c10 := keep_cell hb c10; have f10 := (hb.frozen (p := ⟨u2.heap.size + 1, 0, none⟩) hl10).trans f10; have HB3 := hide hb; have HOL3 := hide (HOL.out.below hb); have hz3 := Nat.le_trans hzW hb.size; clear hb)
      have hBX : Below u2.heap.size W u3 := HB3.out.mono (by omega)
      exact ⟨((ko_below HB3.out).trans (KeepsOthers.setCell _ _ _)).from _, hBX.setCell (p := ⟨u2.heap.size + 1, 0, none⟩) (Nat.le_succ _) _, ⟨⟨A2, m, cc, by simp [go_sem, c9], by simp [go_sem, f9], by rw [SN1.out]; exact HOL3.out.box (by omega) _, by rw [SN1.out]; exact HM.out, by simp; omega⟩, by simp [go_sem, c10, wk], by simp [go_sem, f10]⟩, HBW.out.trans (hBX.setCell (p := ⟨u2.heap.size + 1, 0, none⟩) (Nat.le_succ _) _)⟩
  case done =>
    rintro D W hD ⟨⟨⟨A2, m, cc, c9, f9, hol, hm, hzW⟩, c10, f10⟩, hB⟩ hK
    have HM := hide hm
    clear hm
    gi_wp2
    refine ⟨by simp, .inl ⟨_, _, rfl, run_takeDeferred hK, ?_⟩⟩
    have hol' : OL _ 3 W0.heap.size A2 cc (ovN L d E E.length) := hol.keptN (grownBy_putObj' W D (.deferred none)) (fun r e => by cases e; exact ⟨_, hK, rfl⟩)
    refine ⟨.slice A2 m cc, by simp [results, Try.results43, go_sem], ?_⟩
    exact ⟨A2, cc, by rw [← HM.out], hol'.more (B' := w.heap.size) (by omega), (HBB.out.trans (hB.mono hzw)).trans (belowK_b (n₀ := w.heap.size) (w := W0) (by omega) _ D _ _ hD hK rfl rfl)⟩
end Go.Proofs.Ytafddofajfcffaa
