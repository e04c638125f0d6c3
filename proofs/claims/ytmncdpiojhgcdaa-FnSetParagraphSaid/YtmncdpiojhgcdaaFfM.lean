/- Breaks that are chosen one after the other: pure maths. -/
import Derived.Test.YtmncdpiojhgcdaaSg
namespace Go.Proofs.Ytmncdpiojhgcdaa
open Go.ChangeShapes Go.WideShapes Go.ChangeAt Go.RowKit
set_option linter.unusedVariables false

/-- The break chosen among the first m items from p on, for the line behind item p - 1. -/
noncomputable def ffT (L : List It) (d : Int) (p : Nat) : Nat → Int
  | 0 => -1
  | m + 1 => if hasL L ((p : Int) - 1) ((p + m : Nat) : Int) = true ∧ (ffT L d p m < 0 ∨ (ftL L ((p : Int) - 1) ((p + m : Nat) : Int) d).1 ≠ 4) then ((p + m : Nat) : Int) else ffT L d p m
noncomputable def ffN (L : List It) (d : Int) (p : Nat) : Int := ffT L d p (L.length - p)
section
variable {L : List It} {d : Int} {p : Nat}
theorem ffT_yes {m : Nat} (h : hasL L ((p : Int) - 1) ((p + m : Nat) : Int) = true) (h2 : ffT L d p m < 0 ∨ (ftL L ((p : Int) - 1) ((p + m : Nat) : Int) d).1 ≠ 4) : ffT L d p (m + 1) = ((p + m : Nat) : Int) := by
  simp only [ffT]
  rw [if_pos ⟨h, h2⟩]
theorem ffT_no {m : Nat} (h : hasL L ((p : Int) - 1) ((p + m : Nat) : Int) = false) : ffT L d p (m + 1) = ffT L d p m := by
  simp only [ffT]
  rw [if_neg (by rw [h]; simp)]
theorem ffT_stay {m : Nat} (h1 : 0 ≤ ffT L d p m) (h2 : (ftL L ((p : Int) - 1) ((p + m : Nat) : Int) d).1 = 4) : ffT L d p (m + 1) = ffT L d p m := by
  simp only [ffT]
  rw [if_neg (by rintro ⟨_, h | h⟩ <;> omega)]
theorem ffT_in : ∀ {m : Nat}, ffT L d p m = -1 ∨ ∃ q : Nat, ffT L d p m = q ∧ p ≤ q ∧ q < p + m ∧ hasL L ((p : Int) - 1) q = true
  | 0 => .inl rfl
  | m + 1 => by
    have IH := ffT_in (m := m)
    simp only [ffT]
    by_cases h : hasL L ((p : Int) - 1) ((p + m : Nat) : Int) = true ∧ (ffT L d p m < 0 ∨ (ftL L ((p : Int) - 1) ((p + m : Nat) : Int) d).1 ≠ 4)
    · rw [if_pos h]
      exact .inr ⟨p + m, rfl, by omega, by omega, h.1⟩
    · rw [if_neg h]
      rcases IH with e | ⟨q, a, b, c, e⟩
      · exact .inl e
      · exact .inr ⟨q, a, b, by omega, e⟩
theorem ffT_up {b : Nat} (hb : hasL L ((p : Int) - 1) b = true) (hp : p ≤ b) : ∀ {m : Nat}, b < p + m → 0 ≤ ffT L d p m
  | 0, h => by omega
  | m + 1, h => by
    have IN := ffT_in (L := L) (d := d) (p := p) (m := m)
    rcases (by omega : b < p + m ∨ b = p + m) with e | e
    · have IH := ffT_up hb hp e
      simp only [ffT]
      split
      · omega
      · exact IH
    · subst e
      rcases IN with e | ⟨q, e, _⟩
      · rw [ffT_yes hb (.inl (by omega))]; omega
      · simp only [ffT]
        split <;> omega
theorem mayE_F {j : Nat} (h : isF (tg L j) = true) : mayE L j = true := by
  have c := of_decide_eq_true h
  unfold mayE
  rw [if_neg (by omega), if_pos (by omega)]
  exact decide_eq_true (by omega)
/-- The first break from p on ends a line behind item p - 1. -/
theorem first_break (ok : isOk L = true) (hp : p < L.length) (hm : p = 0 ∨ mayE L (p - 1) = true) : ∃ b, p ≤ b ∧ b < L.length ∧ hasL L ((p : Int) - 1) b = true := by
  obtain ⟨_, _, hlast⟩ := okB_last ok
  have key : ∀ k, k ≤ L.length - p → (∃ b, p ≤ b ∧ b < p + k ∧ mayE L b = true ∧ ∀ j, p ≤ j → j < b → mayE L j = false) ∨ (∀ j, p ≤ j → j < p + k → mayE L j = false) := fun k => by
    induction k with
    | zero => intro _; exact .inr fun j h1 h2 => by omega
    | succ k ih =>
      intro hk
      rcases ih (by omega) with ⟨b, h1, h2, h3, h4⟩ | h
      · exact .inl ⟨b, h1, by omega, h3, h4⟩
      · cases q : mayE L (p + k)
        · refine .inr fun j h1 h2 => ?_
          rcases (by omega : j < p + k ∨ j = p + k) with e | e
          · exact h j h1 e
          · rw [e]; exact q
        · exact .inl ⟨p + k, by omega, by omega, q, fun j h1 h2 => h j h1 h2⟩
  rcases key (L.length - p) (Nat.le_refl _) with ⟨b, h1, h2, h3, h4⟩ | h
  · refine ⟨b, h1, by omega, ?_⟩
    have hn : nF L p = nF L b := (nF_eq h1).2 fun j a c => by
      cases q : isF (tg L j)
      · rfl
      · have := mayE_F q
        rw [h4 j a c] at this; cases this
    rcases hm with rfl | hm
    · have e : ((0 : Nat) : Int) - 1 = -1 := rfl
      rw [e, hasL_0 (by omega) h3]
      exact decide_eq_true hn
    · rcases Nat.eq_zero_or_pos p with e0 | e0
      · subst e0
        have e : ((0 : Nat) : Int) - 1 = -1 := rfl
        rw [e, hasL_0 (by omega) h3]
        exact decide_eq_true hn
      · obtain ⟨m, rfl⟩ : ∃ m, p = m + 1 := ⟨p - 1, by omega⟩
        rw [Nat.add_sub_cancel] at hm
        rw [show (((m + 1 : Nat) : Int)) - 1 = (m : Int) by omega, hasL_6 (by omega) (by omega) hm h3]
        exact decide_eq_true hn
  · rw [h (L.length - 1) (by omega) (by omega)] at hlast; cases hlast
theorem ffN_ok (ok : isOk L = true) (hp : p < L.length) (hm : p = 0 ∨ mayE L (p - 1) = true) : ∃ q : Nat, ffN L d p = q ∧ p ≤ q ∧ q < L.length ∧ hasL L ((p : Int) - 1) q = true ∧ mayE L q = true := by
  obtain ⟨b, h1, h2, h3⟩ := first_break ok hp hm
  have h4 := ffT_up (d := d) h3 h1 (m := L.length - p) (by omega)
  rcases ffT_in (L := L) (d := d) (p := p) (m := L.length - p) with e | ⟨q, a, b', c, e⟩
  · omega
  · obtain ⟨_, q', _, e2, _, _, _, e6, _⟩ := hasL_of e
    obtain rfl : q = q' := by omega
    exact ⟨q, a, b', by omega, e, e6⟩
end
/-- Where line k begins, as a node. -/
noncomputable def fpS (L : List It) (d : Int) : Nat → Nat
  | 0 => 0
  | k + 1 => if fpS L d k < L.length then (ffN L d (fpS L d k)).toNat + 1 else fpS L d k
noncomputable def nLn (L : List It) (d : Int) : Nat → Nat
  | 0 => 0
  | k + 1 => if fpS L d k < L.length then k + 1 else nLn L d k
/-- The ends of the first k lines. -/
noncomputable def ffA (L : List It) (d : Int) : Nat → List Int
  | 0 => []
  | k + 1 => ffA L d k ++ [((fpS L d (k + 1) : Nat) : Int) - 1]
noncomputable def nFF (L : List It) (d : Int) : Nat := nLn L d L.length
/-- What FirstFit answers. -/
noncomputable def ffO (L : List It) (d : Int) : List Int := if isOk L && inB d 1 10000 then ffA L d (nFF L d) else []
theorem ffO_no {L : List It} {d : Int} (h : (isOk L && inB d 1 10000) = false) : ffO L d = [] := by unfold ffO; rw [h]; rfl
theorem ffO_yes {L : List It} {d : Int} (h : (isOk L && inB d 1 10000) = true) : ffO L d = ffA L d (nFF L d) := by unfold ffO; rw [h]; rfl
section
variable {L : List It} {d : Int}
theorem ffA_len : ∀ {k : Nat}, (ffA L d k).length = k
  | 0 => rfl
  | k + 1 => by simp only [ffA, List.length_append, ffA_len]; rfl
theorem ffA_at : ∀ {k j : Nat}, j < k → ng (ffA L d k) j = ((fpS L d (j + 1) : Nat) : Int) - 1
  | 0, _, h => by omega
  | k + 1, j, h => by
    simp only [ffA]
    rcases (by omega : j < k ∨ j = k) with e | e
    · rw [ng_appB (by rw [ffA_len]; exact e)]
      exact ffA_at e
    · subst e
      have := ng_lastB (E := ffA L d j) (x := ((fpS L d (j + 1) : Nat) : Int) - 1)
      rw [ffA_len] at this
      exact this
theorem ffA_frm {k j : Nat} (h : j ≤ k) : frm (-1) (ffA L d k) j = ((fpS L d j : Nat) : Int) - 1 := by
  cases j with
  | zero => rfl
  | succ j => rw [frm_succ]; exact ffA_at (by omega)
/-- One step. -/
theorem fpS_step (ok : isOk L = true) : ∀ {k : Nat}, (fpS L d k ≤ L.length ∧ (fpS L d k = 0 ∨ mayE L (fpS L d k - 1) = true)) ∧ (fpS L d k < L.length → ∃ q : Nat, ffN L d (fpS L d k) = q ∧ fpS L d k ≤ q ∧ q < L.length ∧ fpS L d (k + 1) = q + 1 ∧ hasL L (((fpS L d k : Nat) : Int) - 1) q = true) := fun {k} => by
  have step : ∀ k, (fpS L d k = 0 ∨ mayE L (fpS L d k - 1) = true) → fpS L d k < L.length → ∃ q : Nat, ffN L d (fpS L d k) = q ∧ fpS L d k ≤ q ∧ q < L.length ∧ fpS L d (k + 1) = q + 1 ∧ hasL L (((fpS L d k : Nat) : Int) - 1) q = true ∧ mayE L q = true := fun k hm hk => by
    obtain ⟨q, a, b, c, e, f⟩ := ffN_ok (d := d) ok hk hm
    refine ⟨q, a, b, c, ?_, e, f⟩
    simp only [fpS]
    rw [if_pos hk, a]; rfl
  have inv : ∀ k, fpS L d k ≤ L.length ∧ (fpS L d k = 0 ∨ mayE L (fpS L d k - 1) = true) := fun k => by
    induction k with
    | zero => exact ⟨Nat.zero_le _, .inl rfl⟩
    | succ k ih =>
      by_cases hk : fpS L d k < L.length
      · obtain ⟨q, a, b, c, e, f, g⟩ := step k ih.2 hk
        rw [e]
        exact ⟨by omega, .inr (by rw [Nat.add_sub_cancel]; exact g)⟩
      · have : fpS L d (k + 1) = fpS L d k := by simp only [fpS]; rw [if_neg hk]
        rw [this]; exact ih
  refine ⟨inv k, fun hk => ?_⟩
  obtain ⟨q, a, b, c, e, f, _⟩ := step k (inv k).2 hk
  exact ⟨q, a, b, c, e, f⟩
theorem fpS_mono (ok : isOk L = true) {i : Nat} : ∀ {j : Nat}, i ≤ j → fpS L d i ≤ fpS L d j
  | 0, h => by obtain rfl : i = 0 := by omega
               exact Nat.le_refl _
  | j + 1, h => by
    rcases (by omega : i = j + 1 ∨ i ≤ j) with e | e
    · rw [e]; exact Nat.le_refl _
    · have := fpS_mono ok e
      by_cases hk : fpS L d j < L.length
      · obtain ⟨q, _, b, _, e, _⟩ := (fpS_step (d := d) ok (k := j)).2 hk
        omega
      · have : fpS L d (j + 1) = fpS L d j := by simp only [fpS]; rw [if_neg hk]
        omega
theorem fpS_grow (ok : isOk L = true) : ∀ {k : Nat}, fpS L d k < L.length → k ≤ fpS L d k
  | 0, _ => Nat.zero_le _
  | k + 1, h => by
    have h1 := fpS_mono (d := d) ok (show k ≤ k + 1 by omega)
    have h2 := fpS_grow ok (k := k) (by omega)
    obtain ⟨q, _, b, _, e, _⟩ := (fpS_step (d := d) ok (k := k)).2 (by omega)
    omega
theorem nLn_in : ∀ {m : Nat}, nLn L d m ≤ m ∧ (nLn L d m = 0 ∨ fpS L d (nLn L d m - 1) < L.length) ∧ ∀ k, k < m → fpS L d k < L.length → k < nLn L d m
  | 0 => ⟨Nat.le_refl _, .inl rfl, fun k h => by omega⟩
  | m + 1 => by
    obtain ⟨a, b, c⟩ := nLn_in (m := m)
    simp only [nLn]
    by_cases h : fpS L d m < L.length
    · rw [if_pos h]
      exact ⟨Nat.le_refl _, .inr (by rw [Nat.add_sub_cancel]; exact h), fun k hk _ => hk⟩
    · rw [if_neg h]
      refine ⟨by omega, b, fun k hk hf => ?_⟩
      rcases (by omega : k < m ∨ k = m) with e | e
      · exact c k e hf
      · rw [e] at hf; exact absurd hf h
theorem nFF_lt (ok : isOk L = true) {k : Nat} (h : k < nFF L d) : fpS L d k < L.length := by
  obtain ⟨a, b, _⟩ := nLn_in (L := L) (d := d) (m := L.length)
  have h' : k < nLn L d L.length := h
  rcases b with b | b
  · omega
  · have := fpS_mono (d := d) ok (show k ≤ nLn L d L.length - 1 by omega)
    omega
theorem nFF_end (ok : isOk L = true) : fpS L d (nFF L d) = L.length := by
  obtain ⟨a, b, c⟩ := nLn_in (L := L) (d := d) (m := L.length)
  have h1 := (fpS_step (d := d) ok (k := nFF L d)).1.1
  rcases (by omega : fpS L d (nFF L d) = L.length ∨ fpS L d (nFF L d) < L.length) with e | e
  · exact e
  · have h2 := fpS_grow ok e
    have := c (nFF L d) (by omega) e
    have h3 : nFF L d < nLn L d L.length := this
    unfold nFF at h3
    omega
theorem nFF_le : nFF L d ≤ L.length := (nLn_in (L := L) (d := d) (m := L.length)).1
theorem ffO_len : (ffO L d).length ≤ 60 := by
  cases q : (isOk L && inB d 1 10000)
  · rw [ffO_no q]; simp
  · rw [ffO_yes q, ffA_len]
    have := (isOk_iff.1 ((Bool.and_eq_true _ _).mp q).1).2.1.2
    have := nFF_le (L := L) (d := d)
    omega
theorem ffO_wf : okW (ffO L d) := by
  cases q : (isOk L && inB d 1 10000)
  · rw [ffO_no q]; exact fun k hk => by simp at hk
  · have ok := ((Bool.and_eq_true _ _).mp q).1
    rw [ffO_yes q]
    intro k hk
    rw [ffA_len] at hk
    rw [ffA_at hk]
    have := (fpS_step (d := d) ok (k := k + 1)).1.1
    have := (isOk_iff.1 ok).2.1.2
    omega
/-- Breaks that are chosen one after the other divide the paragraph. -/
theorem ffO_valid (h : (isOk L && inB d 1 10000) = true) : vbO L (ffO L d) = true ∧ 0 < (ffO L d).length ∧ ng (ffO L d) ((ffO L d).length - 1) = (L.length : Int) - 1 := by
  have ok := ((Bool.and_eq_true _ _).mp h).1
  have hl := (isOk_iff.1 ok).2.1.1
  have he := nFF_end (d := d) ok
  have hpos : 0 < nFF L d := by
    rcases Nat.eq_zero_or_pos (nFF L d) with e | e
    · rw [e] at he
      have : fpS L d 0 = 0 := rfl
      omega
    · exact e
  rw [ffO_yes h]
  refine ⟨?_, by rw [ffA_len]; exact hpos, ?_⟩
  · rw [vbO_eq]
    have hb : endB L (ffA L d (nFF L d)) = true := decide_eq_true (by rw [ffA_len, ffA_frm (Nat.le_refl _), he])
    rw [cbV_of ok hb]
    intro j hj
    rw [ffA_len] at hj
    obtain ⟨q, _, _, _, e, f⟩ := (fpS_step (d := d) ok (k := j)).2 (nFF_lt ok hj)
    show hasL L (frm (-1) (ffA L d (nFF L d)) j) (ng (ffA L d (nFF L d)) j) = true
    rw [ffA_frm (by omega), ffA_at hj, e, show (((q + 1 : Nat) : Int)) - 1 = (q : Int) by omega]
    exact f
  · rw [ffA_len, ffA_at (by omega), show nFF L d - 1 + 1 = nFF L d by omega, he]
end
end Go.Proofs.Ytmncdpiojhgcdaa
