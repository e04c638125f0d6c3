/- Columns that are balanced: no others are lower. It speaks of no program. -/
import Derived.Test.YtkclecfjpabplaaGrd
import Derived.Test.YtkclecfjpabplaaChc
import Derived.Test.YtkclecfjpabplaaBalC
namespace Go.Proofs.Ytkclecfjpabplaa
open Go.ChangeShapes Go.WideShapes Go.ChangeAt Go.RowKit
set_option linter.unusedVariables false
open Classical

theorem sm_pfx {l : List Int} {s : Nat} : ∀ {t : Nat}, s ≤ t → t ≤ l.length → sm l s t = pfx l t - pfx l s
  | 0, h, _ => by obtain rfl : s = 0 := by omega
                  rw [sm_same]; omega
  | t + 1, h, ht => by
    rcases (by omega : s = t + 1 ∨ s ≤ t) with e | e
    · rw [e, sm_same]; omega
    · rw [sm_step e (by omega), sm_pfx e (by omega)]
      show _ = pfx l t + ng l t - _
      omega
theorem pfx_mono {l : List Int} (h : ∀ j, j < l.length → 0 ≤ ng l j) {s : Nat} : ∀ {t : Nat}, s ≤ t → t ≤ l.length → pfx l s ≤ pfx l t
  | 0, h1, _ => by obtain rfl : s = 0 := by omega
                   exact Int.le_refl _
  | t + 1, h1, ht => by
    rcases (by omega : s = t + 1 ∨ s ≤ t) with e | e
    · rw [e]; exact Int.le_refl _
    · have := pfx_mono h e (by omega)
      have := h t (by omega)
      show _ ≤ pfx l t + ng l t
      omega
theorem fc_mono {l : List Int} {h : Int} (h0 : ∀ j, j < l.length → 0 ≤ ng l j) : Mono (fc l h) l.length := fun a b a' b' hb hf h1 h2 h3 => by
  have hf := of_decide_eq_true hf
  refine decide_eq_true ?_
  rw [sm_pfx (by omega) hb] at hf
  rw [sm_pfx (by omega) (by omega)]
  have := pfx_mono h0 h1 (by omega : a' ≤ l.length)
  have := pfx_mono h0 h3 hb
  omega
theorem ve_fits {l E : List Int} {f : Nat → Nat → Bool} (hv : ve E l.length = true) (hf : ∀ j, j < E.length → f (frm 0 E j).toNat (ng E j).toNat = true) : Fits f l.length 0 E := by
  obtain ⟨h1, h2⟩ := ve_iff.1 hv
  refine ⟨fun j hj => ?_, ?_⟩
  · have a := h1 j hj
    have b := h1.pos j (by omega)
    have c := h1.le E.length (j + 1) (by omega) (Nat.le_refl _)
    have d : pv0 E (j + 1) = ng E j := rfl
    have e := hf j hj
    unfold lst at h2
    rw [pv_frm0] at a b
    exact ⟨(frm 0 E j).toNat, (ng E j).toNat, by omega, by omega, by omega, by omega, e⟩
  · rw [← pv_frm0]; exact h2
theorem fits_ve {l E : List Int} {f : Nat → Nat → Bool} (h : Fits f l.length 0 E) : ve E l.length = true := by
  refine ve_iff.2 ⟨fun j hj => ?_, ?_⟩
  · obtain ⟨a, b, h1, h2, h3, _⟩ := h.1 j hj
    rw [pv_frm0]; omega
  · unfold lst; rw [pv_frm0]; exact h.2
theorem mxP_ge {l E : List Int} {k j : Nat} (h : j < k) : sm l (frm 0 E j).toNat (ng E j).toNat ≤ mxP l E k := by
  induction k with
  | zero => omega
  | succ k ih =>
    simp only [mxP]
    rcases (by omega : j < k ∨ j = k) with e | e
    · have := ih e; omega
    · subst e; omega
theorem mxP_le {l E : List Int} {M : Int} (h0 : 0 ≤ M) : ∀ {k : Nat}, (∀ j, j < k → sm l (frm 0 E j).toNat (ng E j).toNat ≤ M) → mxP l E k ≤ M
  | 0, _ => h0
  | k + 1, h => by
    have a := mxP_le h0 (k := k) (fun j hj => h j (by omega))
    have b := h k (by omega)
    simp only [mxP]; omega
/-- What the largest height of columns is. -/
theorem cc_fits {l E : List Int} (hv : ve E l.length = true) : Fits (fc l (mxP l E E.length)) l.length 0 E := ve_fits hv fun j hj => decide_eq_true (mxP_ge hj)
theorem cc_high {l E : List Int} (h0 : ∀ j, j < l.length → 0 ≤ ng l j) (hv : ve E l.length = true) : ∀ i, i < l.length → ng l i ≤ mxP l E E.length := fun i hi => by
  have hF := cc_fits hv
  obtain ⟨m, h1, h2, h3⟩ := hF.at_ (i := i) E.length (Nat.le_refl _) (by rw [hF.2]; omega)
  obtain ⟨a, b, e1, e2, e3, e4, e5⟩ := hF.1 m h1
  have := of_decide_eq_true (fc_mono h0 a b i (i + 1) e4 e5 (by omega) (by omega) (by omega))
  rw [sm_step (Nat.le_refl _) hi, sm_same] at this
  omega
theorem cc_sum {l E : List Int} (h0 : ∀ j, j < l.length → 0 ≤ ng l j) (hv : ve E l.length = true) : mxP l E E.length ≤ sl l := by
  have hF := cc_fits hv
  have hs := pfx_mono h0 (Nat.zero_le l.length) (Nat.le_refl _)
  rw [pfx_all] at hs
  refine mxP_le hs fun j hj => ?_
  obtain ⟨a, b, e1, e2, e3, e4, _⟩ := hF.1 j hj
  rw [e1, e2, Int.toNat_natCast, Int.toNat_natCast, sm_pfx (by omega) e4]
  have x1 := pfx_mono h0 e4 (Nat.le_refl _)
  have x2 := pfx_mono h0 (Nat.zero_le a) (by omega)
  rw [pfx_all] at x1
  have : pfx l 0 = 0 := rfl
  omega
theorem cc_area {l E : List Int} (h0 : ∀ j, j < l.length → 0 ≤ ng l j) (hv : ve E l.length = true) : sl l ≤ mxP l E E.length * E.length := by
  have hF := cc_fits hv
  have key : ∀ k, k ≤ E.length → pfx l (frm 0 E k).toNat ≤ mxP l E k * k := fun k => by
    induction k with
    | zero => intro _; simp [frm_zero, pfx]
    | succ k ih =>
      intro hk
      have ih := ih (by omega)
      obtain ⟨a, b, e1, e2, e3, e4, _⟩ := hF.1 k (by omega)
      rw [frm_succ]
      have g := mxP_ge (l := l) (E := E) (show k < k + 1 by omega)
      have g2 : mxP l E k ≤ mxP l E (k + 1) := by simp only [mxP]; omega
      rw [e1, e2, Int.toNat_natCast, Int.toNat_natCast, sm_pfx (by omega) e4] at g
      rw [e1, Int.toNat_natCast] at ih
      rw [e2, Int.toNat_natCast]
      have g3 := Int.mul_le_mul_of_nonneg_right g2 (Int.natCast_nonneg k)
      rw [show ((k + 1 : Nat) : Int) = (k : Int) + 1 by omega, Int.mul_add, Int.mul_one]
      omega
  have := key E.length (Nat.le_refl _)
  rw [hF.2, Int.toNat_natCast, pfx_all] at this
  exact this
/-- No columns are lower than the balanced ones. -/
theorem cc_balanced {l E : List Int} {m : Int} (hp : allPos l) (hm : 1 ≤ m) (hv : ve E l.length = true) (hE : (E.length : Int) ≤ m) : (bh l m : Int) ≤ mxP l E E.length := by
  have h0 : ∀ j, j < l.length → 0 ≤ ng l j := fun j hj => by have := hp j hj; omega
  have hx : 0 ≤ mxP l E E.length := by
    rcases Nat.eq_zero_or_pos E.length with e | e
    · rw [e]; exact Int.le_refl _
    · have := mxP_ge (l := l) (E := E) e
      have := cc_fits hv
      obtain ⟨a, b, e1, e2, e3, e4, _⟩ := this.1 0 e
      have k := mxP_ge (l := l) (E := E) e
      rw [e1, e2, Int.toNat_natCast, Int.toNat_natCast, sm_pfx (by omega) e4] at k
      have := pfx_mono h0 (show a ≤ b by omega) e4
      omega
  obtain ⟨H, hH⟩ := Int.eq_ofNat_of_zero_le hx
  have hF := cc_fits hv
  have ha := cc_high h0 hv
  rw [hH] at hF ha ⊢
  have hf := (fil_all hp ha (by omega : (0 : Int) ≤ H)).1
  have hl := fil_least (fc_mono h0) hF l.length 0 0 _ hf (by omega) (by omega) (by rw [frm_zero]; omega)
  have hc := cends_len hp ha (by omega : (0 : Int) ≤ H)
  unfold cends at hc
  have hg : gd l m H := ⟨ha, by omega⟩
  have hb := (bh_is hp hm).1
  rcases (by omega : bh l m ≤ H ∨ H < bh l m) with g | g
  · omega
  · exact absurd hg (hb.2 H g)
/-- The balanced columns have the balanced height. -/
theorem cc_own {l : List Int} {m : Int} (h : 0 ≤ bhV l m) : ccV l (bcV l m) = (bhV l m, true) ∧ ((bcV l m).length : Int) ≤ m := by
  obtain ⟨⟨k1, k2⟩, ⟨m1, m2⟩, k3, k4, k5, k6⟩ := bhV_says h
  have hp : allPos l := fun j hj => (k2 j hj).1
  have h0 : ∀ j, j < l.length → 0 ≤ ng l j := fun j hj => by have := hp j hj; omega
  have e := bcV_yes (l := l) (m := m) rfl h
  have hf := (fil_all hp k5 h).1
  have hF := fil_says l.length 0 _ hf (by omega) (by omega)
  have hc := cends_len hp k5 h
  rw [show se (bhV l m) 0 l (bhV l m) ++ (if l.length = 0 then [] else [(l.length : Int)]) = cends l (bhV l m) from rfl, ← e] at hF
  rw [← e] at hc
  have hv : ve (bcV l m) l.length = true := fits_ve hF
  have hcm : cnv l (bhV l m) ≤ m := by rw [k4]; exact (bh_is hp m1).1.1.2
  have h1 : mxP l (bcV l m) (bcV l m).length ≤ bhV l m := mxP_le h fun j hj => by
    obtain ⟨a, b, e1, e2, e3, e4, e5⟩ := hF.1 j hj
    have e1' : frm 0 (bcV l m) j = (a : Int) := e1
    rw [e1', e2, Int.toNat_natCast, Int.toNat_natCast]
    exact of_decide_eq_true e5
  have h2 := cc_balanced hp m1 hv (by omega : ((bcV l m).length : Int) ≤ m)
  refine ⟨?_, by omega⟩
  rw [ccV_yes (by rw [okH_iff.2 ⟨k1, k2⟩, hv]; rfl)]
  congr 1
  omega
end Go.Proofs.Ytkclecfjpabplaa
