/- The boxes of a set paragraph: pure maths. -/
import Derived.Test.YtmncdpiojhgcdaaSr
namespace Go.Proofs.Ytmncdpiojhgcdaa
open Go.ChangeShapes Go.WideShapes Go.ChangeAt Go.RowKit
set_option linter.unusedVariables false

/-- The boxes among the first k items. -/
def cB (L : List It) : Nat → Nat
  | 0 => 0
  | k + 1 => cB L k + if isB (tg L k) then 1 else 0
theorem cB_le (L : List It) : ∀ k, cB L k ≤ k
  | 0 => Nat.le_refl _
  | k + 1 => by
    have := cB_le L k
    simp only [cB]
    split <;> omega
theorem stN_cB (L : List It) (c T S : Int) (s : Nat) : ∀ d, (stN L c T S s d).length + cB L s = cB L (s + d)
  | 0 => by simp [stN]
  | d + 1 => by
    have IH := stN_cB L c T S s d
    have e : cB L (s + (d + 1)) = cB L (s + d) + if isB (tg L (s + d)) then 1 else 0 := rfl
    rw [e]
    cases h : isB (tg L (s + d))
    · rw [stN_no h, if_neg (by simp)]; omega
    · rw [stN_yes h, if_pos rfl, List.length_append]; simp; omega
theorem cB_none {L : List It} {a : Nat} : ∀ {b : Nat}, a ≤ b → (∀ j, a ≤ j → j < b → isB (tg L j) = false) → cB L b = cB L a
  | 0, h, _ => by rw [show a = 0 by omega]
  | b + 1, h, hn => by
    rcases (by omega : a = b + 1 ∨ a ≤ b) with e | e
    · rw [e]
    · have IH := cB_none (b := b) e (fun j h1 h2 => hn j h1 (by omega))
      simp only [cB]
      rw [hn b e (by omega), if_neg (by simp), IH]
      rfl
theorem setL_cB {L : List It} {a d : Int} {p q : Nat} (e1 : a + 1 = (p : Int)) (e3 : p ≤ q) (e4 : q < L.length) (hm : mayE L q = true) : (setL L a d q).length + cB L p = cB L (q + 1) + 1 := by
  have hb : isB (tg L q) = false := by
    unfold mayE at hm
    unfold isB
    by_cases h2 : (tg L q).k = 2
    · rw [h2]; rfl
    · rw [if_neg h2] at hm
      by_cases h3 : (tg L q).k = 3
      · rw [h3]; rfl
      · rw [if_neg h3] at hm; cases hm
  have es : stA L a q = min (fBx L p) q := by unfold stA; rw [e1]; rfl
  have f1 := fBx_in (L := L) (i := p) (by omega)
  have c1 := cB_none (L := L) (a := p) (b := stA L a q) (by rw [es]; omega) (fun j h1 h2 => fBx_no (L := L) (i := p) (by omega) h1 (by rw [es] at h2; omega))
  have c2 := stN_cB L (d - lgW L a q) (lgT L a q) (lgS L a q) (stA L a q) (q - stA L a q)
  rw [show stA L a q + (q - stA L a q) = q by rw [es]; omega] at c2
  have c3 : cB L (q + 1) = cB L q := by simp only [cB]; rw [hb, if_neg (by simp)]; rfl
  unfold setL
  rw [List.length_append, c3, List.length_singleton]
  omega
/-- The boxes of the first k lines. -/
theorem cB_line {L : List It} {d : Int} {E : List Int} {k : Nat} (h : hasL L (frm (-1) E k) (ng E k) = true) : ((setL L (frm (-1) E k) d (ng E k).toNat).length : Int) + cB L (frm (-1) E k + 1).toNat = cB L (frm (-1) E (k + 1) + 1).toNat + 1 := by
  obtain ⟨p, q, e1, e2, e3, e4, _, e6, _⟩ := hasL_of h
  have := setL_cB (d := d) e1 e3 e4 e6
  rw [frm_succ, e2, e1, show ((q : Int) + 1).toNat = q + 1 by omega, show ((p : Int)).toNat = p by omega, show ((q : Int)).toNat = q by omega]
  omega
end Go.Proofs.Ytmncdpiojhgcdaa
