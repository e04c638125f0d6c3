/- Lines of a paragraph: pure maths on items. -/
import Derived.Test.YtafddofajfcffaaParM
namespace Go.Proofs.Ytafddofajfcffaa
open Go.ChangeShapes Go.WideShapes Go.ChangeAt Go.RowKit
set_option linter.unusedVariables false

theorem wf_bd {x : Int} (h : (Lit.int .i64 x).wf = true) : -9223372036854775808 ≤ x ∧ x ≤ 9223372036854775807 := by
  simp only [Lit.wf, Bool.and_eq_true, decide_eq_true_eq] at h
  exact h
/-- What a line is made of. -/
theorem hasL_of {L : List It} {a b : Int} (h : hasL L a b = true) : ∃ p q : Nat, a + 1 = (p : Int) ∧ b = (q : Int) ∧ p ≤ q ∧ q < L.length ∧ (a = -1 ∨ mayE L a.toNat = true) ∧ mayE L q = true ∧ nF L p = nF L q := by
  simp only [hasL, Bool.and_eq_true, Bool.or_eq_true, decide_eq_true_eq] at h
  obtain ⟨⟨⟨⟨⟨h1, h2⟩, h3⟩, h4⟩, h5⟩, h6⟩ := h
  exact ⟨(a + 1).toNat, b.toNat, by omega, by omega, by omega, by omega, h4, h5, h6⟩
/-- The first box or forced break among the last d items, or the number of items. -/
def nxS (L : List It) : Nat → Nat
  | 0 => L.length
  | d + 1 => if isB (tg L (L.length - (d + 1))) || isF (tg L (L.length - (d + 1))) then L.length - (d + 1) else nxS L d
theorem nxS_in (L : List It) : ∀ d, d ≤ L.length → L.length - d ≤ nxS L d ∧ nxS L d ≤ L.length
  | 0, _ => by simp [nxS]
  | d + 1, h => by
    have := nxS_in L d (by omega)
    simp only [nxS]
    split <;> omega
theorem nxS_no (L : List It) : ∀ d, d ≤ L.length → ∀ j, L.length - d ≤ j → j < nxS L d → isB (tg L j) = false ∧ isF (tg L j) = false
  | 0, _, j, h1, h2 => by simp [nxS] at h2; omega
  | d + 1, h, j, h1, h2 => by
    simp only [nxS] at h2
    by_cases hq : (isB (tg L (L.length - (d + 1))) || isF (tg L (L.length - (d + 1)))) = true
    · rw [if_pos hq] at h2; omega
    · rw [if_neg hq] at h2
      rcases (by omega : j = L.length - (d + 1) ∨ L.length - d ≤ j) with rfl | h3
      · simpa using hq
      · exact nxS_no L d (by omega) j h3 h2
theorem nxS_yes (L : List It) : ∀ d, d ≤ L.length → nxS L d < L.length → isB (tg L (nxS L d)) = true ∨ isF (tg L (nxS L d)) = true
  | 0, _, h2 => by simp [nxS] at h2
  | d + 1, h, h2 => by
    simp only [nxS] at h2 ⊢
    by_cases hq : (isB (tg L (L.length - (d + 1))) || isF (tg L (L.length - (d + 1)))) = true
    · rw [if_pos hq]; simpa using hq
    · rw [if_neg hq] at h2 ⊢; exact nxS_yes L d (by omega) h2
/-- The first item from p on that is a box or a forced break. -/
def stS (L : List It) (p : Nat) : Nat := nxS L (L.length - p)
theorem stS_in {L : List It} {p : Nat} (h : p ≤ L.length) : p ≤ stS L p ∧ stS L p ≤ L.length := by
  have := nxS_in L (L.length - p) (by omega)
  unfold stS; omega
theorem stS_at {L : List It} {p i : Nat} (hp : p ≤ i) (hi : i ≤ L.length) (hno : ∀ j, p ≤ j → j < i → isB (tg L j) = false ∧ isF (tg L j) = false) (hyes : i = L.length ∨ isB (tg L i) = true ∨ isF (tg L i) = true) : stS L p = i := by
  have h1 := stS_in (L := L) (p := p) (by omega)
  rcases (by omega : stS L p < i ∨ stS L p = i ∨ i < stS L p) with h | h | h
  · have a := hno (stS L p) h1.1 h
    have b := nxS_yes L (L.length - p) (by omega) (show nxS L (L.length - p) < L.length from Nat.lt_of_lt_of_le h hi)
    change isB (tg L (stS L p)) = true ∨ isF (tg L (stS L p)) = true at b
    rw [a.1, a.2] at b
    simp at b
  · exact h
  · have a := nxS_no L (L.length - p) (by omega) i (by omega) h
    rw [a.1, a.2] at hyes
    simp at hyes; omega
theorem stS_min {L : List It} {p q : Nat} (hp : p ≤ q) (hq : q ≤ L.length) (hf : nF L p = nF L q) : min (stS L p) q = min (fBx L p) q := by
  have h1 := stS_in (L := L) (p := p) (by omega)
  have h2 := fBx_in (L := L) (i := p) (by omega)
  have hno := (nF_eq (L := L) hp).1 hf
  rcases (by omega : stS L p < fBx L p ∨ stS L p = fBx L p ∨ fBx L p < stS L p) with h | h | h
  · rcases (by omega : stS L p < q ∨ q ≤ stS L p) with g | g
    · have b := nxS_yes L (L.length - p) (by omega) (show nxS L (L.length - p) < L.length from by change stS L p < L.length; omega)
      change isB (tg L (stS L p)) = true ∨ isF (tg L (stS L p)) = true at b
      rw [hno _ h1.1 g, fBx_no (i := p) (by omega) h1.1 h] at b
      simp at b
    · omega
  · rw [h]
  · have a := nxS_no L (L.length - p) (by omega) (fBx L p) (by omega) h
    have b := fBx_yes (L := L) (i := p) (by omega) (by omega)
    rw [a.1] at b
    cases b
/-- The boxes among d items from p on. -/
def bxN (L : List It) (p : Nat) : Nat → List Int
  | 0 => []
  | d + 1 => if isB (tg L (p + d)) then bxN L p d ++ [((p + d : Nat) : Int)] else bxN L p d
theorem bxN_len (L : List It) (p : Nat) : ∀ d, (bxN L p d).length ≤ d
  | 0 => Nat.le_refl _
  | d + 1 => by
    have := bxN_len L p d
    simp only [bxN]
    split
    · simp; omega
    · omega
theorem bxN_none {L : List It} {p : Nat} : ∀ {d}, (∀ j, p ≤ j → j < p + d → isB (tg L j) = false) → bxN L p d = []
  | 0, _ => rfl
  | d + 1, h => by
    simp only [bxN]
    rw [h (p + d) (by omega) (by omega), if_neg (by simp)]
    exact bxN_none fun j a b => h j a (by omega)
theorem bxN_from {L : List It} {p s : Nat} (hs : p ≤ s) (h : ∀ j, p ≤ j → j < s → isB (tg L j) = false) : ∀ d, bxN L p (s - p + d) = bxN L s d
  | 0 => bxN_none fun j a b => h j a (by omega)
  | d + 1 => by
    rw [show s - p + (d + 1) = (s - p + d) + 1 by omega]
    simp only [bxN]
    rw [bxN_from hs h d, show p + (s - p + d) = s + d by omega]
theorem bxN_line {L : List It} {p q : Nat} (hp : p ≤ q) (hq : q ≤ L.length) : bxN L p (q - p) = bxN L (min (fBx L p) q) (q - min (fBx L p) q) := by
  have h2 := fBx_in (L := L) (i := p) (by omega)
  have := bxN_from (L := L) (p := p) (s := min (fBx L p) q) (by omega) (fun j a b => fBx_no (i := p) (by omega) a (by omega)) (q - min (fBx L p) q)
  rw [← this]
  congr 1
  omega
theorem bxN_in {L : List It} {p : Nat} : ∀ {d} {x : Int}, x ∈ bxN L p d → ∃ j : Nat, x = (j : Int) ∧ p ≤ j ∧ j < p + d ∧ isB (tg L j) = true
  | 0, x, h => by simp [bxN] at h
  | d + 1, x, h => by
    simp only [bxN] at h
    by_cases hb : isB (tg L (p + d)) = true
    · rw [if_pos hb, List.mem_append] at h
      rcases h with h | h
      · obtain ⟨j, a, b, c, e⟩ := bxN_in h
        exact ⟨j, a, b, by omega, e⟩
      · simp at h
        exact ⟨p + d, h, by omega, by omega, hb⟩
    · rw [if_neg hb] at h
      obtain ⟨j, a, b, c, e⟩ := bxN_in h
      exact ⟨j, a, b, by omega, e⟩
/-- Whether there is a line in a paragraph that may be invalid. -/
noncomputable def okL (L : List It) (a b : Int) : Bool := isOk L && hasL L a b
/-- The boxes of a line, if there is one. -/
noncomputable def bxO (L : List It) (a b : Int) : List Int := if okL L a b then bxN L (a + 1).toNat (b.toNat - (a + 1).toNat) else []
theorem bxO_no {L : List It} {a b : Int} (h : okL L a b = false) : bxO L a b = [] := by simp [bxO, h]
theorem bxO_yes {L : List It} {a b : Int} {p q : Nat} (h : okL L a b = true) (hp : a + 1 = (p : Int)) (hq : b = (q : Int)) : bxO L a b = bxN L p (q - p) := by
  unfold bxO
  rw [if_pos h, hp, hq]; rfl
theorem bxO_len (L : List It) (a b : Int) : (bxO L a b).length ≤ 60 := by
  cases h : okL L a b
  · rw [bxO_no h]; simp
  · have h' := h
    simp only [okL, Bool.and_eq_true] at h'
    obtain ⟨p, q, e1, e2, h1, h2, _⟩ := hasL_of h'.2
    rw [bxO_yes h e1 e2]
    have := bxN_len L p (q - p)
    have := (isOk_iff.1 h'.1).2.1
    omega
end Go.Proofs.Ytafddofajfcffaa
