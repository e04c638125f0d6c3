/- What the lists of a paragraph hold: pure maths on items. -/
import Derived.Test.YtafddofajfcffaaForced
namespace Go.Proofs.Ytafddofajfcffaa
open Go.ChangeShapes Go.WideShapes Go.ChangeAt Go.RowKit
set_option linter.unusedVariables false

def isB (x : It) : Bool := decide (x.k = 1)
def inW (x : It) : Int := if x.k = 3 then 0 else x.w
def inT (x : It) : Int := if x.k = 2 then x.st else 0
def inS (x : It) : Int := if x.k = 2 then x.sh else 0
/-- The sums before item k. -/
def sW (L : List It) : Nat → Int
  | 0 => 0
  | k + 1 => sW L k + inW (tg L k)
def sT (L : List It) : Nat → Int
  | 0 => 0
  | k + 1 => sT L k + inT (tg L k)
def sS (L : List It) : Nat → Int
  | 0 => 0
  | k + 1 => sS L k + inS (tg L k)
/-- How many forced breaks lie before item k. -/
def nF (L : List It) : Nat → Nat
  | 0 => 0
  | k + 1 => nF L k + if isF (tg L k) then 1 else 0
/-- The first box among the last d items, or the number of items. -/
def nxB (L : List It) : Nat → Nat
  | 0 => L.length
  | d + 1 => if isB (tg L (L.length - (d + 1))) then L.length - (d + 1) else nxB L d
/-- Whether a line may end at item i. -/
def mayE (L : List It) (i : Nat) : Bool := if (tg L i).k = 2 then decide (0 < i) && isB (tg L (i - 1)) else if (tg L i).k = 3 then decide ((tg L i).p < 1000) else false
def brTo (L : List It) : Nat → List Int
  | 0 => []
  | k + 1 => if mayE L k then brTo L k ++ [(k : Int)] else brTo L k
theorem brTo_len (L : List It) (k : Nat) : (brTo L k).length ≤ k := by
  induction k with
  | zero => exact Nat.le_refl _
  | succ k ih =>
    simp only [brTo]
    split
    · simp; omega
    · omega
noncomputable def brO (L : List It) : List Int := if isOk L then brTo L L.length else []
theorem brO_yes {L : List It} (h : isOk L = true) : brO L = brTo L L.length := by simp [brO, h]
theorem brO_no {L : List It} (h : isOk L = false) : brO L = [] := by simp [brO, h]
theorem brO_len (L : List It) : (brO L).length ≤ 60 := by
  unfold brO
  split
  · rename_i h
    have h1 := (isOk_iff.1 h).2.1
    have := brTo_len L L.length
    omega
  · simp
/-- A valid item's numbers. -/
theorem in_bd {L : List It} (h : OTo L L.length) {k : Nat} (hk : k < L.length) : (0 ≤ inW (tg L k) ∧ inW (tg L k) ≤ 1000) ∧ (0 ≤ inT (tg L k) ∧ inT (tg L k) ≤ 1000) ∧ (0 ≤ inS (tg L k) ∧ inS (tg L k) ≤ 1000) := by
  have := iok_iff.1 (h k hk)
  unfold inW inT inS
  rcases this with h | h | h
  · rw [if_neg (by omega), if_neg (by omega), if_neg (by omega)]; omega
  · rw [if_neg (by omega), if_pos (by omega), if_pos (by omega)]; omega
  · rw [if_pos (by omega), if_neg (by omega), if_neg (by omega)]; omega
theorem s_bd {L : List It} (h : OTo L L.length) : ∀ {k : Nat}, k ≤ L.length → (0 ≤ sW L k ∧ sW L k ≤ 1000 * k) ∧ (0 ≤ sT L k ∧ sT L k ≤ 1000 * k) ∧ (0 ≤ sS L k ∧ sS L k ≤ 1000 * k)
  | 0, _ => by simp [sW, sT, sS]
  | k + 1, hk => by
    have h1 := s_bd h (k := k) (by omega)
    have h2 := in_bd h (k := k) (by omega)
    simp only [sW, sT, sS]
    omega
theorem s_mono {L : List It} (h : OTo L L.length) {a : Nat} : ∀ {k : Nat}, a ≤ k → k ≤ L.length → sW L a ≤ sW L k ∧ sT L a ≤ sT L k ∧ sS L a ≤ sS L k
  | 0, ha, _ => by rw [show a = 0 by omega]; simp
  | k + 1, ha, hk => by
    rcases (by omega : a = k + 1 ∨ a ≤ k) with rfl | h1
    · simp
    · have h2 := s_mono h (k := k) h1 (by omega)
      have h3 := in_bd h (k := k) (by omega)
      simp only [sW, sT, sS]
      omega
theorem nF_le (L : List It) : ∀ k, nF L k ≤ k
  | 0 => Nat.le_refl _
  | k + 1 => by have := nF_le L k; simp only [nF]; split <;> omega
theorem nF_mono (L : List It) {a : Nat} : ∀ {k : Nat}, a ≤ k → nF L a ≤ nF L k
  | 0, h => by rw [show a = 0 by omega]; exact Nat.le_refl _
  | k + 1, h => by
    rcases (by omega : a = k + 1 ∨ a ≤ k) with rfl | h1
    · exact Nat.le_refl _
    · have := nF_mono L (k := k) h1; simp only [nF]; omega
/-- No forced break between two places. -/
theorem nF_eq {L : List It} {a : Nat} : ∀ {k : Nat}, a ≤ k → (nF L a = nF L k ↔ ∀ j, a ≤ j → j < k → isF (tg L j) = false)
  | 0, h => by rw [show a = 0 by omega]; simp
  | k + 1, h => by
    rcases (by omega : a = k + 1 ∨ a ≤ k) with rfl | h1
    · simp; intro j h2 h3; omega
    · have ih := nF_eq (L := L) (k := k) h1
      have hm := nF_mono L h1
      simp only [nF]
      constructor
      · intro h2 j h3 h4
        by_cases hq : isF (tg L k) = true
        · rw [if_pos hq] at h2; omega
        · rw [if_neg hq] at h2
          rcases (by omega : j < k ∨ j = k) with h5 | rfl
          · exact ih.1 (by omega) j h3 h5
          · simpa using hq
      · intro h2
        rw [h2 k h1 (by omega)]
        have := ih.2 (fun j h3 h4 => h2 j h3 (by omega))
        simpa using this
theorem nxB_zero (L : List It) : nxB L 0 = L.length := rfl
theorem nxB_in (L : List It) : ∀ d, d ≤ L.length → L.length - d ≤ nxB L d ∧ nxB L d ≤ L.length
  | 0, _ => by simp [nxB]
  | d + 1, h => by
    have := nxB_in L d (by omega)
    simp only [nxB]
    split <;> omega
theorem nxB_no (L : List It) : ∀ d, d ≤ L.length → ∀ j, L.length - d ≤ j → j < nxB L d → isB (tg L j) = false
  | 0, _, j, h1, h2 => by simp [nxB] at h2; omega
  | d + 1, h, j, h1, h2 => by
    simp only [nxB] at h2
    by_cases hq : isB (tg L (L.length - (d + 1))) = true
    · rw [if_pos hq] at h2; omega
    · rw [if_neg hq] at h2
      rcases (by omega : j = L.length - (d + 1) ∨ L.length - d ≤ j) with rfl | h3
      · simpa using hq
      · exact nxB_no L d (by omega) j h3 h2
theorem nxB_yes (L : List It) : ∀ d, d ≤ L.length → nxB L d < L.length → isB (tg L (nxB L d)) = true
  | 0, _, h2 => by simp [nxB] at h2
  | d + 1, h, h2 => by
    simp only [nxB] at h2 ⊢
    by_cases hq : isB (tg L (L.length - (d + 1))) = true
    · rw [if_pos hq]; exact hq
    · rw [if_neg hq] at h2 ⊢; exact nxB_yes L d (by omega) h2
/-- The first box from item i on, or the number of items. -/
def fBx (L : List It) (i : Nat) : Nat := nxB L (L.length - i)
theorem fBx_in {L : List It} {i : Nat} (h : i ≤ L.length) : i ≤ fBx L i ∧ fBx L i ≤ L.length := by
  have := nxB_in L (L.length - i) (by omega)
  unfold fBx; omega
theorem fBx_no {L : List It} {i j : Nat} (h : i ≤ L.length) (h1 : i ≤ j) (h2 : j < fBx L i) : isB (tg L j) = false := nxB_no L (L.length - i) (by omega) j (by omega) h2
theorem fBx_yes {L : List It} {i : Nat} (h : i ≤ L.length) (h2 : fBx L i < L.length) : isB (tg L (fBx L i)) = true := nxB_yes L (L.length - i) (by omega) h2
/-- Whether there is a line between two places. -/
def hasL (L : List It) (a b : Int) : Bool := decide (-1 ≤ a) && decide (a < b) && decide (b < L.length) && (decide (a = -1) || mayE L a.toNat) && mayE L b.toNat && decide (nF L (a + 1).toNat = nF L b.toNat)
/-- Where a line starts. -/
def stA (L : List It) (a b : Int) : Nat := min (fBx L (a + 1).toNat) b.toNat
def atW (x : It) : Int := if x.k = 3 then x.w else 0
/-- The length of a line. -/
def lgW (L : List It) (a b : Int) : Int := sW L b.toNat - sW L (stA L a b) + atW (tg L b.toNat)
def lgT (L : List It) (a b : Int) : Int := sT L b.toNat - sT L (stA L a b)
def lgS (L : List It) (a b : Int) : Int := sS L b.toNat - sS L (stA L a b)
end Go.Proofs.Ytafddofajfcffaa
