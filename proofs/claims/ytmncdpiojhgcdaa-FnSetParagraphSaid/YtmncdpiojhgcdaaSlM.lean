/- Set lines: pure maths. -/
import Derived.Test.YtmncdpiojhgcdaaSd
namespace Go.Proofs.Ytmncdpiojhgcdaa
open Go.ChangeShapes Go.WideShapes Go.ChangeAt Go.RowKit
set_option linter.unusedVariables false

/-- A part of a total, rounded down. -/
def shr (n s a : Int) : Int := if a = 0 then 0 else n * s / a
/-- Where something lies that has so much width, stretch and shrink ahead of it. -/
def posn (c T S pw pt ps : Int) : Int := if 0 < c then pw + shr c pt T else pw - shr (min (-c) S) ps S
def posA (L : List It) (c T S : Int) (s k : Nat) : Int := posn c T S (sW L k - sW L s) (sT L k - sT L s) (sS L k - sS L s)
/-- The positions of the boxes among d items from s on. -/
def stN (L : List It) (c T S : Int) (s : Nat) : Nat → List Int
  | 0 => []
  | d + 1 => if isB (tg L (s + d)) then stN L c T S s d ++ [posA L c T S s (s + d)] else stN L c T S s d
def setL (L : List It) (a d : Int) (q : Nat) : List Int :=
  stN L (d - lgW L a q) (lgT L a q) (lgS L a q) (stA L a q) (q - stA L a q) ++ [posn (d - lgW L a q) (lgT L a q) (lgS L a q) (lgW L a q) (lgT L a q) (lgS L a q)]
/-- What SetLine answers. -/
noncomputable def setO (L : List It) (a b d : Int) : List Int := if okL L a b && inB d 1 10000 then setL L a d b.toNat else []
theorem setO_no {L : List It} {a b d : Int} (h : (okL L a b && inB d 1 10000) = false) : setO L a b d = [] := by simp [setO, h]
theorem setO_yes {L : List It} {a d : Int} {q : Nat} (h : (okL L a q && inB d 1 10000) = true) : setO L a q d = setL L a d q := by simp [setO, h]
theorem stN_len (L : List It) (c T S : Int) (s : Nat) : ∀ d, (stN L c T S s d).length ≤ d
  | 0 => Nat.le_refl _
  | d + 1 => by
    have := stN_len L c T S s d
    simp only [stN]
    split
    · simp; omega
    · omega
theorem stN_yes {L : List It} {c T S : Int} {s d : Nat} (h : isB (tg L (s + d)) = true) : stN L c T S s (d + 1) = stN L c T S s d ++ [posA L c T S s (s + d)] := by
  simp only [stN]
  rw [if_pos h]
theorem stN_no {L : List It} {c T S : Int} {s d : Nat} (h : isB (tg L (s + d)) = false) : stN L c T S s (d + 1) = stN L c T S s d := by
  simp only [stN]
  rw [if_neg (by rw [h]; simp)]
theorem setO_len (L : List It) (a b d : Int) : (setO L a b d).length ≤ 61 := by
  cases h : (okL L a b && inB d 1 10000)
  · rw [setO_no h]; simp
  · have h' := h
    simp only [okL, Bool.and_eq_true] at h'
    obtain ⟨p, q, e1, rfl, h1, h2, _⟩ := hasL_of h'.1.2
    rw [setO_yes h]
    have := (isOk_iff.1 h'.1.1).2.1
    have := stN_len L (d - lgW L a q) (lgT L a q) (lgS L a q) (stA L a q) (q - stA L a q)
    unfold setL
    simp
    omega
theorem shr_nn {n s a : Int} (h1 : 0 ≤ n) (h2 : 0 ≤ s) (h3 : 0 ≤ a) : 0 ≤ shr n s a := by
  unfold shr
  split
  · omega
  · exact Int.ediv_nonneg (Int.mul_nonneg h1 h2) h3
/-- A share of a part is no larger than the whole's. -/
theorem shr_le {n s a : Int} (h1 : 0 ≤ n) (h2 : 0 ≤ s) (h3 : 0 ≤ a) (h4 : s ≤ a) : shr n s a ≤ n := by
  unfold shr
  split
  · omega
  · next h =>
    exact Int.ediv_le_of_le_mul (by omega) (Int.mul_le_mul_of_nonneg_left h4 h1)
theorem shr_mono {n s s' a : Int} (h1 : 0 ≤ n) (h3 : 0 ≤ a) (h : s ≤ s') : shr n s a ≤ shr n s' a := by
  unfold shr
  split
  · omega
  · exact Int.ediv_le_ediv (by omega) (Int.mul_le_mul_of_nonneg_left h h1)
theorem shr_less {n s s' a : Int} (h1 : 0 ≤ n) (h3 : 0 ≤ a) (hn : n ≤ a) (h : s ≤ s') : shr n s' a ≤ shr n s a + (s' - s) := by
  unfold shr
  split
  · omega
  · next h0 =>
    have e : n * s' ≤ n * s + a * (s' - s) := by
      have h5 : n * (s' - s) ≤ a * (s' - s) := Int.mul_le_mul_of_nonneg_right hn (by omega)
      have h6 : n * s' = n * s + n * (s' - s) := by rw [← Int.mul_add]; congr 1; omega
      omega
    have h7 := Int.ediv_le_ediv (show 0 < a by omega) e
    rwa [Int.add_mul_ediv_left _ _ h0] at h7
theorem shr_all {n a : Int} (h : a ≠ 0) : shr n a a = n := by
  unfold shr
  rw [if_neg h, Int.mul_ediv_cancel _ h]
/-- Positions do not move back, and a box keeps its width. -/
theorem posn_mono {c T S pw pt ps pw' pt' ps' w : Int} (hT : 0 ≤ T) (hS : 0 ≤ S) (h2 : pt ≤ pt') (h3 : ps ≤ ps') (h4 : ps' - ps + w ≤ pw' - pw) : posn c T S pw pt ps + w ≤ posn c T S pw' pt' ps' := by
  unfold posn
  split
  · have := shr_mono (n := c) (a := T) (by omega) hT h2
    omega
  · have := shr_less (n := min (-c) S) (a := S) (by omega) hS (Int.min_le_right _ _) h3
    omega
/-- The end of a line that can have the width is at the width. -/
theorem posn_exact {d W T S : Int} (hT : 0 ≤ T) (hS : 0 ≤ S) (h : W = d ∨ W < d ∧ 0 < T ∨ d < W ∧ W - d ≤ S) : posn (d - W) T S W T S = d := by
  unfold posn
  rcases h with h | ⟨h, h'⟩ | ⟨h, h'⟩
  · rw [if_neg (by omega)]
    have : min (-(d - W)) S = 0 := by omega
    rw [this]
    unfold shr
    split <;> simp <;> omega
  · rw [if_pos (by omega), shr_all (by omega)]; omega
  · rw [if_neg (by omega)]
    have : min (-(d - W)) S = W - d := by omega
    rw [this, shr_all (by omega)]; omega
end Go.Proofs.Ytmncdpiojhgcdaa
