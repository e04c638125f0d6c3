/- Widths that are stretched to a total. It speaks of no program. -/
import Derived.Test.YtlkfpcajpdohiaaFil
namespace Go.Proofs.Ytlkfpcajpdohiaa
open Go.ChangeShapes Go.WideShapes Go.ChangeAt Go.RowKit
set_option linter.unusedVariables false

/-- The parts by which the total is shared. -/
def prt (l : List Int) : List Int := if sl l = 0 then List.replicate l.length 1 else l
theorem prt_len (l : List Int) : (prt l).length = l.length := by unfold prt; split <;> simp
/-- The right border of the k-th column. -/
def brd (l : List Int) (t : Int) (k : Nat) : Int := t * pfx (prt l) k / sl (prt l)
/-- The new widths. -/
def stl (l : List Int) (t : Int) : List Int := (List.range l.length).map fun i => brd l t (i + 1) - brd l t i
theorem stl_len (l : List Int) (t : Int) : (stl l t).length = l.length := by simp [stl]
theorem stl_get {l : List Int} {t : Int} {i : Nat} (h : i < l.length) : ng (stl l t) i = brd l t (i + 1) - brd l t i := by simp [ng, stl, List.getD, h]
theorem brd_zero (l : List Int) (t : Int) : brd l t 0 = 0 := by simp [brd, pfx]
theorem pfx_ones {n : Nat} : ∀ k, k ≤ n → pfx (List.replicate n 1) k = k := fun k => by
  induction k with
  | zero => intro _; rfl
  | succ k ih =>
    intro h
    show pfx _ k + ng _ k = _
    rw [ih (by omega), ng_lt (by simp; omega)]
    simp
theorem sl_ones (n : Nat) : sl (List.replicate n 1) = n := by
  have := pfx_all (List.replicate n 1)
  rw [← this, List.length_replicate]
  exact pfx_ones n (Nat.le_refl _)
/-- The model's borders. -/
theorem brd_none {l : List Int} {t : Int} {k : Nat} (h : sl l = 0) (hk : k ≤ l.length) : brd l t k = t * k / l.length := by
  simp only [brd, prt, h, if_true, sl_ones, pfx_ones k hk]
theorem brd_some {l : List Int} {t : Int} {k : Nat} (h : sl l ≠ 0) : brd l t k = t * pfx l k / sl l := by
  simp only [brd, prt, h, if_false]
theorem prt_pos {l : List Int} (h : ∀ j, j < l.length → 0 ≤ ng l j) (h1 : 1 ≤ l.length) : 0 < sl (prt l) ∧ ∀ j, j < (prt l).length → 0 ≤ ng (prt l) j := by
  unfold prt
  split
  · rw [sl_ones]
    refine ⟨by omega, fun j hj => ?_⟩
    rw [ng_lt hj]
    simp
  · have := pfx_le h (Nat.zero_le _)
    rw [pfx_all] at this
    exact ⟨by have : (0 : Int) ≤ sl l := this
              omega, h⟩
theorem pfx_stl {l : List Int} {t : Int} : ∀ k, k ≤ l.length → pfx (stl l t) k = brd l t k := fun k => by
  induction k with
  | zero => intro _; rw [brd_zero]; rfl
  | succ k ih =>
    intro h
    show pfx _ k + ng _ k = _
    rw [ih (by omega), stl_get (by omega)]
    omega
theorem stl_sum {l : List Int} {t : Int} (h : ∀ j, j < l.length → 0 ≤ ng l j) (h1 : 1 ≤ l.length) : sl (stl l t) = t := by
  have h2 := (prt_pos h h1).1
  rw [← pfx_all, stl_len, pfx_stl _ (Nat.le_refl _), brd, ← prt_len l, pfx_all]
  exact Int.mul_ediv_cancel _ (by omega)
theorem stl_ge {l : List Int} {t : Int} (h : ∀ j, j < l.length → 0 ≤ ng l j) (h1 : 1 ≤ l.length) (ht : sl l ≤ t) (t0 : 0 ≤ t) {i : Nat} (hi : i < l.length) : ng l i ≤ ng (stl l t) i := by
  obtain ⟨h2, h3⟩ := prt_pos h h1
  have hi' : i < (prt l).length := by rw [prt_len]; exact hi
  have hx := h3 i hi'
  rw [stl_get hi]
  unfold brd
  obtain ⟨S, hS⟩ : ∃ S, S = sl (prt l) := ⟨_, rfl⟩
  have e : t * pfx (prt l) (i + 1) = t * pfx (prt l) i + t * ng (prt l) i := by show t * (_ + _) = _; rw [Int.mul_add]
  rw [← hS] at h2 ⊢
  rw [e]
  have hb : ng l i = 0 ∨ (ng l i = ng (prt l) i ∧ S ≤ t) := by
    rcases (by omega : sl l = 0 ∨ sl l ≠ 0) with q | q
    · left
      have a1 := pfx_le h (show i + 1 ≤ l.length by omega)
      have a2 := (pfx_bd (b := max (ng l i) 0 + 0) (l := l.take 0) (fun j hj => by simp at hj) (k := 0) (Nat.zero_le _)).1
      have a3 : 0 ≤ pfx l i := by
        have : ∀ k, k ≤ l.length → 0 ≤ pfx l k := fun k => by
          induction k with
          | zero => intro _; exact Int.le_refl _
          | succ k ih =>
            intro hk
            have b1 := ih (by omega)
            have b2 := h k (by omega)
            show 0 ≤ pfx l k + ng l k
            omega
        exact this i (by omega)
      have a4 : pfx l (i + 1) = pfx l i + ng l i := rfl
      rw [pfx_all, q] at a1
      have := h i hi
      omega
    · right
      have : prt l = l := by simp [prt, q]
      rw [this] at hS ⊢
      exact ⟨rfl, by omega⟩
  have hmul : 0 ≤ t * ng (prt l) i := Int.mul_nonneg t0 hx
  rcases hb with q | ⟨q, q2⟩
  · rw [q]
    have := Int.ediv_le_ediv h2 (show t * pfx (prt l) i ≤ t * pfx (prt l) i + t * ng (prt l) i by omega)
    omega
  · rw [q]
    have m1 : S * ng (prt l) i ≤ t * ng (prt l) i := Int.mul_le_mul_of_nonneg_right q2 hx
    have := Int.ediv_le_ediv h2 (show t * pfx (prt l) i + S * ng (prt l) i ≤ t * pfx (prt l) i + t * ng (prt l) i by omega)
    rw [Int.add_mul_ediv_left _ _ (by omega)] at this
    omega
theorem stl_twice {l : List Int} {t : Int} (h : ∀ j, j < l.length → 0 ≤ ng l j) (h1 : 1 ≤ l.length) (t0 : 0 ≤ t) (hg : ∀ j, j < l.length → 0 ≤ ng (stl l t) j) (ht : sl l ≤ t) : stl (stl l t) t = stl l t := by
  have hs := stl_sum (t := t) h h1
  have hl := stl_len l t
  have key : ∀ k, k ≤ l.length → brd (stl l t) t k = brd l t k := fun k hk => by
    rcases (by omega : t = 0 ∨ 0 < t) with q | q
    · subst q
      simp [brd]
    · rw [brd_some (by omega), hs, Int.mul_ediv_cancel_left _ (by omega), pfx_stl _ hk]
  apply List.ext_getElem (by rw [stl_len])
  intro i i1 i2
  rw [stl_len] at i1
  rw [← ng_lt, ← ng_lt, stl_get i1, stl_get (by omega), key _ (by omega), key _ (by omega)]
end Go.Proofs.Ytlkfpcajpdohiaa
