/- Glyphs and widths: the maths of the promises on fonts. -/
import Derived.Test.YtlfhfbeacleggabWordW
namespace Go.Proofs.Ytlfhfbeacleggab
open Go.ChangeShapes Go.WideShapes Go.ChangeAt Go.RowKit
set_option linter.unusedSimpArgs false
set_option linter.unusedVariables false

theorem findP_nil (a b : Int) : findP [] a b = none := rfl
theorem joinN_nil : ∀ (n : Nat) (s : List Int), joinN [] n s = s
  | 0, _ => rfl
  | n + 1, s => by
    simp only [joinN, findP_nil]
    split <;> rfl
/-- The letter's glyph. -/
def ltr (s : ByteArray) (j : Nat) : Int := ((s.data.toList.getD j 0).toNat : Int) - 97
theorem ltr_at {s : ByteArray} {j : Nat} (h : j < s.size) : ltr s j = (s[j].toNat : Int) - 97 := by
  unfold ltr
  rw [List.getD_eq_getElem?_getD, List.getElem?_eq_getElem (by simpa using h)]
  rfl
theorem gw_nil (s : ByteArray) : ∀ k : Nat, (gw [] s k).length = k ∧ ∀ j, j < k → ng (gw [] s k) j = ltr s j
  | 0 => ⟨rfl, fun j h => by omega⟩
  | k + 1 => by
    obtain ⟨h1, h2⟩ := gw_nil s k
    have e : gw [] s (k + 1) = gw [] s k ++ [ltr s k] := by
      simp only [gw, joinE, joinN_nil]
      rfl
    rw [e]
    refine ⟨by simp [h1], fun j hj => ?_⟩
    rcases (by omega : j < k ∨ j = k) with q | q
    · rw [ng_lt (by simp [h1]; omega), List.getElem_append_left (by omega), ← ng_lt (by omega)]
      exact h2 j q
    · subst q
      rw [ng_lt (by simp [h1]), List.getElem_append_right (by omega)]
      simp [h1]
/-- No two neighbours are a pair. -/
def NoPr (L : List Gp) (s : List Int) : Prop := ∀ j, 0 < j → j < s.length → findP L (ng s (j - 1)) (ng s j) = none
theorem joinN_np {L : List Gp} : ∀ (n : Nat) (s : List Int), s.length ≤ n → (∀ j, 0 < j → j + 1 < s.length → findP L (ng s (j - 1)) (ng s j) = none) → NoPr L (joinN L n s)
  | 0, s, h, _ => fun j h1 h2 => by
    have : (joinN L 0 s).length = s.length := rfl
    omega
  | n + 1, s, h, hp => by
    by_cases h2 : 2 ≤ s.length
    · cases e : findP L (ng s (s.length - 2)) (ng s (s.length - 1)) with
      | some v =>
        rw [joinN_step h2 rfl rfl e]
        have hl : (s.take (s.length - 2) ++ [v]).length = s.length - 1 := by simp; omega
        have hg : ∀ j, j + 2 < s.length → ng (s.take (s.length - 2) ++ [v]) j = ng s j := fun j hj => by
          rw [ng_lt (by omega), List.getElem_append_left (by simp; omega), List.getElem_take, ← ng_lt (by omega)]
        refine joinN_np n _ (by omega) (fun j h3 h4 => ?_)
        rw [hg j (by omega), hg (j - 1) (by omega)]
        exact hp j h3 (by omega)
      | none =>
        rw [joinN_stop _ rfl rfl e]
        intro j h3 h4
        rcases (by omega : j + 1 < s.length ∨ j = s.length - 1) with q | q
        · exact hp j h3 q
        · subst q
          rw [show s.length - 1 - 1 = s.length - 2 by omega]
          exact e
    · rw [joinN_short _ h2]
      intro j h3 h4
      omega
theorem gw_np (L : List Gp) (s : ByteArray) : ∀ k : Nat, NoPr L (gw L s k)
  | 0 => fun j h1 h2 => by simp [gw] at h2
  | k + 1 => by
    have IH := gw_np L s k
    simp only [gw, joinE]
    refine joinN_np _ _ (Nat.le_refl _) (fun j h1 h2 => ?_)
    have h3 : j < (gw L s k).length := by simp at h2; omega
    have ap : ∀ {x : Int} {i : Nat}, i < (gw L s k).length → ng (gw L s k ++ [x]) i = ng (gw L s k) i := fun h => by rw [ng_lt (by simp; omega), List.getElem_append_left h, ← ng_lt h]
    rw [ap h3, ap (by omega)]
    exact IH j h1 h3
theorem findP_no {L : List Gp} {a b : Int} (h : findP L a b = none) {m : Nat} (hm : m < L.length) : ¬ ((tg L m).a = a ∧ (tg L m).b = b) := fun ⟨h1, h2⟩ => by
  unfold findP at h
  rw [Option.map_eq_none_iff, List.find?_eq_none] at h
  have := h (L[m]) (List.getElem_mem hm)
  rw [tg_lt hm] at h1 h2
  simp [h1, h2] at this
theorem np_at {L : List Gp} {s : ByteArray} {k j m : Nat} (h0 : 0 < j) (h : j < (gw L s k).length) (hm : m < L.length) (h1 : (tg L m).a = ng (gw L s k) (j - 1)) : ¬ (tg L m).b = ng (gw L s k) j := fun h2 => findP_no (gw_np L s k j h0 h) hm ⟨h1, h2⟩
theorem pok_nil (lo hi : Int) : pok [] lo hi = true := pok_iff.2 ⟨by simp, fun i hi => by simp at hi⟩
/-- A font without ligatures, and one without kerns as well. -/
abbrev noL (f : Ft) : Ft := ⟨f.W, f.a, f.b, f.c, f.h, f.K, []⟩
abbrev noKL (f : Ft) : Ft := ⟨f.W, f.a, f.b, f.c, f.h, [], []⟩
theorem fok_noL {f : Ft} (h : fok f = true) : fok (noL f) = true := by
  obtain ⟨h1, h2, h3, h4, h5, h6⟩ := fok_iff.1 h
  exact fok_iff.2 ⟨h1, h2, h3, h4, h5, pok_nil _ _⟩
theorem fok_noKL {f : Ft} (h : fok f = true) : fok (noKL f) = true := by
  obtain ⟨h1, h2, h3, h4, h5, h6⟩ := fok_iff.1 h
  exact fok_iff.2 ⟨h1, h2, h3, h4, pok_nil _ _, pok_nil _ _⟩
/-- The sum of widths. -/
def wS (W l : List Int) : Nat → Int
  | 0 => 0
  | k + 1 => wS W l k + ng W (ng l k).toNat
theorem wsum_noKL (f : Ft) (l : List Int) : ∀ k : Nat, wsum (noKL f) l k = wS f.W l k
  | 0 => rfl
  | k + 1 => by
    simp only [wsum, wS]
    rw [wsum_noKL f l k]
    have : kern (noKL f) l k = 0 := rfl
    rw [this]
    split <;> omega
theorem wS_bd {f : Ft} (h : fok f = true) {l : List Int} {k : Nat} (hg : GTo l k) : 0 ≤ wS f.W l k ∧ wS f.W l k ≤ 100 * (k : Int) := by
  induction k with
  | zero => simp [wS]
  | succ k ih =>
    have i1 := ih (fun j hj => hg j (by omega))
    have g := hg k (by omega)
    have w1 := wid_bd h (z := (ng l k).toNat) (by omega)
    simp only [wS]
    omega
theorem glA_pos {f : Ft} {s : ByteArray} (h : (glA f s).length ≠ 0) : fok f = true ∧ okWord s = true := by
  by_cases q : fok f = true ∧ okWord s = true
  · exact q
  · rw [glA_no q] at h
    exact absurd rfl h
theorem gwid_bad {f : Ft} {l : List Int} {j : Nat} (hj : j < l.length) (h : ¬ (0 ≤ ng l j ∧ ng l j ≤ 35)) : gwid f l = 0 := gwid_no fun q => h (q.2.2 j hj)
end Go.Proofs.Ytlfhfbeacleggab
