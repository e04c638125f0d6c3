/- Pages that are filled, and a page that is high enough. -/
import Derived.Test.YtkclecfjpabplaaPgM
namespace Go.Proofs.Ytkclecfjpabplaa
open Go.ChangeShapes Go.WideShapes Go.ChangeAt Go.RowKit
set_option linter.unusedVariables false
open Classical

theorem hs_split {L : List Gp} {f j : Nat} : ∀ {k : Nat}, hs L f (j + k) = hs L f j + hs L (f + j) k
  | 0 => by simp [hs]
  | k + 1 => by
    have := hs_split (L := L) (f := f) (j := j) (k := k)
    rw [← Nat.add_assoc]
    simp only [hs]
    rw [this, Nat.add_assoc f j k]
    omega
theorem ns_split {L : List Gp} {f j : Nat} : ∀ {k : Nat}, ns L f (j + k) = ns L f j + ns L (f + j) k
  | 0 => by simp [ns]
  | k + 1 => by
    have := ns_split (L := L) (f := f) (j := j) (k := k)
    rw [← Nat.add_assoc]
    simp only [ns]
    rw [this, Nat.add_assoc f j k]
    omega
theorem pgh_mono {L : List Gp} (h : LTo L L.length) {a b a' b' : Nat} (h1 : b ≤ L.length) (h2 : a ≤ a') (h3 : a' < b') (h4 : b' ≤ b) : pgh L a' (b' - a') ≤ pgh L a (b - a) := by
  obtain ⟨i, rfl⟩ : ∃ i, a' = a + i := ⟨a' - a, by omega⟩
  obtain ⟨j, rfl⟩ : ∃ j, b' = a + i + j := ⟨b' - (a + i), by omega⟩
  obtain ⟨k, rfl⟩ : ∃ k, b = a + i + j + k := ⟨b - (a + i + j), by omega⟩
  rw [show a + i + j - (a + i) = j by omega, show a + i + j + k - a = i + (j + k) by omega]
  have x1 := hs_bd (f := a) (k := i) h (by omega)
  have x2 := hs_bd (f := a + i + j) (k := k) h (by omega)
  have x3 := hs_bd (f := a + i) (k := j) h (by omega)
  have e1 := hs_split (L := L) (f := a) (j := i) (k := j + k)
  have e2 := hs_split (L := L) (f := a + i) (j := j) (k := k)
  have e3 := ns_split (L := L) (f := a) (j := i) (k := j + k)
  have e4 := ns_split (L := L) (f := a + i) (j := j) (k := k)
  unfold pgh
  split <;> split <;> omega
theorem fpg_mono {L : List Gp} {h : Int} (hl : LTo L L.length) : Mono (fpg L h) L.length := fun a b a' b' h1 h2 h3 h4 h5 => by
  have := pgh_mono hl h1 h3 h4 h5
  have := of_decide_eq_true h2
  exact decide_eq_true (by omega)
/-- Filled pages are accepted, and the fewest. -/
theorem fp_fits {L : List Gp} {h : Int} {l : List Int} (e : fpV L h = some l) : (lok L && inB h 1 10000) = true ∧ Fits (fpg L h) L.length 0 l ∧ ∀ E, Fits (fpg L h) L.length 0 E → l.length ≤ E.length := by
  cases q : (lok L && inB h 1 10000)
  · rw [fpV_no q] at e; cases e
  · rw [fpV_yes q] at e
    refine ⟨rfl, ?_, fun E hE => ?_⟩
    · have F := fil_says (f := fpg L h) (n := L.length) L.length 0 l e (by omega) (Nat.zero_le _)
      exact F
    · have := fil_least (fpg_mono (okPg_of q).ln) hE L.length 0 0 l e (by omega) (Nat.zero_le _) (Int.le_refl _)
      omega
theorem fp_bp {L : List Gp} {h : Int} : (fpV L h).isSome = (bpV L h).2.2 := by
  cases q : (lok L && inB h 1 10000)
  · rw [fpV_no q, bpV_no q]; rfl
  · cases e : fpV L h with
    | some l =>
      obtain ⟨_, f, _⟩ := fp_fits e
      rw [(bp_least q f).1]
      rfl
    | none =>
      cases e2 : (bpV L h).2.2 with
      | false => rfl
      | true =>
        obtain ⟨_, f, _⟩ := bp_check e2
        obtain ⟨l, hl⟩ := fil_some (fpg_mono (okPg_of q).ln) f L.length 0 (by omega)
        rw [fpV_yes q, hl] at e
        cases e
theorem dpD_nn {L : List Gp} {h : Int} (ok : OkPg L h) : ∀ (m : Nat) {j : Nat} {d : Dn}, j < m → dpD (gP L h) j = some d → 0 ≤ d.1
  | 0, _, _, h, _ => by omega
  | m + 1, j, d, hj, e => by
    rcases Nat.eq_zero_or_pos j with h0 | h0
    · subst h0
      have := dpD_zero_of e
      subst this
      exact Int.le_refl _
    · obtain ⟨hb, x, n, e1, e2, e3, e4⟩ := dpD_from h0 e
      have := dpD_nn ok m (j := d.2.1) (by omega) e1
      have := gP_bd ok e2
      omega
theorem hs_ge {L : List Gp} (h : LTo L L.length) : ∀ {k : Nat}, k ≤ L.length → (k : Int) ≤ hs L 0 k
  | 0, _ => Int.le_refl _
  | k + 1, hk => by
    have a := hs_ge h (k := k) (by omega)
    have b := (lnk_iff.1 (h (0 + k) (by omega))).1
    simp only [hs]
    omega
/-- A page that is high enough. -/
theorem bp_one {L : List Gp} (hl : lok L = true) (h2 : pgh L 0 L.length ≤ 10000) : bpV L (pgh L 0 L.length) = ([(L.length : Int)], 0, true) := by
  obtain ⟨⟨l0, l1⟩, l2⟩ := lok_iff.1 hl
  have g1 := hs_ge l2 (Nat.le_refl _)
  have g2 := (hs_bd (f := 0) (k := L.length) l2 (by omega)).2.1
  have g3 : 1 ≤ pgh L 0 L.length := by
    unfold pgh
    split <;> omega
  obtain ⟨h, hh⟩ : ∃ h, h = pgh L 0 L.length := ⟨_, rfl⟩
  rw [← hh] at h2 g3 ⊢
  have q : (lok L && inB h 1 10000) = true := by rw [hl, inB_iff.2 ⟨g3, h2⟩]; rfl
  have ok := okPg_of q
  have c0 : gP L h 0 L.length = some 0 := by
    have : pgC L h 0 (0 : Nat) L.length = (0, true) := by
      rw [pgC_at (by omega) (Nat.le_refl _)]
      exact pgq_last (by rw [Nat.sub_zero, ← hh]; omega) rfl
    rw [gP_yes (by rw [this]), this]
  have K : ∀ k, 1 ≤ k → k ≤ L.length → bst (dpD (gP L h)) (gP L h) L.length k = some (0, 0, 1) := fun k => by
    induction k with
    | zero => intro h _; omega
    | succ k ih =>
      intro _ hk
      simp only [bst]
      rcases Nat.eq_zero_or_pos k with k0 | k0
      · subst k0
        rw [dpD_zero, c0]
        rfl
      · rw [ih k0 (by omega)]
        cases e : dpD (gP L h) k with
        | none => exact rx_no_d
        | some x =>
          cases e2 : gP L h k L.length with
          | none => exact rx_no_v
          | some v =>
            have a := dpD_nn ok (k + 1) (Nat.lt_succ_self _) e
            have b := gP_bd ok e2
            exact rx_keep (by show ¬ x.1 + v < 0; omega)
  have D : dpD (gP L h) L.length = some (0, 0, 1) := by rw [dpD_succ (by omega)]; exact K _ l0 (Nat.le_refl _)
  rw [bpV_yes q]
  unfold dpR
  rw [D]
  rfl
end Go.Proofs.Ytkclecfjpabplaa
