/- Lines of texts and their penalties: the maths. -/
import Derived.Test.YtlfhfbeacleggaaWid
import Derived.Test.YtlfhfbeacleggaaRecA
namespace Go.Proofs.Ytlfhfbeacleggaa
open Go.ChangeShapes Go.WideShapes Go.ChangeAt Go.RowKit
set_option linter.unusedVariables false

/-- The first line of paragraph i. -/
def fiL (l : List Int) (i : Nat) : Nat := (pfx l i).toNat
/-- The penalty of line j by the first paragraphs. -/
def pnT (l : List Int) : Nat → Nat → Int
  | 0 => fun _ => 0
  | i + 1 => fun j => pnT l i j + (if 1 < ng l i ∧ j = fiL l i then 100 else 0) + (if 1 < ng l i ∧ j + 2 = fiL l i + (ng l i).toNat then 150 else 0)
/-- The penalty of line k of a paragraph of z lines. -/
def lnP (z : Int) (k : Nat) : Int := (if k = 0 ∧ 1 < z then 100 else 0) + (if (k : Int) = z - 2 then 150 else 0)
section
variable {l : List Int}
theorem fiL_succ (ok : PosTo l l.length) {i : Nat} (hi : i < l.length) : fiL l (i + 1) = fiL l i + (ng l i).toNat := by
  have a := (show PosTo l i from fun j hj => ok j (by omega)).ge
  have b := ok i hi
  have c : pfx l (i + 1) = pfx l i + ng l i := rfl
  unfold fiL
  omega
theorem fiL_mono (ok : PosTo l l.length) {i : Nat} : ∀ {m : Nat}, i ≤ m → m ≤ l.length → fiL l i ≤ fiL l m
  | 0, h, _ => by obtain rfl : i = 0 := by omega
                  exact Nat.le_refl _
  | m + 1, h, hm => by
    rcases (by omega : i = m + 1 ∨ i ≤ m) with e | e
    · rw [e]; exact Nat.le_refl _
    · have := fiL_mono ok e (by omega)
      have := fiL_succ ok (i := m) (by omega)
      omega
theorem pnT_far (ok : PosTo l l.length) : ∀ {i j : Nat}, i ≤ l.length → fiL l i ≤ j → pnT l i j = 0
  | 0, _, _, _ => rfl
  | i + 1, j, hi, hj => by
    have h1 := fiL_succ ok (i := i) (by omega)
    have h2 := ok i (by omega)
    have IH := pnT_far ok (i := i) (j := j) (by omega) (by omega)
    simp only [pnT]
    rw [IH, if_neg (by omega), if_neg (by omega)]
    rfl
theorem pnT_near (ok : PosTo l l.length) {i j : Nat} (hj : j < fiL l i) : ∀ {m : Nat}, i ≤ m → m ≤ l.length → pnT l m j = pnT l i j
  | 0, h, _ => by obtain rfl : i = 0 := by omega
                  rfl
  | m + 1, h, hm => by
    rcases (by omega : i = m + 1 ∨ i ≤ m) with e | e
    · rw [e]
    · have IH := pnT_near ok hj e (by omega)
      have h1 := fiL_mono ok e (by omega)
      have h2 := ok m (by omega)
      simp only [pnT]
      rw [IH, if_neg (by omega), if_neg (by omega)]
      omega
theorem pnT_one {i : Nat} (h : ¬ 1 < ng l i) (j : Nat) : pnT l (i + 1) j = pnT l i j := by
  simp only [pnT]
  rw [if_neg (fun h' => h h'.1), if_neg (fun h' => h h'.1)]
  omega
theorem pnT_two {i : Nat} (h : 1 < ng l i) (j : Nat) : pnT l (i + 1) j = pnT l i j + (if j = fiL l i then 100 else 0) + (if j + 2 = fiL l i + (ng l i).toNat then 150 else 0) := by
  simp only [pnT, h, true_and]
theorem pnT_at (ok : PosTo l l.length) {i k : Nat} (hi : i < l.length) (hk : (k : Int) < ng l i) : pnT l l.length (fiL l i + k) = lnP (ng l i) k := by
  have h1 := fiL_succ ok hi
  rw [pnT_near ok (i := i + 1) (by omega) (by omega) (Nat.le_refl _)]
  simp only [pnT]
  rw [pnT_far ok (by omega) (by omega)]
  unfold lnP
  have h2 := ok i hi
  have c1 : (1 < ng l i ∧ fiL l i + k = fiL l i) ↔ (k = 0 ∧ 1 < ng l i) := by omega
  have c2 : (1 < ng l i ∧ fiL l i + k + 2 = fiL l i + (ng l i).toNat) ↔ ((k : Int) = ng l i - 2) := by omega
  simp only [c1, c2]
  omega
theorem pnT_bd : ∀ (i j : Nat), 0 ≤ pnT l i j ∧ pnT l i j ≤ 250 * (i : Int)
  | 0, _ => by simp [pnT]
  | i + 1, j => by
    have := pnT_bd i j
    simp only [pnT]
    split <;> split <;> omega
theorem fiL_le (ok : OkW l) {i : Nat} (hi : i ≤ l.length) : fiL l i ≤ 40 := by
  have h := fiL_mono ok.1 hi (Nat.le_refl _)
  have := ok.2.1
  unfold fiL at h ⊢
  omega
theorem fiL_pfx (ok : PosTo l l.length) {i : Nat} (hi : i ≤ l.length) : ((fiL l i : Nat) : Int) = pfx l i := by
  have a := (show PosTo l i from fun j hj => ok j (by omega)).ge
  unfold fiL
  omega
theorem len_fiL (ok : PosTo l l.length) : l.length ≤ fiL l l.length := by
  have a := ok.ge
  unfold fiL
  omega
/-- The k-th pair is that of some paragraph. -/
theorem sv_at : ∀ {m k : Nat}, k < (svL l m).length → ∃ i, i < m ∧ (svL l i).length = k ∧ 1 < ng l i ∧ (svL l m)[k]? = some (pfx l i, pfx l i + ng l i - 1)
  | 0, k, h => by simp [svL] at h
  | m + 1, k, h => by
    rcases Nat.lt_or_ge k (svL l m).length with e | e
    · obtain ⟨i, h1, h2, h3, h4⟩ := sv_at (m := m) e
      obtain ⟨t, ht⟩ := svL_pre (l := l) (show m ≤ m + 1 by omega)
      refine ⟨i, by omega, h2, h3, ?_⟩
      rw [ht, List.getElem?_append_left e]
      exact h4
    · by_cases q : 1 < ng l m
      · have e1 : svL l (m + 1) = svL l m ++ [(pfx l m, pfx l m + ng l m - 1)] := by simp only [svL]; rw [if_pos q]
        rw [e1] at h ⊢
        have hk : k = (svL l m).length := by simp at h; omega
        subst hk
        exact ⟨m, by omega, rfl, q, by simp⟩
      · rw [svL_no q] at h
        omega
theorem sv_len_succ {i : Nat} (h : 1 < ng l i) : (svL l (i + 1)).length = (svL l i).length + 1 := by
  simp only [svL]
  rw [if_pos h]
  simp
/-- The penalties after k pairs: of any paragraph before which there are k pairs. -/
theorem pnT_same : ∀ {m i : Nat}, i ≤ m → (svL l m).length = (svL l i).length → ∀ j, pnT l m j = pnT l i j
  | 0, i, h, _, j => by obtain rfl : i = 0 := by omega
                        rfl
  | m + 1, i, h, he, j => by
    rcases (by omega : i = m + 1 ∨ i ≤ m) with e | e
    · rw [e]
    · obtain ⟨t, ht⟩ := svL_pre (l := l) e
      by_cases q : 1 < ng l m
      · have a := sv_len_succ q
        have b : (svL l m).length = (svL l i).length + t.length := by rw [ht, List.length_append]
        omega
      · rw [svL_no q] at he
        rw [pnT_one q]
        exact pnT_same e he j
end
/-- The lines of paragraphs. -/
def tlL (l : List Int) (h : Int) (n : Nat) : List Gp := (List.range n).map fun j => ⟨h, 0, pnT l l.length j⟩
theorem tlL_len {l : List Int} {h : Int} {n : Nat} : (tlL l h n).length = n := by simp [tlL]
theorem tlL_succ {l : List Int} {h : Int} {n : Nat} : tlL l h (n + 1) = tlL l h n ++ [⟨h, 0, pnT l l.length n⟩] := by simp [tlL, List.range_succ]
theorem tlL_at {l : List Int} {h : Int} {n j : Nat} (hj : j < n) : tg (tlL l h n) j = ⟨h, 0, pnT l l.length j⟩ := by rw [tg_lt (by rw [tlL_len]; exact hj)]; simp [tlL]
/-- What TextLines answers. -/
noncomputable def tlO (l : List Int) (h : Int) : List Gp := if okW l && inB h 1 1000 then tlL l h (fiL l l.length) else []
theorem tlO_no {l : List Int} {h : Int} (q : (okW l && inB h 1 1000) = false) : tlO l h = [] := by unfold tlO; rw [q]; rfl
theorem tlO_yes {l : List Int} {h : Int} (q : (okW l && inB h 1 1000) = true) : tlO l h = tlL l h (fiL l l.length) := by unfold tlO; rw [q]; rfl
end Go.Proofs.Ytlfhfbeacleggaa
