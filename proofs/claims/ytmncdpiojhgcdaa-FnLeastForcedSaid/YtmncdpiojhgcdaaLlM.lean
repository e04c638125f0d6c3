/- How many lines a paragraph needs at least: pure maths. -/
import Derived.Test.YtmncdpiojhgcdaaLlS
namespace Go.Proofs.Ytmncdpiojhgcdaa
open Go.ChangeShapes Go.WideShapes Go.ChangeAt Go.RowKit
set_option linter.unusedVariables false
open Classical

theorem llC_bd {L : List It} {d t : Int} : ∀ a b, -200000000 ≤ (llC L d t a b).1 ∧ (llC L d t a b).1 ≤ 200000000 := fun a b => by
  show -200000000 ≤ (1 : Int) ∧ (1 : Int) ≤ 200000000
  omega
theorem llC_has {L : List It} {d t : Int} : ∀ a b, (llC L d t a b).2 = true → hasL L a b = true := fun _ _ h => (coL_has h).1
/-- What is possible at one cost is possible at another one. -/
theorem dp_some2 {C C' : Int → Int → Int × Bool} (h : ∀ a b, (C a b).2 = true → (C' a b).2 = true) : ∀ (m : Nat) {j : Nat} {d : Dn}, j < m → dpD (gB C) j = some d → ∃ d', dpD (gB C') j = some d'
  | 0, _, _, h0, _ => by omega
  | m + 1, j, d, hm, e => by
    rcases Nat.eq_zero_or_pos j with h0 | h0
    · subst h0; exact ⟨_, dpD_zero⟩
    · obtain ⟨hb, x, n, e1, e2, e3, e4⟩ := dpD_from h0 e
      obtain ⟨x', e5⟩ := dp_some2 h m (j := d.2.1) (by omega) e1
      obtain ⟨y, e6, _⟩ := dpD_least hb e5 (gB_yes (h _ _ (gB_of e2).1))
      exact ⟨y, e6⟩
theorem ll_some {L : List It} {d t : Int} (hok : isOk L = true) : (∃ x, dpD (gB (llC L d t)) L.length = some x ∧ llO L d t = x.1 ∧ x.1 = x.2.2 ∧ 1 ≤ x.1 ∧ x.1 ≤ 61) ∨ (dpD (gB (llC L d t)) L.length = none ∧ llO L d t = 0) := by
  have h1 := (okB_last hok).1
  have h2 := (isOk_iff.1 hok).2.1
  rw [llO_yes hok, dpR_cs]
  cases e : dpD (gB (llC L d t)) L.length with
  | none => exact .inr ⟨rfl, rfl⟩
  | some x =>
    have := llD_bd (by omega) (by omega) e
    exact .inl ⟨x, rfl, rfl, llD_one (L.length + 1) (Nat.lt_succ_self _) e, this.1, this.2⟩
theorem ll_bd {L : List It} {d t : Int} : 0 ≤ llO L d t ∧ llO L d t ≤ 61 := by
  cases q : isOk L
  · rw [llO_no q]; omega
  · rcases ll_some (d := d) (t := t) q with ⟨x, _, e, _, h1, h2⟩ | ⟨_, e⟩ <;> omega
/-- There are lines just if there are best breaks. -/
theorem ll_pos {L : List It} {d t : Int} : decide (0 < llO L d t) = (bbV L d t).2.2 := by
  cases q : isOk L
  · rw [llO_no q, bbV_no q]; rfl
  · rw [bbV_yes q]
    unfold dpR
    rcases ll_some (d := d) (t := t) q with ⟨x, e1, e, _, h1, h2⟩ | ⟨e1, e⟩
    · obtain ⟨y, e2⟩ := dp_some2 (C := llC L d t) (C' := fun a b => coL L a b d t) (fun a b h => h) (L.length + 1) (Nat.lt_succ_self _) e1
      rw [e2]
      exact decide_eq_true (by omega)
    · cases e2 : dpD (gB fun a b => coL L a b d t) L.length with
      | none => exact decide_eq_false (by omega)
      | some y =>
        obtain ⟨z, e3⟩ := dp_some2 (C := fun a b => coL L a b d t) (C' := llC L d t) (fun a b h => h) (L.length + 1) (Nat.lt_succ_self _) e2
        rw [e1] at e3
        cases e3
theorem sto_one : ∀ k, sto (fun _ => (1 : Int)) k = (k : Int)
  | 0 => rfl
  | k + 1 => by
    simp only [sto]
    rw [sto_one k]
    omega
/-- No breaks have fewer lines. -/
theorem ll_least {L : List It} {d t : Int} {E : List Int} (h : (cbO L d t E).2 = true) : llO L d t ≤ (E.length : Int) := by
  rw [cbO_eq] at h
  obtain ⟨a, b, c, e⟩ := cbV_true h
  obtain ⟨i, x, e1, e2, e3⟩ := okB_least (L := L) (C := llC L d t) llC_has c E.length (Nat.le_refl _)
  have hb := of_decide_eq_true b
  obtain rfl : i = L.length := by omega
  rw [llO_yes a, dpR_cs, e2]
  have := sto_one E.length
  have e4 : x.1 ≤ sto (fun _ => (1 : Int)) E.length := e3
  show x.1 ≤ _
  omega
theorem fbTo_nF {L : List It} : ∀ k, (fbTo L k).length = nF L k
  | 0 => rfl
  | k + 1 => by
    have := fbTo_nF (L := L) k
    simp only [fbTo, nF]
    split
    · simp; omega
    · omega
/-- As many lines as forced breaks, and not more than breaks. -/
theorem ll_node {L : List It} {d t : Int} : ∀ (m : Nat) {j : Nat} {x : Dn}, j < m → dpD (gB (llC L d t)) j = some x → nF L j ≤ x.2.2 ∧ x.2.2 ≤ (brTo L j).length
  | 0, _, _, h0, _ => by omega
  | m + 1, j, x, hm, e => by
    rcases Nat.eq_zero_or_pos j with h0 | h0
    · subst h0
      have := dpD_zero_of e
      subst this
      exact ⟨Nat.le_refl _, Nat.zero_le _⟩
    · obtain ⟨hb, y, n, e1, e2, e3, e4⟩ := dpD_from h0 e
      obtain ⟨i1, i2⟩ := ll_node m (j := x.2.1) (by omega) e1
      obtain ⟨p, q, g1, g2, g3, g4, _, g6, g7⟩ := hasL_of (llC_has _ _ (gB_of e2).1)
      obtain rfl : p = x.2.1 := by omega
      obtain rfl : j = q + 1 := by omega
      have b1 := (brTo_pre (L := L) g3).1
      rw [brTo_yes g6]
      simp only [nF, List.length_append, List.length_singleton]
      split <;> omega
theorem ll_between {L : List It} {d t : Int} (h : llO L d t ≠ 0) : ((fba L).length : Int) ≤ llO L d t ∧ llO L d t ≤ ((brO L).length : Int) := by
  cases q : isOk L
  · exact absurd (llO_no q) h
  · rw [fba_yes q, brO_yes q, fbTo_nF]
    rcases ll_some (d := d) (t := t) q with ⟨x, e1, e, e5, h1, h2⟩ | ⟨e1, e⟩
    · have := ll_node (L.length + 1) (Nat.lt_succ_self _) e1
      omega
    · exact absurd e h
theorem isF_may {L : List It} {i : Nat} (h : isF (tg L i) = true) : mayE L i = true := by
  have h1 := of_decide_eq_true h
  unfold mayE
  rw [if_neg (by omega), if_pos h1.1]
  exact decide_eq_true (by omega)
/-- The last forced break before. -/
theorem last_forced {L : List It} : ∀ m, ∃ p, p ≤ m ∧ (p = 0 ∨ isF (tg L (p - 1)) = true) ∧ nF L p = nF L m
  | 0 => ⟨0, Nat.le_refl _, .inl rfl, rfl⟩
  | m + 1 => by
    cases q : isF (tg L m)
    · obtain ⟨p, a, b, c⟩ := last_forced (L := L) m
      refine ⟨p, by omega, b, ?_⟩
      simp only [nF]
      rw [q, c]
      rfl
    · exact ⟨m + 1, Nat.le_refl _, .inr q, rfl⟩
theorem bad_le (n h : Int) : bad n h ≤ 10000 := by
  unfold bad
  split
  · omega
  · split
    · omega
    · omega
theorem cl_top (x : Int) : cl x ≤ 10000 := by unfold cl; split <;> omega
/-- At the largest width and tolerance every line is allowed. -/
theorem coL_wide {L : List It} {a b : Int} (h : hasL L a b = true) : (coL L a b 10000 10000).2 = true := by
  have hd : inB 10000 1 10000 = true := inB_yes (by omega) (by omega)
  have ht : inB 10000 0 10000 = true := inB_yes (by omega) (by omega)
  have hy : (hasL L a b && inB 10000 1 10000) = true := by rw [h, hd]; rfl
  have c1 := cl_top (lgW L a b)
  have hf : (ftL L a b 10000).1 ≠ 4 ∧ (ftL L a b 10000).2 ≤ 10000 := by
    rw [ftL_yes hy]
    rcases fit_cases (cl (lgW L a b)) (cl (lgT L a b)) (cl (lgS L a b)) 10000 with ⟨_, e⟩ | ⟨_, e⟩ | ⟨g, _, e⟩ | ⟨g, _, e⟩
    · rw [e]; simp
    · rw [e]; exact ⟨by simp, bad_le _ _⟩
    · omega
    · omega
  rw [coL_yes (by rw [h, hd, ht, decide_eq_true hf.1, decide_eq_true hf.2]; rfl)]
theorem wide_node {L : List It} : ∀ (m : Nat) {k : Nat}, k < m → k ≤ L.length → (k = 0 ∨ isF (tg L (k - 1)) = true) → ∃ x, dpD (gB (llC L 10000 10000)) k = some x ∧ x.1 ≤ (nF L k : Int)
  | 0, _, h0, _, _ => by omega
  | m + 1, k, hm, hk, hf => by
    rcases Nat.eq_zero_or_pos k with h0 | h0
    · subst h0; exact ⟨_, dpD_zero, Int.le_refl _⟩
    · obtain ⟨j, rfl⟩ : ∃ j, k = j + 1 := ⟨k - 1, by omega⟩
      have hj : isF (tg L j) = true := by
        rcases hf with g | g
        · omega
        · rwa [Nat.add_sub_cancel] at g
      obtain ⟨p, a, b, c⟩ := last_forced (L := L) j
      obtain ⟨x, e1, e2⟩ := wide_node m (k := p) (by omega) (by omega) b
      have hl : hasL L ((p : Int) - 1) (((j + 1 : Nat) : Int) - 1) = true := by
        rw [show (((j + 1 : Nat) : Int)) - 1 = (j : Int) by omega]
        unfold hasL
        rw [show ((p : Int) - 1 + 1).toNat = p by omega, show ((j : Int)).toNat = j by omega, isF_may hj, decide_eq_true c, decide_eq_true (show -1 ≤ (p : Int) - 1 by omega), decide_eq_true (show (p : Int) - 1 < (j : Int) by omega), decide_eq_true (show (j : Int) < (L.length : Int) by omega)]
        rcases b with g | g
        · rw [decide_eq_true (show (p : Int) - 1 = -1 by omega)]; rfl
        · rcases Nat.eq_zero_or_pos p with p0 | p0
          · rw [decide_eq_true (show (p : Int) - 1 = -1 by omega)]; rfl
          · rw [show ((p : Int) - 1).toNat = p - 1 by omega, isF_may g]; simp
      obtain ⟨y, e3, e4⟩ := dpD_least (g := gB (llC L 10000 10000)) (show p < j + 1 by omega) e1 (gB_yes (C := llC L 10000 10000) (coL_wide hl))
      refine ⟨y, e3, ?_⟩
      have e5 : y.1 ≤ x.1 + 1 := e4
      simp only [nF]
      rw [if_pos hj]
      omega
theorem ll_wide {L : List It} (hok : isOk L = true) : llO L 10000 10000 = ((fba L).length : Int) := by
  obtain ⟨h1, h2, _⟩ := okB_last hok
  obtain ⟨x, e1, e2⟩ := wide_node (L := L) (L.length + 1) (Nat.lt_succ_self _) (Nat.le_refl _) (.inr h2)
  rcases ll_some (d := 10000) (t := 10000) hok with ⟨y, e3, e, _, h3, h4⟩ | ⟨e3, e⟩
  · rw [e1] at e3
    cases e3
    have := ll_between (L := L) (d := 10000) (t := 10000) (by omega)
    rw [fba_yes hok, fbTo_nF] at this ⊢
    omega
  · rw [e1] at e3; cases e3
/-- A larger tolerance leaves the cost of a line as it is. -/
theorem coL_tol {L : List It} {a b d t : Int} (h : (coL L a b d t).2 = true) : coL L a b d 10000 = coL L a b d t := by
  cases q : (hasL L a b && inB d 1 10000 && inB t 0 10000 && decide ((ftL L a b d).1 ≠ 4) && decide ((ftL L a b d).2 ≤ t))
  · rw [coL_no q] at h; cases h
  · rw [coL_yes q, coL_yes]
    simp only [Bool.and_eq_true, decide_eq_true_eq] at q ⊢
    obtain ⟨⟨⟨⟨h1, h2⟩, h3⟩, h4⟩, h5⟩ := q
    have := inB_iff.1 h3
    exact ⟨⟨⟨⟨h1, h2⟩, inB_yes (by omega) (by omega)⟩, h4⟩, by omega⟩
theorem bb_tol {L : List It} {d t : Int} (e : (bbV L d t).2.2 = true) : (bbV L d 10000).2.2 = true ∧ (bbV L d 10000).2.1 ≤ (bbV L d t).2.1 := by
  obtain ⟨h1, h2, _⟩ := bb_check e
  obtain ⟨E, hE⟩ : ∃ E, E = (bbV L d t).1 := ⟨_, rfl⟩
  rw [← hE] at h2
  have h3 : (cbO L d t E).2 = true := by rw [h2]
  rw [cbO_eq] at h3 h2
  obtain ⟨a, b, c, f⟩ := cbV_true h3
  have h4 : cbO L d 10000 E = ((bbV L d t).2.1, true) := by
    rw [cbO_eq, cbV_of a b (fun j hj => by rw [coL_tol (c j hj)]; exact c j hj)]
    rw [h2] at f
    have f' : (bbV L d t).2.1 = sto (fun j => (coL L (frm (-1) E j) (ng E j) d t).1) E.length := f
    rw [f']
    congr 1
    exact sto_congr (fun j hj => by rw [coL_tol (c j hj)])
  have := bb_least (L := L) (d := d) (t := 10000) (E := E) (by rw [h4])
  rw [h4] at this
  exact this
end Go.Proofs.Ytmncdpiojhgcdaa
