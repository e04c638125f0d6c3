/- Best breaks, pure maths: breaks in their order, costs of lines as a table takes them, what the best ones cost. -/
import Derived.Test.YtafddofajfcffaaDp
import Derived.Test.YtafddofajfcffaaCost
import Derived.Test.YtafddofajfcffaaRb
namespace Go.Proofs.Ytafddofajfcffaa
open Go.ChangeShapes Go.WideShapes Go.ChangeAt Go.RowKit
set_option linter.unusedVariables false

theorem coL_has {L : List It} {a b d t : Int} (h : (coL L a b d t).2 = true) : hasL L a b = true ∧ inB d 1 10000 = true ∧ inB t 0 10000 = true := by
  cases q : (hasL L a b && inB d 1 10000 && inB t 0 10000 && decide ((ftL L a b d).1 ≠ 4) && decide ((ftL L a b d).2 ≤ t))
  · rw [coL_no q] at h; cases h
  · simp only [Bool.and_eq_true] at q
    exact ⟨q.1.1.1.1, q.1.1.1.2, q.1.1.2⟩
theorem dem_bd {b p : Int} (f : Bool) (h0 : 0 ≤ b) (h : b ≤ 10000) (k : -1000 ≤ p ∧ p ≤ 999) : -200000000 ≤ dem b p f ∧ dem b p f ≤ 200000000 := by
  have s1 : (1 + b) * (1 + b) ≤ 10001 * 10001 := sq_mono (by omega) (by omega)
  have s2 := sq_nn (1 + b)
  have s3 : p * p ≤ 1000 * 1000 := by
    rcases (by omega : 0 ≤ p ∨ p < 0) with g | g
    · exact sq_mono g (by omega)
    · rw [← Int.neg_mul_neg]; exact sq_mono (by omega) (by omega)
  have s4 := sq_nn p
  have s5 : 0 ≤ p → (1 + b + p) * (1 + b + p) ≤ 11000 * 11000 := fun g => sq_mono (by omega) (by omega)
  have s6 := sq_nn (1 + b + p)
  unfold dem
  split
  · next g => have := s5 g; split <;> omega
  · split <;> split <;> omega
theorem coL_bd {L : List It} (hall : ∀ i, i < L.length → itOk (tg L i) = true) (a b d t : Int) : -200000000 ≤ (coL L a b d t).1 ∧ (coL L a b d t).1 ≤ 200000000 := by
  cases q : (hasL L a b && inB d 1 10000 && inB t 0 10000 && decide ((ftL L a b d).1 ≠ 4) && decide ((ftL L a b d).2 ≤ t))
  · rw [coL_no q]; simp
  · rw [coL_yes q]
    simp only [Bool.and_eq_true, decide_eq_true_eq] at q
    obtain ⟨⟨⟨⟨h1, h2⟩, h3⟩, _⟩, h5⟩ := q
    obtain ⟨p, q', hp, rfl, hpq, hq, _, hme, _⟩ := hasL_of h1
    exact dem_bd _ (ftL_bad hall (by rw [h1, h2]; rfl)) (by have := inB_iff.1 h3; omega) (mayE_p hall hq hme)
theorem ng_appB {E : List Int} {x : Int} {i : Nat} (h : i < E.length) : ng (E ++ [x]) i = ng E i := by
  unfold ng
  simp [List.getD, List.getElem?_append_left h]
theorem ng_lastB {E : List Int} {x : Int} : ng (E ++ [x]) E.length = x := by
  unfold ng
  simp [List.getD]
theorem frm_appB {s : Int} {E : List Int} {x : Int} {i : Nat} (h : i ≤ E.length) : frm s (E ++ [x]) i = frm s E i := by
  cases i with
  | zero => rfl
  | succ i =>
    rw [frm_succ, frm_succ]
    exact ng_appB (by omega)
/-! Breaks in their order. -/
theorem brTo_yes {L : List It} {k : Nat} (h : mayE L k = true) : brTo L (k + 1) = brTo L k ++ [(k : Int)] := by
  show (if _ then _ else _) = _
  rw [if_pos h]
theorem brTo_no {L : List It} {k : Nat} (h : mayE L k = false) : brTo L (k + 1) = brTo L k := by
  show (if _ then _ else _) = _
  rw [if_neg (by rw [h]; simp)]
theorem brTo_pre {L : List It} {i : Nat} : ∀ {m : Nat}, i ≤ m → (brTo L i).length ≤ (brTo L m).length ∧ ∀ k, k < (brTo L i).length → ng (brTo L m) k = ng (brTo L i) k
  | 0, h => by
    obtain rfl : i = 0 := by omega
    exact ⟨Nat.le_refl _, fun _ _ => rfl⟩
  | m + 1, h => by
    rcases (by omega : i = m + 1 ∨ i ≤ m) with e | e
    · subst e; exact ⟨Nat.le_refl _, fun _ _ => rfl⟩
    · obtain ⟨a, b⟩ := brTo_pre (L := L) e
      cases q : mayE L m
      · rw [brTo_no q]; exact ⟨a, b⟩
      · rw [brTo_yes q]
        refine ⟨by simp; omega, fun k hk => ?_⟩
        rw [ng_appB (by omega)]
        exact b k hk
theorem brTo_at {L : List It} {i m : Nat} (h : i < m) (hm : mayE L i = true) : (brTo L i).length < (brTo L m).length ∧ ng (brTo L m) (brTo L i).length = i := by
  obtain ⟨a, b⟩ := brTo_pre (L := L) (show i + 1 ≤ m from h)
  rw [brTo_yes hm] at a b
  have hl : (brTo L i ++ [(i : Int)]).length = (brTo L i).length + 1 := by simp
  rw [hl] at a b
  exact ⟨by omega, (b _ (by omega)).trans ng_lastB⟩
theorem brTo_get {L : List It} : ∀ {m k : Nat}, k < (brTo L m).length → ∃ i, i < m ∧ ng (brTo L m) k = (i : Int) ∧ mayE L i = true ∧ (brTo L i).length = k
  | 0, k, h => by simp [brTo] at h
  | m + 1, k, h => by
    cases q : mayE L m
    · rw [brTo_no q] at h ⊢
      obtain ⟨i, a, b, c, e⟩ := brTo_get h
      exact ⟨i, by omega, b, c, e⟩
    · rw [brTo_yes q] at h ⊢
      rw [List.length_append] at h
      simp at h
      rcases (by omega : k < (brTo L m).length ∨ k = (brTo L m).length) with e | e
      · obtain ⟨i, a, b, c, e'⟩ := brTo_get e
        exact ⟨i, by omega, by rw [ng_appB e]; exact b, c, e'⟩
      · subst e
        exact ⟨m, by omega, ng_lastB, q, rfl⟩
/-! Nodes: the beginning, and behind each item. -/
def nbB (L : List It) : Nat := (brTo L L.length).length
def piB (L : List It) : Nat → Nat
  | 0 => 0
  | k + 1 => (ng (brTo L L.length) k).toNat + 1
abbrev ndB (j : Nat) : Int := (j : Int) - 1
def plB (L : List It) (k : Nat) : Int × Bool := (ng (brTo L L.length) k, isF (tg L (ng (brTo L L.length) k).toNat))
theorem piB_at {L : List It} {k : Nat} (hk : k < nbB L) : ∃ i, i < L.length ∧ mayE L i = true ∧ (brTo L i).length = k ∧ piB L (k + 1) = i + 1 ∧ plB L k = ((i : Int), isF (tg L i)) := by
  obtain ⟨i, a, b, c, e⟩ := brTo_get hk
  refine ⟨i, a, c, e, ?_, ?_⟩
  · show (ng _ k).toNat + 1 = _
    rw [b]; rfl
  · unfold plB
    rw [b]; rfl
theorem brTo_lt {L : List It} {i j : Nat} (h : (brTo L i).length < (brTo L j).length) : i < j := by
  rcases (by omega : i < j ∨ j ≤ i) with e | e
  · exact e
  · have := (brTo_pre (L := L) e).1; omega
theorem piB_inc {L : List It} {k : Nat} (hk : k < nbB L) : piB L k < piB L (k + 1) := by
  obtain ⟨i, a, b, c, e, _⟩ := piB_at hk
  rw [e]
  cases k with
  | zero => show 0 < i + 1; omega
  | succ k =>
    obtain ⟨i', a', b', c', e', _⟩ := piB_at (L := L) (k := k) (by omega)
    rw [e']
    have := brTo_lt (L := L) (i := i') (j := i) (by omega)
    omega
theorem piB_gap {L : List It} {k m : Nat} (hk : k < nbB L) (h1 : piB L k < m) (h2 : m < piB L (k + 1)) : mayE L (m - 1) = false := by
  obtain ⟨i, a, b, c, e, _⟩ := piB_at hk
  rw [e] at h2
  cases q : mayE L (m - 1)
  · rfl
  · exfalso
    have h3 := (brTo_at (L := L) (i := m - 1) (m := i) (by omega) q).1
    cases k with
    | zero => omega
    | succ k =>
      obtain ⟨i', a', b', c', e', _⟩ := piB_at (L := L) (k := k) (by omega)
      rw [e'] at h1
      have h4 := (brTo_at (L := L) (i := i') (m := m - 1) (by omega) b').1
      omega
/-! The costs. -/
def gB (C : Int → Int → Int × Bool) (i j : Nat) : Option Int := if (C ((i : Int) - 1) ((j : Int) - 1)).2 = true then some (C ((i : Int) - 1) ((j : Int) - 1)).1 else none
section
variable {L : List It} {C : Int → Int → Int × Bool}
theorem gB_yes {i j : Nat} (e : (C ((i : Int) - 1) ((j : Int) - 1)).2 = true) : gB C i j = some (C ((i : Int) - 1) ((j : Int) - 1)).1 := if_pos e
theorem gB_no {i j : Nat} (e : (C ((i : Int) - 1) ((j : Int) - 1)).2 = false) : gB C i j = none := if_neg (by rw [e]; simp)
theorem gB_of {i j : Nat} {n : Int} (e : gB C i j = some n) : (C ((i : Int) - 1) ((j : Int) - 1)).2 = true ∧ (C ((i : Int) - 1) ((j : Int) - 1)).1 = n := by
  unfold gB at e
  split at e
  · next h => cases e; exact ⟨h, rfl⟩
  · cases e
theorem gB_bd {M : Int} (hM : ∀ a b, -M ≤ (C a b).1 ∧ (C a b).1 ≤ M) {i j : Nat} {n : Int} (e : gB C i j = some n) : -M ≤ n ∧ n ≤ M := by
  obtain ⟨_, e⟩ := gB_of e
  have := hM ((i : Int) - 1) ((j : Int) - 1)
  rwa [e] at this
theorem gB_hasNo (hC : ∀ a b, (C a b).2 = true → hasL L a b = true) {i j : Nat} (h : hasL L ((i : Int) - 1) ((j : Int) - 1) = false) : gB C i j = none := by
  apply gB_no
  cases q : (C ((i : Int) - 1) ((j : Int) - 1)).2
  · rfl
  · have := hC _ _ q; rw [h] at this; cases this
theorem dpB_none (hC : ∀ a b, (C a b).2 = true → hasL L a b = true) {m : Nat} (h0 : 0 < m) (h : mayE L (m - 1) = false) : dpD (gB C) m = none := by
  rw [dpD_succ h0]
  refine bst_none fun i hi => gB_hasNo hC ?_
  obtain ⟨q, rfl⟩ : ∃ q, m = q + 1 := ⟨m - 1, by omega⟩
  rw [show (((q + 1 : Nat) : Int)) - 1 = (q : Int) by omega]
  exact hasL_5 h
theorem afB_of {pl : Nat → Int × Bool} {pi : Nat → Nat} : ∀ {k : Nat}, afN pl pi k = 0 ∨ ∃ k', k' < k ∧ afN pl pi k = pi (k' + 1) ∧ (pl k').2 = true
  | 0 => .inl rfl
  | k + 1 => by
    simp only [afN]
    by_cases h : (pl k).2 = true
    · rw [if_pos h]; exact .inr ⟨k, by omega, rfl, h⟩
    · rw [if_neg h]
      rcases afB_of (pl := pl) (pi := pi) (k := k) with e | ⟨k', a, b, c⟩
      · exact .inl e
      · exact .inr ⟨k', by omega, b, c⟩
theorem hasL_past {i j : Nat} {q f : Nat} (hf : isF (tg L f) = true) (h1 : i ≤ f) (h2 : f < q) : hasL L ((i : Int) - 1) q = false := by
  cases h : hasL L ((i : Int) - 1) q
  · rfl
  · obtain ⟨p, q', e1, e2, e3, e4, _, _, e7⟩ := hasL_of h
    obtain rfl : p = i := by omega
    obtain rfl : q' = q := by omega
    have := (nF_eq (L := L) e3).1 e7 f (by omega) h2
    rw [hf] at this; cases this
theorem piB_mono {k m : Nat} (hm : m ≤ nbB L) (h : k ≤ m) : piB L k ≤ piB L m := by
  induction m with
  | zero => obtain rfl : k = 0 := by omega
            exact Nat.le_refl _
  | succ m ih =>
    rcases (by omega : k = m + 1 ∨ k ≤ m) with e | e
    · subst e; exact Nat.le_refl _
    · have := ih (by omega) e
      have := piB_inc (L := L) (k := m) (by omega)
      omega
theorem isDp_lines (hC : ∀ a b, (C a b).2 = true → hasL L a b = true) : IsDp (fun _ a b => C a b) (-1) (plB L) (nbB L) (gB C) ndB (piB L) where
  one := fun p a t => rfl
  p0 := rfl
  inc := fun k hk => piB_inc hk
  gap := fun k hk m h1 h2 => dpB_none hC (by omega) (piB_gap hk h1 h2)
  n0 := rfl
  at_ := fun k hk => by
    obtain ⟨i, _, _, _, e1, e2⟩ := piB_at hk
    rw [e1, e2]
    show (((i + 1 : Nat) : Int)) - 1 = (i : Int)
    omega
  yes := fun k hk i _ _ _ e => gB_yes e
  no := fun k hk i _ _ _ e => gB_no e
  passed := fun k hk i hi => by
    rcases afB_of (pl := plB L) (pi := piB L) (k := k) with e | ⟨k', a, b, c⟩
    · omega
    · obtain ⟨f, _, _, _, e1, e2⟩ := piB_at (L := L) (k := k') (by omega)
      obtain ⟨q, _, _, _, e3, _⟩ := piB_at hk
      have hm := piB_mono (L := L) (k := k' + 1) (m := k) (by omega) (by omega)
      have hi2 := piB_inc hk
      rw [e2] at c
      apply gB_hasNo hC
      rw [e3, show (((q + 1 : Nat) : Int)) - 1 = (q : Int) by omega]
      exact hasL_past (j := 0) (f := f) c (by omega) (by omega)
theorem okB_last (ok : isOk L = true) : 1 ≤ L.length ∧ isF (tg L (L.length - 1)) = true ∧ mayE L (L.length - 1) = true := by
  obtain ⟨a, ⟨b, b'⟩, c⟩ := isOk_iff.1 ok
  refine ⟨b, decide_eq_true c, ?_⟩
  unfold mayE
  rw [if_neg (by omega), if_pos (by omega)]
  exact decide_eq_true (by omega)
theorem nbB_top (ok : isOk L = true) : 0 < nbB L ∧ piB L (nbB L) = L.length ∧ afN (plB L) (piB L) (nbB L) = piB L (nbB L) ∧ nbB L ≤ L.length := by
  obtain ⟨h1, h2, h3⟩ := okB_last ok
  have hb : brTo L L.length = brTo L (L.length - 1) ++ [((L.length - 1 : Nat) : Int)] := by
    have := brTo_yes h3
    rwa [show L.length - 1 + 1 = L.length by omega] at this
  have hn : nbB L = (brTo L (L.length - 1)).length + 1 := by
    unfold nbB; rw [hb]; simp
  have hg : ng (brTo L L.length) (nbB L - 1) = ((L.length - 1 : Nat) : Int) := by
    rw [hn, hb, Nat.add_sub_cancel]; exact ng_lastB
  have hpl : (plB L (nbB L - 1)).2 = true := by
    show isF (tg L (ng _ _).toNat) = true
    rw [hg]; exact h2
  obtain ⟨m, hm⟩ : ∃ m, nbB L = m + 1 := ⟨nbB L - 1, by omega⟩
  refine ⟨by omega, ?_, ?_, brTo_len L _⟩
  · rw [hm]
    show (ng _ m).toNat + 1 = _
    rw [show m = nbB L - 1 by omega, hg, Int.toNat_natCast]
    omega
  · rw [hm]
    simp only [afN]
    rw [if_pos]
    rw [show m = nbB L - 1 by omega]
    exact hpl
/-! Ways that are checked, and that none are better. -/
theorem bkB_ok : ∀ (m : Nat) {j : Nat} {d : Dn}, j < m → dpD (gB C) j = some d →
    (bkL (gB C) ndB d.2.2 j).length = d.2.2 ∧ frm (-1) (bkL (gB C) ndB d.2.2 j) d.2.2 = (j : Int) - 1 ∧ okT (-1) (bkL (gB C) ndB d.2.2 j) (fun _ a b => C a b) d.2.2 ∧ sto (fun k => (C (frm (-1) (bkL (gB C) ndB d.2.2 j) k) (ng (bkL (gB C) ndB d.2.2 j) k)).1) d.2.2 = d.1
  | 0, _, _, h0, _ => by omega
  | m + 1, j, d, hm, e => by
    rcases Nat.eq_zero_or_pos j with h0 | h0
    · subst h0
      have := dpD_zero_of e
      subst this
      exact ⟨rfl, rfl, fun i hi => by simp at hi, rfl⟩
    · obtain ⟨hb, x, n, e1, e2, e3, e4⟩ := dpD_from h0 e
      obtain ⟨i1, i2, i3, i4⟩ := bkB_ok m (j := d.2.1) (by omega) e1
      have hB : bkL (gB C) ndB d.2.2 j = bkL (gB C) ndB x.2.2 d.2.1 ++ [(j : Int) - 1] := by
        rw [e4]
        show bkL _ _ _ (bfN _ j) ++ _ = _
        rw [bfN_of e]
      obtain ⟨E, hE⟩ : ∃ E, E = bkL (gB C) ndB x.2.2 d.2.1 := ⟨_, rfl⟩
      rw [← hE] at i1 i2 i3 i4 hB
      rw [hB]
      have hp := gB_of e2
      have hl : (E ++ [(j : Int) - 1]).length = E.length + 1 := by simp
      have hfr : frm (-1) (E ++ [(j : Int) - 1]) E.length = (d.2.1 : Int) - 1 := by rw [frm_appB (Nat.le_refl _), i1]; exact i2
      rw [e4, ← i1]
      refine ⟨hl, by rw [frm_succ, ng_lastB], fun i hi => ?_, ?_⟩
      · rcases (by omega : i < E.length ∨ i = E.length) with e5 | e5
        · rw [frm_appB (by omega), ng_appB e5]
          exact i3 i (by omega)
        · subst e5
          rw [hfr, ng_lastB]
          exact hp.1
      · simp only [sto]
        rw [hfr, ng_lastB, hp.2, e3, ← i4, ← i1]
        congr 1
        exact sto_congr (fun k hk => by rw [frm_appB (by omega), ng_appB hk])
theorem okB_least (hC : ∀ a b, (C a b).2 = true → hasL L a b = true) {E : List Int} (hE : okT (-1) E (fun _ a b => C a b) E.length) : ∀ k, k ≤ E.length → ∃ (i : Nat) (d : Dn), frm (-1) E k = (i : Int) - 1 ∧ dpD (gB C) i = some d ∧ d.1 ≤ sto (fun k => (C (frm (-1) E k) (ng E k)).1) k := fun k => by
  induction k with
  | zero => intro _; exact ⟨0, (0, 0, 0), rfl, rfl, Int.le_refl _⟩
  | succ k ih =>
    intro hk
    obtain ⟨i, d, e1, e2, e3⟩ := ih (by omega)
    have f0 := hE k hk
    obtain ⟨p, q, g1, g2, g3, g4, _⟩ := hasL_of (hC _ _ f0)
    obtain rfl : p = i := by omega
    have hq : ng E k = (((q + 1 : Nat) : Int)) - 1 := by omega
    rw [e1, hq] at f0
    obtain ⟨d', k1, k2⟩ := dpD_least (g := gB C) (show p < q + 1 by omega) e2 (gB_yes f0)
    refine ⟨q + 1, d', by rw [frm_succ]; exact hq, k1, ?_⟩
    simp only [sto]
    rw [e1, hq]
    omega
/-- Lines that divide a paragraph end at all forced breaks. -/
theorem okB_forced {E : List Int} (hE : okT (-1) E (fun _ a b => (0, hasL L a b)) E.length) {f : Nat} (hf : isF (tg L f) = true) : ∀ k, k ≤ E.length → (f : Int) ≤ frm (-1) E k → ∃ m, m < E.length ∧ ng E m = f
  | 0, _, h => by rw [frm_zero] at h; omega
  | k + 1, hk, h => by
    rcases (by omega : (f : Int) ≤ frm (-1) E k ∨ frm (-1) E k < (f : Int)) with g | g
    · exact okB_forced hE hf k (by omega) g
    · rw [frm_succ] at h
      rcases (by omega : ng E k = f ∨ (f : Int) < ng E k) with e | e
      · exact ⟨k, by omega, e⟩
      · exfalso
        have f0 : hasL L (frm (-1) E k) (ng E k) = true := hE k (by omega)
        obtain ⟨p, q, g1, g2, g3, g4, _⟩ := hasL_of f0
        rw [g2, show frm (-1) E k = (p : Int) - 1 by omega] at f0
        rw [hasL_past (j := 0) hf (by omega) (by omega)] at f0
        cases f0
end
end Go.Proofs.Ytafddofajfcffaa
