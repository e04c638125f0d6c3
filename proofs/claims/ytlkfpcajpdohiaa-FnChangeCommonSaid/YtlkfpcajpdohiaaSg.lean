/- Several texts of one claim, one behind the other. -/
import Derived.Test.YtlkfpcajpdohiaaSf
import Derived.Test.YtlkfpcajpdohiaaSb
import Derived.Test.YtlkfpcajpdohiaaSa
/- The cost of a line, in the program. -/
namespace Go.Proofs.Ytlkfpcajpdohiaa
open Go.ChangeShapes Go.WideShapes Go.ChangeAt Go.RowKit
set_option linter.unusedVariables false
set_option linter.unusedSimpArgs false

/-- The cost of a line and whether it is allowed. -/
noncomputable def coL (L : List It) (a b d t : Int) : Int × Bool :=
  if hasL L a b && inB d 1 10000 && inB t 0 10000 && decide ((ftL L a b d).1 ≠ 4) && decide ((ftL L a b d).2 ≤ t) then
    (dem (ftL L a b d).2 (tg L b.toNat).p ((decide (0 ≤ a) && (tg L a.toNat).f) && (tg L b.toNat).f), true) else (0, false)
theorem ftL_zero {L : List It} {a b d : Int} (h : (hasL L a b && inB d 1 10000) = true) : (ftL L a b d).1 = 1 ∨ (ftL L a b d).1 = 2 ∨ (ftL L a b d).1 = 3 ∨ (ftL L a b d).1 = 4 := by
  rw [ftL_yes h]
  rcases fit_cases (cl (lgW L a b)) (cl (lgT L a b)) (cl (lgS L a b)) d with ⟨_, e⟩ | ⟨_, e⟩ | ⟨_, _, e⟩ | ⟨_, _, e⟩ <;> rw [e] <;> simp
theorem coL_no {L : List It} {a b d t : Int} (h : (hasL L a b && inB d 1 10000 && inB t 0 10000 && decide ((ftL L a b d).1 ≠ 4) && decide ((ftL L a b d).2 ≤ t)) = false) : coL L a b d t = (0, false) := by unfold coL; rw [h]; rfl
theorem coL_yes {L : List It} {a b d t : Int} (h : (hasL L a b && inB d 1 10000 && inB t 0 10000 && decide ((ftL L a b d).1 ≠ 4) && decide ((ftL L a b d).2 ≤ t)) = true) : coL L a b d t = (dem (ftL L a b d).2 (tg L b.toNat).p ((decide (0 ≤ a) && (tg L a.toNat).f) && (tg L b.toNat).f), true) := by simp only [coL, h, if_true]
theorem pn_ok {x : It} (h : itOk x = true) : pnP x = x.p ∧ pnF x = x.f := by
  unfold pnP pnF
  rcases iok_iff.1 h with h | h | h
  · rw [if_neg (by omega), if_neg (by omega)]; exact ⟨by omega, h.2.2.2.2.2.symm⟩
  · rw [if_neg (by omega), if_neg (by omega)]; exact ⟨by omega, h.2.2.2.2.2.symm⟩
  · rw [if_pos (by omega), if_pos (by omega)]; exact ⟨rfl, rfl⟩
theorem bad_in {n h : Int} (n0 : 0 ≤ n) (h0 : 0 ≤ h) : 0 ≤ bad n h := by
  unfold bad
  split
  · omega
  · split
    · omega
    · have a : 0 ≤ 100 * n * n * n := Int.mul_nonneg (Int.mul_nonneg (Int.mul_nonneg (by omega) n0) n0) n0
      have b : 0 ≤ h * h * h := Int.mul_nonneg (Int.mul_nonneg h0 h0) h0
      have c := Int.ediv_nonneg a b
      omega
theorem ftL_bad {L : List It} (hall : ∀ i, i < L.length → itOk (tg L i) = true) {a b d : Int} (h : (hasL L a b && inB d 1 10000) = true) : 0 ≤ (ftL L a b d).2 := by
  rw [ftL_yes h]
  rw [Bool.and_eq_true] at h
  obtain ⟨p, q, hp, rfl, hpq, hq, _⟩ := hasL_of h.1
  obtain ⟨e1, e2, e3⟩ := lg_eqs (L := L) (q := q) hp
  obtain ⟨b1, b2, b3⟩ := lg_bd (p := p) hall hq (min (fBx L p) q) (Nat.min_le_right _ _)
  rw [← e1] at b1
  rw [← e2] at b2
  rw [← e3] at b3
  rcases fit_cases (cl (lgW L a q)) (cl (lgT L a q)) (cl (lgS L a q)) d with ⟨_, e⟩ | ⟨g, e⟩ | ⟨g, _, e⟩ | ⟨_, _, e⟩ <;> rw [e]
  · exact Int.le_refl _
  · exact bad_in (by omega) (cl_in b2).1
  · exact bad_in (by omega) (cl_in b3).1
  · simp
theorem mayE_p {L : List It} (hall : ∀ i, i < L.length → itOk (tg L i) = true) {q : Nat} (hq : q < L.length) (h : mayE L q = true) : -1000 ≤ (tg L q).p ∧ (tg L q).p ≤ 999 := by
  unfold mayE at h
  rcases iok_iff.1 (hall q hq) with x | x | x
  · omega
  · omega
  · rw [if_neg (by omega), if_pos (by omega)] at h
    have := of_decide_eq_true h
    omega
end Go.Proofs.Ytlkfpcajpdohiaa

/- Best breaks, pure maths: breaks in their order, costs of lines as a table takes them, what the best ones cost. -/
namespace Go.Proofs.Ytlkfpcajpdohiaa
open Go.ChangeShapes Go.WideShapes Go.ChangeAt Go.RowKit
set_option linter.unusedVariables false

theorem coL_has {L : List It} {a b d t : Int} (h : (coL L a b d t).2 = true) : hasL L a b = true ∧ inB d 1 10000 = true ∧ inB t 0 10000 = true := by
  cases q : (hasL L a b && inB d 1 10000 && inB t 0 10000 && decide ((ftL L a b d).1 ≠ 4) && decide ((ftL L a b d).2 ≤ t))
  · rw [coL_no q] at h; cases h
  · simp only [Bool.and_eq_true] at q
    exact ⟨q.1.1.1.1, q.1.1.1.2, q.1.1.2⟩
theorem dem_bd {b p : Int} (f : Bool) (h0 : 0 ≤ b) (h : b ≤ 10000) (k : -1000 ≤ p ∧ p ≤ 999) : -200000000 ≤ dem b p f ∧ dem b p f ≤ 200000000 := by
  have s1 : (1 + b) * (1 + b) ≤ 10001 * 10001 := sq_mono (by omega) (by omega)
  have s2 := sq_nn (1 + b)
  have s3 : p * p ≤ 1000 * 1000 := by
    rcases (by omega : 0 ≤ p ∨ p < 0) with g | g
    · exact sq_mono g (by omega)
    · rw [← Int.neg_mul_neg]; exact sq_mono (by omega) (by omega)
  have s4 := sq_nn p
  have s5 : 0 ≤ p → (1 + b + p) * (1 + b + p) ≤ 11000 * 11000 := fun g => sq_mono (by omega) (by omega)
  have s6 := sq_nn (1 + b + p)
  unfold dem
  split
  · next g => have := s5 g; split <;> omega
  · split <;> split <;> omega
theorem coL_bd {L : List It} (hall : ∀ i, i < L.length → itOk (tg L i) = true) (a b d t : Int) : -200000000 ≤ (coL L a b d t).1 ∧ (coL L a b d t).1 ≤ 200000000 := by
  cases q : (hasL L a b && inB d 1 10000 && inB t 0 10000 && decide ((ftL L a b d).1 ≠ 4) && decide ((ftL L a b d).2 ≤ t))
  · rw [coL_no q]; simp
  · rw [coL_yes q]
    simp only [Bool.and_eq_true, decide_eq_true_eq] at q
    obtain ⟨⟨⟨⟨h1, h2⟩, h3⟩, _⟩, h5⟩ := q
    obtain ⟨p, q', hp, rfl, hpq, hq, _, hme, _⟩ := hasL_of h1
    exact dem_bd _ (ftL_bad hall (by rw [h1, h2]; rfl)) (by have := inB_iff.1 h3; omega) (mayE_p hall hq hme)
theorem ng_appB {E : List Int} {x : Int} {i : Nat} (h : i < E.length) : ng (E ++ [x]) i = ng E i := by
  unfold ng
  simp [List.getD, List.getElem?_append_left h]
theorem ng_lastB {E : List Int} {x : Int} : ng (E ++ [x]) E.length = x := by
  unfold ng
  simp [List.getD]
theorem frm_appB {s : Int} {E : List Int} {x : Int} {i : Nat} (h : i ≤ E.length) : frm s (E ++ [x]) i = frm s E i := by
  cases i with
  | zero => rfl
  | succ i =>
    rw [frm_succ, frm_succ]
    exact ng_appB (by omega)
/-! Breaks in their order. -/
theorem brTo_yes {L : List It} {k : Nat} (h : mayE L k = true) : brTo L (k + 1) = brTo L k ++ [(k : Int)] := by
  show (if _ then _ else _) = _
  rw [if_pos h]
theorem brTo_no {L : List It} {k : Nat} (h : mayE L k = false) : brTo L (k + 1) = brTo L k := by
  show (if _ then _ else _) = _
  rw [if_neg (by rw [h]; simp)]
theorem brTo_pre {L : List It} {i : Nat} : ∀ {m : Nat}, i ≤ m → (brTo L i).length ≤ (brTo L m).length ∧ ∀ k, k < (brTo L i).length → ng (brTo L m) k = ng (brTo L i) k
  | 0, h => by
    obtain rfl : i = 0 := by omega
    exact ⟨Nat.le_refl _, fun _ _ => rfl⟩
  | m + 1, h => by
    rcases (by omega : i = m + 1 ∨ i ≤ m) with e | e
    · subst e; exact ⟨Nat.le_refl _, fun _ _ => rfl⟩
    · obtain ⟨a, b⟩ := brTo_pre (L := L) e
      cases q : mayE L m
      · rw [brTo_no q]; exact ⟨a, b⟩
      · rw [brTo_yes q]
        refine ⟨by simp; omega, fun k hk => ?_⟩
        rw [ng_appB (by omega)]
        exact b k hk
theorem brTo_at {L : List It} {i m : Nat} (h : i < m) (hm : mayE L i = true) : (brTo L i).length < (brTo L m).length ∧ ng (brTo L m) (brTo L i).length = i := by
  obtain ⟨a, b⟩ := brTo_pre (L := L) (show i + 1 ≤ m from h)
  rw [brTo_yes hm] at a b
  have hl : (brTo L i ++ [(i : Int)]).length = (brTo L i).length + 1 := by simp
  rw [hl] at a b
  exact ⟨by omega, (b _ (by omega)).trans ng_lastB⟩
theorem brTo_get {L : List It} : ∀ {m k : Nat}, k < (brTo L m).length → ∃ i, i < m ∧ ng (brTo L m) k = (i : Int) ∧ mayE L i = true ∧ (brTo L i).length = k
  | 0, k, h => by simp [brTo] at h
  | m + 1, k, h => by
    cases q : mayE L m
    · rw [brTo_no q] at h ⊢
      obtain ⟨i, a, b, c, e⟩ := brTo_get h
      exact ⟨i, by omega, b, c, e⟩
    · rw [brTo_yes q] at h ⊢
      rw [List.length_append] at h
      simp at h
      rcases (by omega : k < (brTo L m).length ∨ k = (brTo L m).length) with e | e
      · obtain ⟨i, a, b, c, e'⟩ := brTo_get e
        exact ⟨i, by omega, by rw [ng_appB e]; exact b, c, e'⟩
      · subst e
        exact ⟨m, by omega, ng_lastB, q, rfl⟩
/-! Nodes: the beginning, and behind each item. -/
def nbB (L : List It) : Nat := (brTo L L.length).length
def piB (L : List It) : Nat → Nat
  | 0 => 0
  | k + 1 => (ng (brTo L L.length) k).toNat + 1
abbrev ndB (j : Nat) : Int := (j : Int) - 1
def plB (L : List It) (k : Nat) : Int × Bool := (ng (brTo L L.length) k, isF (tg L (ng (brTo L L.length) k).toNat))
theorem piB_at {L : List It} {k : Nat} (hk : k < nbB L) : ∃ i, i < L.length ∧ mayE L i = true ∧ (brTo L i).length = k ∧ piB L (k + 1) = i + 1 ∧ plB L k = ((i : Int), isF (tg L i)) := by
  obtain ⟨i, a, b, c, e⟩ := brTo_get hk
  refine ⟨i, a, c, e, ?_, ?_⟩
  · show (ng _ k).toNat + 1 = _
    rw [b]; rfl
  · unfold plB
    rw [b]; rfl
theorem brTo_lt {L : List It} {i j : Nat} (h : (brTo L i).length < (brTo L j).length) : i < j := by
  rcases (by omega : i < j ∨ j ≤ i) with e | e
  · exact e
  · have := (brTo_pre (L := L) e).1; omega
theorem piB_inc {L : List It} {k : Nat} (hk : k < nbB L) : piB L k < piB L (k + 1) := by
  obtain ⟨i, a, b, c, e, _⟩ := piB_at hk
  rw [e]
  cases k with
  | zero => show 0 < i + 1; omega
  | succ k =>
    obtain ⟨i', a', b', c', e', _⟩ := piB_at (L := L) (k := k) (by omega)
    rw [e']
    have := brTo_lt (L := L) (i := i') (j := i) (by omega)
    omega
theorem piB_gap {L : List It} {k m : Nat} (hk : k < nbB L) (h1 : piB L k < m) (h2 : m < piB L (k + 1)) : mayE L (m - 1) = false := by
  obtain ⟨i, a, b, c, e, _⟩ := piB_at hk
  rw [e] at h2
  cases q : mayE L (m - 1)
  · rfl
  · exfalso
    have h3 := (brTo_at (L := L) (i := m - 1) (m := i) (by omega) q).1
    cases k with
    | zero => omega
    | succ k =>
      obtain ⟨i', a', b', c', e', _⟩ := piB_at (L := L) (k := k) (by omega)
      rw [e'] at h1
      have h4 := (brTo_at (L := L) (i := i') (m := m - 1) (by omega) b').1
      omega
/-! The costs. -/
def gB (C : Int → Int → Int × Bool) (i j : Nat) : Option Int := if (C ((i : Int) - 1) ((j : Int) - 1)).2 = true then some (C ((i : Int) - 1) ((j : Int) - 1)).1 else none
section
variable {L : List It} {C : Int → Int → Int × Bool}
theorem gB_yes {i j : Nat} (e : (C ((i : Int) - 1) ((j : Int) - 1)).2 = true) : gB C i j = some (C ((i : Int) - 1) ((j : Int) - 1)).1 := if_pos e
theorem gB_no {i j : Nat} (e : (C ((i : Int) - 1) ((j : Int) - 1)).2 = false) : gB C i j = none := if_neg (by rw [e]; simp)
theorem gB_of {i j : Nat} {n : Int} (e : gB C i j = some n) : (C ((i : Int) - 1) ((j : Int) - 1)).2 = true ∧ (C ((i : Int) - 1) ((j : Int) - 1)).1 = n := by
  unfold gB at e
  split at e
  · next h => cases e; exact ⟨h, rfl⟩
  · cases e
theorem gB_bd {M : Int} (hM : ∀ a b, -M ≤ (C a b).1 ∧ (C a b).1 ≤ M) {i j : Nat} {n : Int} (e : gB C i j = some n) : -M ≤ n ∧ n ≤ M := by
  obtain ⟨_, e⟩ := gB_of e
  have := hM ((i : Int) - 1) ((j : Int) - 1)
  rwa [e] at this
theorem gB_hasNo (hC : ∀ a b, (C a b).2 = true → hasL L a b = true) {i j : Nat} (h : hasL L ((i : Int) - 1) ((j : Int) - 1) = false) : gB C i j = none := by
  apply gB_no
  cases q : (C ((i : Int) - 1) ((j : Int) - 1)).2
  · rfl
  · have := hC _ _ q; rw [h] at this; cases this
theorem dpB_none (hC : ∀ a b, (C a b).2 = true → hasL L a b = true) {m : Nat} (h0 : 0 < m) (h : mayE L (m - 1) = false) : dpD (gB C) m = none := by
  rw [dpD_succ h0]
  refine bst_none fun i hi => gB_hasNo hC ?_
  obtain ⟨q, rfl⟩ : ∃ q, m = q + 1 := ⟨m - 1, by omega⟩
  rw [show (((q + 1 : Nat) : Int)) - 1 = (q : Int) by omega]
  exact hasL_5 h
theorem afB_of {pl : Nat → Int × Bool} {pi : Nat → Nat} : ∀ {k : Nat}, afN pl pi k = 0 ∨ ∃ k', k' < k ∧ afN pl pi k = pi (k' + 1) ∧ (pl k').2 = true
  | 0 => .inl rfl
  | k + 1 => by
    simp only [afN]
    by_cases h : (pl k).2 = true
    · rw [if_pos h]; exact .inr ⟨k, by omega, rfl, h⟩
    · rw [if_neg h]
      rcases afB_of (pl := pl) (pi := pi) (k := k) with e | ⟨k', a, b, c⟩
      · exact .inl e
      · exact .inr ⟨k', by omega, b, c⟩
theorem hasL_past {i j : Nat} {q f : Nat} (hf : isF (tg L f) = true) (h1 : i ≤ f) (h2 : f < q) : hasL L ((i : Int) - 1) q = false := by
  cases h : hasL L ((i : Int) - 1) q
  · rfl
  · obtain ⟨p, q', e1, e2, e3, e4, _, _, e7⟩ := hasL_of h
    obtain rfl : p = i := by omega
    obtain rfl : q' = q := by omega
    have := (nF_eq (L := L) e3).1 e7 f (by omega) h2
    rw [hf] at this; cases this
theorem piB_mono {k m : Nat} (hm : m ≤ nbB L) (h : k ≤ m) : piB L k ≤ piB L m := by
  induction m with
  | zero => obtain rfl : k = 0 := by omega
            exact Nat.le_refl _
  | succ m ih =>
    rcases (by omega : k = m + 1 ∨ k ≤ m) with e | e
    · subst e; exact Nat.le_refl _
    · have := ih (by omega) e
      have := piB_inc (L := L) (k := m) (by omega)
      omega
theorem isDp_lines (hC : ∀ a b, (C a b).2 = true → hasL L a b = true) : IsDp (fun _ a b => C a b) (-1) (plB L) (nbB L) (gB C) ndB (piB L) where
  one := fun p a t => rfl
  p0 := rfl
  inc := fun k hk => piB_inc hk
  gap := fun k hk m h1 h2 => dpB_none hC (by omega) (piB_gap hk h1 h2)
  n0 := rfl
  at_ := fun k hk => by
    obtain ⟨i, _, _, _, e1, e2⟩ := piB_at hk
    rw [e1, e2]
    show (((i + 1 : Nat) : Int)) - 1 = (i : Int)
    omega
  yes := fun k hk i _ _ _ e => gB_yes e
  no := fun k hk i _ _ _ e => gB_no e
  passed := fun k hk i hi => by
    rcases afB_of (pl := plB L) (pi := piB L) (k := k) with e | ⟨k', a, b, c⟩
    · omega
    · obtain ⟨f, _, _, _, e1, e2⟩ := piB_at (L := L) (k := k') (by omega)
      obtain ⟨q, _, _, _, e3, _⟩ := piB_at hk
      have hm := piB_mono (L := L) (k := k' + 1) (m := k) (by omega) (by omega)
      have hi2 := piB_inc hk
      rw [e2] at c
      apply gB_hasNo hC
      rw [e3, show (((q + 1 : Nat) : Int)) - 1 = (q : Int) by omega]
      exact hasL_past (j := 0) (f := f) c (by omega) (by omega)
theorem okB_last (ok : isOk L = true) : 1 ≤ L.length ∧ isF (tg L (L.length - 1)) = true ∧ mayE L (L.length - 1) = true := by
  obtain ⟨a, ⟨b, b'⟩, c⟩ := isOk_iff.1 ok
  refine ⟨b, decide_eq_true c, ?_⟩
  unfold mayE
  rw [if_neg (by omega), if_pos (by omega)]
  exact decide_eq_true (by omega)
theorem nbB_top (ok : isOk L = true) : 0 < nbB L ∧ piB L (nbB L) = L.length ∧ afN (plB L) (piB L) (nbB L) = piB L (nbB L) ∧ nbB L ≤ L.length := by
  obtain ⟨h1, h2, h3⟩ := okB_last ok
  have hb : brTo L L.length = brTo L (L.length - 1) ++ [((L.length - 1 : Nat) : Int)] := by
    have := brTo_yes h3
    rwa [show L.length - 1 + 1 = L.length by omega] at this
  have hn : nbB L = (brTo L (L.length - 1)).length + 1 := by
    unfold nbB; rw [hb]; simp
  have hg : ng (brTo L L.length) (nbB L - 1) = ((L.length - 1 : Nat) : Int) := by
    rw [hn, hb, Nat.add_sub_cancel]; exact ng_lastB
  have hpl : (plB L (nbB L - 1)).2 = true := by
    show isF (tg L (ng _ _).toNat) = true
    rw [hg]; exact h2
  obtain ⟨m, hm⟩ : ∃ m, nbB L = m + 1 := ⟨nbB L - 1, by omega⟩
  refine ⟨by omega, ?_, ?_, brTo_len L _⟩
  · rw [hm]
    show (ng _ m).toNat + 1 = _
    rw [show m = nbB L - 1 by omega, hg, Int.toNat_natCast]
    omega
  · rw [hm]
    simp only [afN]
    rw [if_pos]
    rw [show m = nbB L - 1 by omega]
    exact hpl
/-! Ways that are checked, and that none are better. -/
theorem bkB_ok : ∀ (m : Nat) {j : Nat} {d : Dn}, j < m → dpD (gB C) j = some d →
    (bkL (gB C) ndB d.2.2 j).length = d.2.2 ∧ frm (-1) (bkL (gB C) ndB d.2.2 j) d.2.2 = (j : Int) - 1 ∧ okT (-1) (bkL (gB C) ndB d.2.2 j) (fun _ a b => C a b) d.2.2 ∧ sto (fun k => (C (frm (-1) (bkL (gB C) ndB d.2.2 j) k) (ng (bkL (gB C) ndB d.2.2 j) k)).1) d.2.2 = d.1
  | 0, _, _, h0, _ => by omega
  | m + 1, j, d, hm, e => by
    rcases Nat.eq_zero_or_pos j with h0 | h0
    · subst h0
      have := dpD_zero_of e
      subst this
      exact ⟨rfl, rfl, fun i hi => by simp at hi, rfl⟩
    · obtain ⟨hb, x, n, e1, e2, e3, e4⟩ := dpD_from h0 e
      obtain ⟨i1, i2, i3, i4⟩ := bkB_ok m (j := d.2.1) (by omega) e1
      have hB : bkL (gB C) ndB d.2.2 j = bkL (gB C) ndB x.2.2 d.2.1 ++ [(j : Int) - 1] := by
        rw [e4]
        show bkL _ _ _ (bfN _ j) ++ _ = _
        rw [bfN_of e]
      obtain ⟨E, hE⟩ : ∃ E, E = bkL (gB C) ndB x.2.2 d.2.1 := ⟨_, rfl⟩
      rw [← hE] at i1 i2 i3 i4 hB
      rw [hB]
      have hp := gB_of e2
      have hl : (E ++ [(j : Int) - 1]).length = E.length + 1 := by simp
      have hfr : frm (-1) (E ++ [(j : Int) - 1]) E.length = (d.2.1 : Int) - 1 := by rw [frm_appB (Nat.le_refl _), i1]; exact i2
      rw [e4, ← i1]
      refine ⟨hl, by rw [frm_succ, ng_lastB], fun i hi => ?_, ?_⟩
      · rcases (by omega : i < E.length ∨ i = E.length) with e5 | e5
        · rw [frm_appB (by omega), ng_appB e5]
          exact i3 i (by omega)
        · subst e5
          rw [hfr, ng_lastB]
          exact hp.1
      · simp only [sto]
        rw [hfr, ng_lastB, hp.2, e3, ← i4, ← i1]
        congr 1
        exact sto_congr (fun k hk => by rw [frm_appB (by omega), ng_appB hk])
theorem okB_least (hC : ∀ a b, (C a b).2 = true → hasL L a b = true) {E : List Int} (hE : okT (-1) E (fun _ a b => C a b) E.length) : ∀ k, k ≤ E.length → ∃ (i : Nat) (d : Dn), frm (-1) E k = (i : Int) - 1 ∧ dpD (gB C) i = some d ∧ d.1 ≤ sto (fun k => (C (frm (-1) E k) (ng E k)).1) k := fun k => by
  induction k with
  | zero => intro _; exact ⟨0, (0, 0, 0), rfl, rfl, Int.le_refl _⟩
  | succ k ih =>
    intro hk
    obtain ⟨i, d, e1, e2, e3⟩ := ih (by omega)
    have f0 := hE k hk
    obtain ⟨p, q, g1, g2, g3, g4, _⟩ := hasL_of (hC _ _ f0)
    obtain rfl : p = i := by omega
    have hq : ng E k = (((q + 1 : Nat) : Int)) - 1 := by omega
    rw [e1, hq] at f0
    obtain ⟨d', k1, k2⟩ := dpD_least (g := gB C) (show p < q + 1 by omega) e2 (gB_yes f0)
    refine ⟨q + 1, d', by rw [frm_succ]; exact hq, k1, ?_⟩
    simp only [sto]
    rw [e1, hq]
    omega
/-- Lines that divide a paragraph end at all forced breaks. -/
theorem okB_forced {E : List Int} (hE : okT (-1) E (fun _ a b => (0, hasL L a b)) E.length) {f : Nat} (hf : isF (tg L f) = true) : ∀ k, k ≤ E.length → (f : Int) ≤ frm (-1) E k → ∃ m, m < E.length ∧ ng E m = f
  | 0, _, h => by rw [frm_zero] at h; omega
  | k + 1, hk, h => by
    rcases (by omega : (f : Int) ≤ frm (-1) E k ∨ frm (-1) E k < (f : Int)) with g | g
    · exact okB_forced hE hf k (by omega) g
    · rw [frm_succ] at h
      rcases (by omega : ng E k = f ∨ (f : Int) < ng E k) with e | e
      · exact ⟨k, by omega, e⟩
      · exfalso
        have f0 : hasL L (frm (-1) E k) (ng E k) = true := hE k (by omega)
        obtain ⟨p, q, g1, g2, g3, g4, _⟩ := hasL_of f0
        rw [g2, show frm (-1) E k = (p : Int) - 1 by omega] at f0
        rw [hasL_past (j := 0) hf (by omega) (by omega)] at f0
        cases f0
end
end Go.Proofs.Ytlkfpcajpdohiaa

/- The exact law on LineCost holds at every input: it answers as its model does and writes into no argument. No condition. -/
namespace Go.Proofs.Ytlkfpcajpdohiaa
open Go.ChangeShapes Go.WideShapes Go.ChangeAt Go.RowKit
set_option linter.unusedVariables false
set_option linter.unusedSimpArgs false

/-- What LineCost answers. -/
noncomputable def coO (L : List It) (a b d t : Int) : Int × Bool := if isOk L then coL L a b d t else (0, false)
theorem coO_no {L : List It} {a b d t : Int} (h : isOk L = false) : coO L a b d t = (0, false) := by simp [coO, h]
theorem coO_yes {L : List It} {a b d t : Int} (h : isOk L = true) : coO L a b d t = coL L a b d t := by simp [coO, h]
theorem coO_non {L : List It} {a b d t : Int} (h : (okL L a b && inB d 1 10000 && inB t 0 10000) = false) : coO L a b d t = (0, false) := by
  cases q : isOk L
  · exact coO_no q
  · rw [coO_yes q]
    refine coL_no ?_
    have h' : (hasL L a b && inB d 1 10000 && inB t 0 10000) = false := by simpa [okL, q] using h
    rw [h']; rfl
end Go.Proofs.Ytlkfpcajpdohiaa

/- What given breaks cost: pure maths. -/
namespace Go.Proofs.Ytlkfpcajpdohiaa
open Go.ChangeShapes Go.WideShapes Go.ChangeAt Go.RowKit
set_option linter.unusedVariables false
open Classical

theorem okL_eq {L : List It} {a b : Int} (h : isOk L = true) : okL L a b = hasL L a b := by simp [okL, h]
theorem coO_has {L : List It} {a b d t : Int} (h : (coO L a b d t).2 = true) : isOk L = true := by
  cases q : isOk L
  · rw [coO_no q] at h; cases h
  · rfl
theorem coO_bd {L : List It} (a b d t : Int) : -200000000 ≤ (coO L a b d t).1 ∧ (coO L a b d t).1 ≤ 200000000 := by
  cases q : isOk L
  · rw [coO_no q]; simp
  · rw [coO_yes q]; exact coL_bd (isOk_iff.1 q).1 a b d t
def okW (E : List Int) : Prop := ∀ k, k < E.length → -9223372036854775808 ≤ ng E k ∧ ng E k ≤ 9223372036854775807
theorem frm_wf {E : List Int} (h : okW E) : ∀ {k : Nat}, k ≤ E.length → -9223372036854775808 ≤ frm (-1) E k ∧ frm (-1) E k ≤ 9223372036854775807
  | 0, _ => by rw [frm_zero]; omega
  | k + 1, hk => by rw [frm_succ]; exact h k (by omega)
/-- Breaks end with the last item. -/
def endB (L : List It) (E : List Int) : Bool := decide (frm (-1) E E.length = (L.length : Int) - 1)
theorem frm_last {E : List Int} (h : 0 < E.length) : frm (-1) E E.length = ng E (E.length - 1) := by
  obtain ⟨k, hk⟩ : ∃ k, E.length = k + 1 := ⟨E.length - 1, by omega⟩
  rw [hk, frm_succ]; rfl
/-- What a total of lines is. -/
noncomputable def cbV (L : List It) (E : List Int) (C : Nat → Int → Int → Int × Bool) : Int × Bool := if isOk L && endB L E then toO (-1) E C else (0, false)
section
variable {L : List It} {E : List Int} {C : Nat → Int → Int → Int × Bool}
theorem cbV_no (h : (isOk L && endB L E) = false) : cbV L E C = (0, false) := by unfold cbV; rw [h]; rfl
theorem cbV_yes (h : (isOk L && endB L E) = true) : cbV L E C = toO (-1) E C := by unfold cbV; rw [h]; rfl
theorem cbV_bad {k : Nat} (hk : k < E.length) (h : isOk L = true → (C k (frm (-1) E k) (ng E k)).2 = false) : cbV L E C = (0, false) := by
  cases q : (isOk L && endB L E)
  · exact cbV_no q
  · rw [cbV_yes q]
    refine toO_no fun x => ?_
    have h1 := x k hk
    rw [h ((Bool.and_eq_true _ _).mp q).1] at h1
    cases h1
theorem cbV_true (h : (cbV L E C).2 = true) : isOk L = true ∧ endB L E = true ∧ okT (-1) E C E.length ∧ (cbV L E C).1 = sto (fun j => (C j (frm (-1) E j) (ng E j)).1) E.length := by
  cases q : (isOk L && endB L E)
  · rw [cbV_no q] at h; cases h
  · obtain ⟨a, b⟩ := (Bool.and_eq_true _ _).mp q
    rw [cbV_yes q] at h ⊢
    by_cases o : okT (-1) E C E.length
    · exact ⟨a, b, o, by rw [toO_yes o]⟩
    · rw [toO_no o] at h; cases h
theorem cbV_of (h1 : isOk L = true) (h2 : endB L E = true) (h3 : okT (-1) E C E.length) : cbV L E C = (sto (fun j => (C j (frm (-1) E j) (ng E j)).1) E.length, true) := by
  rw [cbV_yes (by rw [h1, h2]; rfl), toO_yes h3]
theorem cbV_congr {C' : Nat → Int → Int → Int × Bool} (h : isOk L = true → ∀ j a b, C j a b = C' j a b) : cbV L E C = cbV L E C' := by
  cases q : (isOk L && endB L E)
  · rw [cbV_no q, cbV_no q]
  · have := h ((Bool.and_eq_true _ _).mp q).1
    rw [show C = C' from funext fun j => funext fun a => funext fun b => this j a b]
theorem endB_nil (h : 1 ≤ L.length) : endB L [] = false := decide_eq_false (by show ¬ ((-1 : Int) = _); omega)
end
/-- What CheckBreaks answers. -/
noncomputable def cbO (L : List It) (d t : Int) (E : List Int) : Int × Bool := cbV L E (fun _ a b => coO L a b d t)
/-- What ValidBreaks answers. -/
noncomputable def vbO (L : List It) (E : List Int) : Bool := (cbV L E (fun _ a b => (0, okL L a b))).2
theorem cbO_eq (L : List It) (d t : Int) (E : List Int) : cbO L d t E = cbV L E (fun _ a b => coL L a b d t) := cbV_congr fun h _ a b => coO_yes h
theorem vbO_eq (L : List It) (E : List Int) : vbO L E = (cbV L E (fun _ a b => (0, hasL L a b))).2 := by
  unfold vbO
  rw [cbV_congr (C' := fun _ a b => (0, hasL L a b)) fun h _ a b => by rw [okL_eq h]]
/-- What BestBreaks answers. -/
noncomputable def bbV (L : List It) (d t : Int) : List Int × Int × Bool := if isOk L then dpR (gB (fun a b => coL L a b d t)) ndB L.length else ([], 0, false)
theorem bbV_no {L : List It} {d t : Int} (h : isOk L = false) : bbV L d t = ([], 0, false) := by unfold bbV; rw [h]; rfl
theorem bbV_yes {L : List It} {d t : Int} (h : isOk L = true) : bbV L d t = dpR (gB (fun a b => coL L a b d t)) ndB L.length := by unfold bbV; rw [if_pos h]
theorem bbV_arg {L : List It} {d t : Int} (h : (inB d 1 10000 && inB t 0 10000) = false) : bbV L d t = ([], 0, false) := by
  cases q : isOk L
  · exact bbV_no q
  · rw [bbV_yes q]
    have h1 := (isOk_iff.1 q).2.1.1
    unfold dpR
    rw [dpD_succ (by omega), bst_none]
    intro i hi
    apply gB_no
    cases e : (coL L ((i : Int) - 1) ((L.length : Int) - 1) d t).2
    · rfl
    · have := coL_has e
      rw [this.2.1, this.2.2] at h; cases h
theorem cl_has {L : List It} {d t : Int} : ∀ a b, (coL L a b d t).2 = true → hasL L a b = true := fun _ _ h => (coL_has h).1
theorem bkB_in {L : List It} {C : Int → Int → Int × Bool} : ∀ (n : Nat) {j : Nat} {d : Dn}, d.2.2 = n → dpD (gB C) j = some d → ∀ x ∈ bkL (gB C) ndB n j, -1 ≤ x ∧ x < (j : Int)
  | 0, _, _, _, _, x, hx => by simp [bkL] at hx
  | n + 1, j, d, hn, e, x, hx => by
    have hj0 : 0 < j := by
      rcases Nat.eq_zero_or_pos j with e0 | e0
      · subst e0
        have := dpD_zero_of e
        subst this
        simp at hn
      · exact e0
    obtain ⟨h1, y, v, h2, h3, h4, h5⟩ := dpD_from hj0 e
    simp only [bkL, List.mem_append, List.mem_singleton] at hx
    rw [bfN_of e] at hx
    rcases hx with hx | hx
    · have := bkB_in (L := L) n (j := d.2.1) (d := y) (by omega) h2 x hx
      omega
    · rw [hx]
      show -1 ≤ (j : Int) - 1 ∧ (j : Int) - 1 < (j : Int)
      omega
theorem bbV_len {L : List It} {d t : Int} : (bbV L d t).1.length ≤ 60 ∧ okW (bbV L d t).1 := by
  cases q : isOk L
  · rw [bbV_no q]; exact ⟨by simp, fun k hk => by simp at hk⟩
  · rw [bbV_yes q]
    have h1 := (isOk_iff.1 q).2.1.2
    unfold dpR
    cases e : dpD (gB fun a b => coL L a b d t) L.length with
    | none => exact ⟨by simp, fun k hk => by simp at hk⟩
    | some x =>
      have hb := (dpD_bd (g := gB fun a b => coL L a b d t) (M := 200000000) (fun i j n e => gB_bd (fun a b => coL_bd (isOk_iff.1 q).1 a b d t) e) (L.length + 1) (Nat.lt_succ_self _) e).1
      have hl := (bkB_ok (C := fun a b => coL L a b d t) (L.length + 1) (Nat.lt_succ_self _) e).1
      refine ⟨by simp only [hl]; omega, fun k hk => ?_⟩
      have := bkB_in (L := L) x.2.2 rfl e _ (ng_mem hk)
      simp only at this ⊢
      omega
/-- Best breaks are checked. -/
theorem bb_check {L : List It} {d t : Int} (e : (bbV L d t).2.2 = true) : isOk L = true ∧ cbO L d t (bbV L d t).1 = ((bbV L d t).2.1, true) ∧ vbO L (bbV L d t).1 = true := by
  cases q : isOk L
  · rw [bbV_no q] at e; cases e
  · rw [bbV_yes q] at e ⊢
    unfold dpR at e ⊢
    cases dn : dpD (gB fun a b => coL L a b d t) L.length with
    | none => rw [dn] at e; cases e
    | some x =>
      obtain ⟨a, b, c, f⟩ := bkB_ok (C := fun a b => coL L a b d t) (L.length + 1) (Nat.lt_succ_self _) dn
      show true = true ∧ cbO L d t (bkL _ _ _ _) = (x.1, true) ∧ vbO L (bkL _ _ _ _) = true
      obtain ⟨E, hE⟩ : ∃ E, E = bkL (gB fun a b => coL L a b d t) ndB x.2.2 L.length := ⟨_, rfl⟩
      rw [← hE] at a b c f ⊢
      rw [← a] at b c f
      have he : endB L E = true := decide_eq_true b
      refine ⟨rfl, ?_, ?_⟩
      · rw [cbO_eq, cbV_of q he c, f]
      · rw [vbO_eq, cbV_of q he (fun j hj => (coL_has (c j hj)).1)]
theorem bb_least {L : List It} {d t : Int} {E : List Int} (h : (cbO L d t E).2 = true) : (bbV L d t).2.2 = true ∧ (bbV L d t).2.1 ≤ (cbO L d t E).1 := by
  rw [cbO_eq] at h ⊢
  obtain ⟨a, b, c, e⟩ := cbV_true h
  obtain ⟨i, x, e1, e2, e3⟩ := okB_least (L := L) (C := fun a b => coL L a b d t) cl_has c E.length (Nat.le_refl _)
  have hb := of_decide_eq_true b
  obtain rfl : i = L.length := by omega
  rw [bbV_yes a, e]
  unfold dpR
  rw [e2]
  exact ⟨rfl, e3⟩
theorem vb_forced {L : List It} {E : List Int} (h : vbO L E = true) {f : Nat} (hl : f < L.length) (hf : isF (tg L f) = true) : ∃ m, m < E.length ∧ ng E m = f := by
  rw [vbO_eq] at h
  obtain ⟨a, b, c, _⟩ := cbV_true h
  have := of_decide_eq_true b
  exact okB_forced c hf E.length (Nat.le_refl _) (by omega)
end Go.Proofs.Ytlkfpcajpdohiaa
