/- The least way over known places is a table of least costs. -/
import Derived.Test.YtafddofajfcffaaLway
namespace Go.Proofs.Ytafddofajfcffaa
set_option linter.unusedVariables false

/-- Cost, the node before, pieces. -/
abbrev Dn := Int × Nat × Nat
def rx (acc : Option Dn) (d : Option Dn) (v : Option Int) (i : Nat) : Option Dn :=
  match d, v with
  | some x, some n => (match acc with
    | none => some (x.1 + n, i, x.2.2 + 1)
    | some y => if x.1 + n < y.1 then some (x.1 + n, i, x.2.2 + 1) else some y)
  | _, _ => acc
def bst (D : Nat → Option Dn) (g : Nat → Nat → Option Int) (j : Nat) : Nat → Option Dn
  | 0 => none
  | k + 1 => rx (bst D g j k) (D k) (g k j) k
def tbl (g : Nat → Nat → Option Int) : Nat → Nat → Option Dn
  | 0 => fun _ => some (0, 0, 0)
  | j + 1 => fun i => if i ≤ j then tbl g j i else bst (tbl g j) g (j + 1) (j + 1)
def dpD (g : Nat → Nat → Option Int) (j : Nat) : Option Dn := tbl g j j
section
variable {g : Nat → Nat → Option Int}
theorem tbl_le {i : Nat} : ∀ {j : Nat}, i ≤ j → tbl g j i = dpD g i
  | 0, h => by obtain rfl : i = 0 := by omega
               rfl
  | j + 1, h => by
    rcases (by omega : i = j + 1 ∨ i ≤ j) with e | e
    · rw [e]; rfl
    · show (if i ≤ j then _ else _) = _
      rw [if_pos e]; exact tbl_le e
theorem bst_congr {D D' : Nat → Option Dn} {j : Nat} : ∀ {k : Nat}, (∀ i, i < k → D i = D' i) → bst D g j k = bst D' g j k
  | 0, _ => rfl
  | k + 1, h => by simp only [bst]; rw [bst_congr (fun i hi => h i (by omega)), h k (by omega)]
theorem dpD_zero : dpD g 0 = some (0, 0, 0) := rfl
theorem dpD_succ {j : Nat} (h : 0 < j) : dpD g j = bst (dpD g) g j j := by
  obtain ⟨k, rfl⟩ : ∃ k, j = k + 1 := ⟨j - 1, by omega⟩
  show (if k + 1 ≤ k then _ else _) = _
  rw [if_neg (by omega)]
  exact bst_congr (fun i hi => tbl_le (by omega))
theorem rx_no_d {acc : Option Dn} {v : Option Int} {i : Nat} : rx acc none v i = acc := by cases v <;> rfl
theorem rx_no_v {acc d : Option Dn} {i : Nat} : rx acc d none i = acc := by cases d <;> rfl
theorem rx_new {x : Dn} {n : Int} {i : Nat} : rx none (some x) (some n) i = some (x.1 + n, i, x.2.2 + 1) := rfl
theorem rx_less {x y : Dn} {n : Int} {i : Nat} (h : x.1 + n < y.1) : rx (some y) (some x) (some n) i = some (x.1 + n, i, x.2.2 + 1) := by show (if _ then _ else _) = _; rw [if_pos h]
theorem rx_keep {x y : Dn} {n : Int} {i : Nat} (h : ¬ x.1 + n < y.1) : rx (some y) (some x) (some n) i = some y := by show (if _ then _ else _) = _; rw [if_neg h]
/-- Where a best one comes from. -/
theorem bst_from {D : Nat → Option Dn} {j : Nat} {d : Dn} : ∀ {k : Nat}, bst D g j k = some d → d.2.1 < k ∧ ∃ x n, D d.2.1 = some x ∧ g d.2.1 j = some n ∧ d.1 = x.1 + n ∧ d.2.2 = x.2.2 + 1
  | 0, h => by cases h
  | k + 1, h => by
    simp only [bst] at h
    have IH := fun h => bst_from (D := D) (j := j) (d := d) (k := k) h
    cases e1 : D k with
    | none =>
      rw [e1, rx_no_d] at h
      have := IH h
      exact ⟨by omega, this.2⟩
    | some x =>
      cases e2 : g k j with
      | none =>
        rw [e2, rx_no_v] at h
        have := IH h
        exact ⟨by omega, this.2⟩
      | some n =>
        rw [e1, e2] at h
        cases e3 : bst D g j k with
        | none =>
          rw [e3, rx_new] at h
          cases h
          exact ⟨by simp, x, n, e1, e2, rfl, rfl⟩
        | some y =>
          rw [e3] at h
          by_cases hl : x.1 + n < y.1
          · rw [rx_less hl] at h
            cases h
            exact ⟨by simp, x, n, e1, e2, rfl, rfl⟩
          · rw [rx_keep hl] at h
            have := IH (e3.trans h)
            exact ⟨by omega, this.2⟩
/-- It is the least. -/
theorem bst_least {D : Nat → Option Dn} {j : Nat} : ∀ {k i : Nat} {x : Dn} {n : Int}, i < k → D i = some x → g i j = some n → ∃ d, bst D g j k = some d ∧ d.1 ≤ x.1 + n
  | 0, _, _, _, h, _, _ => by omega
  | k + 1, i, x, n, h, h1, h2 => by
    simp only [bst]
    rcases (by omega : i = k ∨ i < k) with e | e
    · subst e
      rw [h1, h2]
      cases e3 : bst D g j i with
      | none => exact ⟨_, rx_new, Int.le_refl _⟩
      | some y =>
        by_cases hl : x.1 + n < y.1
        · exact ⟨_, rx_less hl, Int.le_refl _⟩
        · exact ⟨_, rx_keep hl, by omega⟩
    · obtain ⟨d, e3, hd⟩ := bst_least e h1 h2
      rw [e3]
      cases e1 : D k with
      | none => exact ⟨d, rx_no_d, hd⟩
      | some x' =>
        cases e2 : g k j with
        | none => exact ⟨d, rx_no_v, hd⟩
        | some n' =>
          by_cases hl : x'.1 + n' < d.1
          · exact ⟨_, rx_less hl, by show x'.1 + n' ≤ _; omega⟩
          · exact ⟨_, rx_keep hl, hd⟩
theorem dpD_from {j : Nat} {d : Dn} (h : 0 < j) (e : dpD g j = some d) : d.2.1 < j ∧ ∃ x n, dpD g d.2.1 = some x ∧ g d.2.1 j = some n ∧ d.1 = x.1 + n ∧ d.2.2 = x.2.2 + 1 := bst_from ((dpD_succ h).symm.trans e)
theorem dpD_least {i j : Nat} {x : Dn} {n : Int} (h : i < j) (e : dpD g i = some x) (e2 : g i j = some n) : ∃ d, dpD g j = some d ∧ d.1 ≤ x.1 + n := by
  rw [dpD_succ (by omega)]
  exact bst_least h e e2
theorem dpD_zero_of {d : Dn} (e : dpD g 0 = some d) : d = (0, 0, 0) := by rw [dpD_zero] at e; cases e; rfl
/-- Bounds of the pieces and of the cost. -/
theorem dpD_bd {M : Int} (hM : ∀ i j n, g i j = some n → -M ≤ n ∧ n ≤ M) : ∀ (m : Nat) {j : Nat} {d : Dn}, j < m → dpD g j = some d → d.2.2 ≤ j ∧ -(M * d.2.2) ≤ d.1 ∧ d.1 ≤ M * d.2.2
  | 0, _, _, h, _ => by omega
  | m + 1, j, d, h, e => by
    rcases Nat.eq_zero_or_pos j with e0 | e0
    · subst e0
      have := dpD_zero_of e
      subst this
      simp
    · obtain ⟨h1, x, n, h2, h3, h4, h5⟩ := dpD_from e0 e
      obtain ⟨a, b, c⟩ := dpD_bd hM m (by omega) h2
      obtain ⟨p, q⟩ := hM _ _ _ h3
      rw [h4, h5, show (((x.2.2 + 1 : Nat)) : Int) = (x.2.2 : Int) + 1 by omega, Int.mul_add, Int.mul_one]
      omega
theorem dpD_pos {j : Nat} {d : Dn} (h : 0 < j) (e : dpD g j = some d) : 0 < d.2.2 := by
  obtain ⟨_, x, n, _, _, _, h5⟩ := dpD_from h e
  omega
end
section
variable (g : Nat → Nat → Option Int) (nd : Nat → Int)
/-- How many nodes before this one are known. -/
def ixN : Nat → Nat
  | 0 => 0
  | j + 1 => ixN j + if (dpD g j).isSome = true then 1 else 0
def wyN (j : Nat) (d : Dn) : Wy := ⟨nd j, d.2.2, d.1, ixN g d.2.1⟩
def opN (j : Nat) : Option Dn → List Wy
  | none => []
  | some d => [wyN g nd j d]
def Wn : Nat → List Wy
  | 0 => []
  | j + 1 => Wn j ++ opN g nd j (dpD g j)
def bfN (j : Nat) : Nat := match dpD g j with
  | some d => d.2.1
  | none => 0
/-- The places of the way to a node. -/
def bkL : Nat → Nat → List Int
  | 0, _ => []
  | n + 1, j => bkL n (bfN g j) ++ [nd j]
end
section
variable {g : Nat → Nat → Option Int} {nd : Nat → Int}
theorem bfN_of {j : Nat} {d : Dn} (h : dpD g j = some d) : bfN g j = d.2.1 := by unfold bfN; rw [h]
theorem Wn_len : ∀ {j : Nat}, (Wn g nd j).length = ixN g j
  | 0 => rfl
  | j + 1 => by
    simp only [Wn, ixN, List.length_append, Wn_len]
    cases dpD g j <;> simp [opN]
theorem ixN_le : ∀ {j : Nat}, ixN g j ≤ j
  | 0 => Nat.le_refl _
  | j + 1 => by
    have := ixN_le (j := j)
    simp only [ixN]
    split <;> omega
theorem ixN_mono {i : Nat} : ∀ {j : Nat}, i ≤ j → ixN g i ≤ ixN g j
  | 0, h => by obtain rfl : i = 0 := by omega
               exact Nat.le_refl _
  | j + 1, h => by
    rcases (by omega : i = j + 1 ∨ i ≤ j) with e | e
    · rw [e]; exact Nat.le_refl _
    · have := ixN_mono e
      simp only [ixN]
      omega
theorem ixN_lt {i j : Nat} {d : Dn} (h : i < j) (e : dpD g i = some d) : ixN g i < ixN g j := by
  have h1 := ixN_mono (g := g) (show i + 1 ≤ j from h)
  have h2 : ixN g (i + 1) = ixN g i + 1 := by simp [ixN, e]
  omega
theorem tg_Wn {i : Nat} {d : Dn} (e : dpD g i = some d) : ∀ {j : Nat}, i < j → tg (Wn g nd j) (ixN g i) = wyN g nd i d
  | 0, h => by omega
  | j + 1, h => by
    simp only [Wn]
    rcases (by omega : i = j ∨ i < j) with e1 | e1
    · subst e1
      rw [e, tg_lt (by rw [List.length_append, Wn_len]; simp [opN]), List.getElem_append_right (by rw [Wn_len]; exact Nat.le_refl _)]
      simp [opN, Wn_len]
    · rw [tg_left (by rw [Wn_len]; exact ixN_lt e1 e)]
      exact tg_Wn e e1
theorem gap_eq {i : Nat} : ∀ {j : Nat}, i ≤ j → (∀ m, i ≤ m → m < j → dpD g m = none) → Wn g nd j = Wn g nd i ∧ ixN g j = ixN g i
  | 0, h, _ => by obtain rfl : i = 0 := by omega
                  exact ⟨rfl, rfl⟩
  | j + 1, h, hn => by
    rcases (by omega : i = j + 1 ∨ i ≤ j) with e | e
    · rw [e]; exact ⟨rfl, rfl⟩
    · obtain ⟨a, b⟩ := gap_eq e (fun m h1 h2 => hn m h1 (by omega))
      have := hn j e (by omega)
      simp only [Wn, ixN, this, opN]
      exact ⟨by rw [a]; simp, by rw [b]; simp⟩
end
/-- The node of the last forced place. -/
def afN (pl : Nat → Int × Bool) (pi : Nat → Nat) : Nat → Nat
  | 0 => 0
  | k + 1 => if (pl k).2 = true then pi (k + 1) else afN pl pi k
/-- What a table needs to be the table of a search. -/
structure IsDp (C : Int → Int → Int → Int × Bool) (start : Int) (pl : Nat → Int × Bool) (N : Nat) (g : Nat → Nat → Option Int) (nd : Nat → Int) (pi : Nat → Nat) : Prop where
  one : ∀ p a t, C p a t = C 0 a t
  p0 : pi 0 = 0
  inc : ∀ k, k < N → pi k < pi (k + 1)
  gap : ∀ k, k < N → ∀ m, pi k < m → m < pi (k + 1) → dpD g m = none
  n0 : nd 0 = start
  at_ : ∀ k, k < N → nd (pi (k + 1)) = (pl k).1
  yes : ∀ k, k < N → ∀ i, afN pl pi k ≤ i → i < pi (k + 1) → (dpD g i).isSome = true → (C 0 (nd i) (nd (pi (k + 1)))).2 = true → g i (pi (k + 1)) = some (C 0 (nd i) (nd (pi (k + 1)))).1
  no : ∀ k, k < N → ∀ i, afN pl pi k ≤ i → i < pi (k + 1) → (dpD g i).isSome = true → (C 0 (nd i) (nd (pi (k + 1)))).2 = false → g i (pi (k + 1)) = none
  passed : ∀ k, k < N → ∀ i, i < afN pl pi k → g i (pi (k + 1)) = none
section
variable {C : Int → Int → Int → Int × Bool} {start : Int} {pl : Nat → Int × Bool} {N : Nat} {g : Nat → Nat → Option Int} {nd : Nat → Int} {pi : Nat → Nat}
theorem IsDp.af (h : IsDp C start pl N g nd pi) : ∀ {k : Nat}, k ≤ N → afN pl pi k ≤ pi k
  | 0, _ => by simp [afN]
  | k + 1, hk => by
    have h1 := h.af (k := k) (by omega)
    have h2 := h.inc k (by omega)
    simp only [afN]
    split <;> omega
theorem bst_none {j : Nat} : ∀ {k : Nat}, (∀ i, i < k → g i j = none) → bst (dpD g) g j k = none
  | 0, _ => rfl
  | k + 1, h => by simp only [bst]; rw [h k (by omega), rx_no_v]; exact bst_none (fun i hi => h i (by omega))
theorem stW_of {C : Int → Int → Int → Int × Bool} {cnt : Bool} {tt : Int} {hd : List Wy} {i : Nat} {tl : List Wy} {a p c b : Int} (h : tg hd i = ⟨a, p, c, b⟩) : stW C cnt tt hd i tl = if (C p a tt).2 = true then offT cnt ⟨tt, p + 1, c + (C p a tt).1, i⟩ tl else tl := by
  unfold stW nxW
  simp only [h]
theorem ext_go (h : IsDp C start pl N g nd pi) {k : Nat} (hk : k < N) {J : Nat} (hJ : J = pi (k + 1)) : ∀ (m : Nat) {j : Nat}, j + m = J → afN pl pi k ≤ j →
    extT C false (pl k).1 (Wn g nd J) (ixN g J - ixN g j) (ixN g j) (opN g nd J (bst (dpD g) g J j)) = opN g nd J (bst (dpD g) g J J)
  | 0, j, hm, _ => by
    obtain rfl : j = J := by omega
    rw [Nat.sub_self]
    rfl
  | m + 1, j, hm, ha => by
    have IH := ext_go h hk hJ m (j := j + 1) (by omega) (by omega)
    have hb : bst (dpD g) g J (j + 1) = rx (bst (dpD g) g J j) (dpD g j) (g j J) j := rfl
    cases e : dpD g j with
    | none =>
      rw [e, rx_no_d] at hb
      have : ixN g (j + 1) = ixN g j := by simp [ixN, e]
      rw [hb, this] at IH
      exact IH
    | some x =>
      have h1 : ixN g (j + 1) = ixN g j + 1 := by simp [ixN, e]
      have h2 := ixN_lt (g := g) (show j < J by omega) e
      rw [show ixN g J - ixN g j = (ixN g J - ixN g (j + 1)) + 1 by omega]
      simp only [extT]
      rw [← h1]
      have hT := tg_Wn (nd := nd) e (show j < J by omega)
      rw [← IH, hb, e]
      congr 1
      rw [stW_of hT, h.one (x.2.2 : Int)]
      have hn : nd J = (pl k).1 := by rw [hJ]; exact h.at_ k hk
      have hY := h.yes k hk j ha (by omega) (by rw [e]; rfl)
      have hN := h.no k hk j ha (by omega) (by rw [e]; rfl)
      rw [← hJ, hn] at hY hN
      cases e2 : (C 0 (nd j) (pl k).1).2 with
      | false =>
        rw [if_neg (by simp), hN e2, rx_no_v]
      | true =>
        rw [if_pos rfl, hY e2]
        cases e3 : bst (dpD g) g J j with
        | none =>
          rw [rx_new]
          simp [opN, offT, wyN, hn]
        | some y =>
          by_cases hl : x.1 + (C 0 (nd j) (pl k).1).1 < y.1
          · rw [rx_less hl]
            simp [opN, offT, wyN, hn, hl]
          · rw [rx_keep hl]
            simp [opN, offT, wyN, hn, hl]
theorem lwS_dp (h : IsDp C start pl N g nd pi) : ∀ {k : Nat}, k ≤ N → lwS C false start pl k = (Wn g nd (pi k + 1), ixN g (afN pl pi k))
  | 0, _ => by
    rw [h.p0]
    simp [lwS, Wn, opN, dpD_zero, wyN, h.n0, ixN, afN]
  | k + 1, hk => by
    have IH := lwS_dp h (k := k) (by omega)
    have hi := h.inc k (by omega)
    obtain ⟨g1, g2⟩ := gap_eq (nd := nd) (g := g) (i := pi k + 1) (j := pi (k + 1)) (by omega) (fun m h1 h2 => h.gap k (by omega) m (by omega) h2)
    have haf := h.af (k := k) (by omega)
    have h0 : bst (dpD g) g (pi (k + 1)) (afN pl pi k) = none := bst_none (h.passed k (by omega))
    have E := ext_go h (k := k) (by omega) rfl (pi (k + 1) - afN pl pi k) (j := afN pl pi k) (by omega) (Nat.le_refl _)
    rw [h0] at E
    simp only [lwS]
    rw [IH]
    simp only
    rw [← g1, Wn_len]
    unfold extR
    rw [Wn_len]
    refine Prod.ext ?_ ?_
    · show _ ++ _ = _
      simp only [Wn]
      congr 1
      rw [show ([] : List Wy) = opN g nd (pi (k + 1)) none from rfl, E, dpD_succ (by omega)]
    · show (if _ then _ else _) = _
      simp only [afN]
      split <;> rfl
theorem endL_dp {m : Nat} : ∀ {n j : Nat} {d : Dn}, j < m → dpD g j = some d → d.2.2 = n → endL (Wn g nd m) n (wyN g nd j d) = bkL g nd n j ∧ OKw (Wn g nd m) n (wyN g nd j d)
  | 0, j, d, hj, e, hn => ⟨rfl, by show ((d.2.2 : Nat) : Int) = 0; omega⟩
  | n + 1, j, d, hj, e, hn => by
    have hj0 : 0 < j := by
      rcases Nat.eq_zero_or_pos j with e0 | e0
      · subst e0
        have := dpD_zero_of e
        subst this
        simp at hn
      · exact e0
    obtain ⟨h1, x, v, h2, h3, h4, h5⟩ := dpD_from hj0 e
    obtain ⟨I1, I2⟩ := endL_dp (m := m) (n := n) (j := d.2.1) (by omega) h2 (by omega)
    have hT := tg_Wn (nd := nd) h2 (show d.2.1 < m by omega)
    have hb : (wyN g nd j d).b.toNat = ixN g d.2.1 := by simp [wyN]
    constructor
    · simp only [endL, bkL]
      rw [hb, hT, I1, bfN_of e]
      rfl
    · refine ⟨by show ((d.2.2 : Nat) : Int) = _; rw [hn], ixN g d.2.1, rfl, ?_, ?_⟩
      · rw [Wn_len]; exact ixN_lt (by omega) h2
      · rw [hT]; exact I2
/-- What the search answers. -/
def dpR (g : Nat → Nat → Option Int) (nd : Nat → Int) (j : Nat) : List Int × Int × Bool := match dpD g j with
  | none => ([], 0, false)
  | some d => (bkL g nd d.2.2 j, d.1, true)
theorem lwE_dp (h : IsDp C start pl N g nd pi) (hf : afN pl pi N = pi N) : lwE C false start pl N = opN g nd (pi N) (dpD g (pi N)) := by
  unfold lwE
  rw [lwS_dp h (Nat.le_refl _), hf]
  show List.drop _ (Wn g nd (pi N) ++ _) = _
  rw [← Wn_len (g := g) (nd := nd), List.drop_left]
theorem lwR_dp (h : IsDp C start pl N g nd pi) (hf : afN pl pi N = pi N) : lwR C false start pl N = dpR g nd (pi N) := by
  unfold lwR lwB
  rw [lwE_dp h hf, lwS_dp h (Nat.le_refl _)]
  unfold dpR
  cases e : dpD g (pi N) with
  | none => simp [opN]
  | some d =>
    have := (endL_dp (g := g) (nd := nd) (m := pi N + 1) (n := d.2.2) (j := pi N) (by omega) e rfl).1
    simp only [opN, List.drop_succ_cons, List.drop_zero, minW]
    rw [if_neg (by simp)]
    show (endL _ _ (wyN g nd (pi N) d), _, true) = _
    rw [show (tg [wyN g nd (pi N) d] 0) = wyN g nd (pi N) d from rfl, show (wyN g nd (pi N) d).p.toNat = d.2.2 by simp [wyN], this]
    rfl
theorem lw_ok (h : IsDp C start pl N g nd pi) (hf : afN pl pi N = pi N) {K : Nat} (hK : pi N ≤ K) (hb : ∀ j d, j ≤ pi N → dpD g j = some d → d.2.2 ≤ j) : lwE C false start pl N ≠ [] → ∃ n, n ≤ K ∧ OKw (lwS C false start pl N).1 n (lwB C false start pl N) := by
  unfold lwB
  rw [lwE_dp h hf, lwS_dp h (Nat.le_refl _)]
  cases e : dpD g (pi N) with
  | none => intro h; exact absurd rfl h
  | some d =>
    intro _
    have := hb _ d (Nat.le_refl _) e
    refine ⟨d.2.2, by omega, ?_⟩
    exact (endL_dp (g := g) (nd := nd) (m := pi N + 1) (n := d.2.2) (j := pi N) (by omega) e rfl).2
theorem lwS_len (h : IsDp C start pl N g nd pi) {k : Nat} (hk : k ≤ N) : (lwS C false start pl k).1.length ≤ pi k + 1 := by
  rw [lwS_dp h hk, show (Wn g nd (pi k + 1)).length = _ from Wn_len]
  exact ixN_le
/-- Every way is the way of a node. -/
theorem Wn_at : ∀ {m i : Nat}, i < (Wn g nd m).length → ∃ j d, j < m ∧ dpD g j = some d ∧ i = ixN g j ∧ tg (Wn g nd m) i = wyN g nd j d
  | 0, _, h => by simp [Wn] at h
  | m + 1, i, h => by
    rw [Wn_len] at h
    rcases Nat.lt_or_ge i (ixN g m) with e | e
    · obtain ⟨j, d, h1, h2, h3, h4⟩ := Wn_at (m := m) (i := i) (by rw [Wn_len]; exact e)
      exact ⟨j, d, by omega, h2, h3, by rw [h3]; exact tg_Wn h2 (by omega)⟩
    · cases e2 : dpD g m with
      | none =>
        have : ixN g (m + 1) = ixN g m := by simp [ixN, e2]
        omega
      | some d =>
        have h1 : ixN g (m + 1) = ixN g m + 1 := by simp [ixN, e2]
        obtain rfl : i = ixN g m := by omega
        exact ⟨m, d, by omega, e2, rfl, tg_Wn e2 (by omega)⟩
end
end Go.Proofs.Ytafddofajfcffaa
