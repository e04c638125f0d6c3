/- Orders by levels, inverse orders, and levels of texts: pure maths. They speak of no program. -/
import Derived.Test.YteoiphjkkcjddaaILists
import Derived.Test.YteoiphjkkcjddaaBLists
namespace Go.Proofs.Yteoiphjkkcjddaa
open Go.ChangeShapes Go.WideShapes Go.ChangeAt Go.RowKit
set_option linter.unusedVariables false

/-- The runs of one level reversed: 'acc' is the run so far, the last one first. -/
def rr (q : Int → Bool) : List Int → List Int → List Int
  | acc, [] => acc
  | acc, x :: xs => if q x then rr q (x :: acc) xs else acc ++ x :: rr q [] xs
section
variable {q : Int → Bool} {x : Int} {acc xs l R rest : List Int}
theorem rr_nil : rr q acc [] = acc := by simp [rr]
theorem rr_no (h : q x = false) : rr q acc (x :: xs) = acc ++ x :: rr q [] xs := by simp [rr, h]
theorem rr_yes (h : q x = true) : rr q acc (x :: xs) = rr q (x :: acc) xs := by simp [rr, h]
theorem rr_run (R acc rest : List Int) (h : ∀ x ∈ R, q x = true) : rr q acc (R ++ rest) = rr q (R.reverse ++ acc) rest := by
  induction R generalizing acc with
  | nil => rfl
  | cons x R ih =>
    rw [List.cons_append, rr_yes (h x (by simp)), ih _ (fun y hy => h y (by simp [hy]))]
    simp
theorem rr_all (h : ∀ x ∈ l, q x = true) : rr q [] l = l.reverse := by
  have := rr_run l [] [] h
  simpa [rr] using this
theorem rr_none : ∀ (l : List Int), (∀ x ∈ l, q x = false) → rr q [] l = l
  | [], _ => by simp [rr]
  | x :: xs, h => by rw [rr_no (h x (by simp)), rr_none xs (fun y hy => h y (by simp [hy]))]; rfl
theorem rr_perm : ∀ (l acc : List Int), (rr q acc l).Perm (acc ++ l)
  | [], acc => by simp [rr]
  | x :: xs, acc => by
    by_cases h : q x = true
    · rw [rr_yes h]; exact (rr_perm xs (x :: acc)).trans List.perm_middle.symm
    · rw [rr_no (by simpa using h)]; exact List.Perm.append_left acc ((rr_perm xs []).cons x)
theorem rr_congr {p : Int → Bool} : ∀ (l acc : List Int), (∀ x ∈ l, p x = q x) → rr p acc l = rr q acc l
  | [], acc, _ => by simp [rr]
  | x :: xs, acc, h => by
    have h1 := h x (by simp)
    have h2 := fun acc => rr_congr xs acc (fun y hy => h y (by simp [hy]))
    simp only [rr, h1, h2]
end

/-- Index x has at least the level n. -/
def qv (L : List Int) (n : Nat) (x : Int) : Bool := decide ((n : Int) ≤ ng L x.toNat)
def ordN (L : List Int) : Nat → List Int → List Int
  | 0, l => l
  | n + 1, l => ordN L n (rr (qv L (n + 1)) [] l)
def ordL (L : List Int) : List Int := ordN L 6 (upto 0 L.length)
/-- The indices are those of L. -/
def Inx (n : Nat) (l : List Int) : Prop := l.length = n ∧ ∀ x ∈ l, 0 ≤ x ∧ x < n
theorem upto_mem {n : Nat} {x : Int} (h : x ∈ upto 0 n) : 0 ≤ x ∧ x < n := by
  simp [upto] at h
  obtain ⟨k, h1, rfl⟩ := h
  omega
theorem upto_inx (n : Nat) : Inx n (upto 0 n) := ⟨upto_len _ _, fun x h => upto_mem h⟩
theorem Inx.perm {n : Nat} {l m : List Int} (h : Inx n l) (hp : m.Perm l) : Inx n m := ⟨hp.length_eq.trans h.1, fun x hx => h.2 x (hp.mem_iff.1 hx)⟩
theorem rr_inx {n : Nat} {L l : List Int} {k : Nat} (h : Inx n l) : Inx n (rr (qv L k) [] l) := h.perm (by simpa using rr_perm (q := qv L k) l [])
theorem ordN_perm (L : List Int) : ∀ (n : Nat) (l : List Int), (ordN L n l).Perm l
  | 0, l => List.Perm.refl _
  | n + 1, l => (ordN_perm L n _).trans (by simpa using rr_perm (q := qv L (n + 1)) l [])
theorem ordL_perm (L : List Int) : (ordL L).Perm (upto 0 L.length) := ordN_perm L _ _
theorem ordL_inx (L : List Int) : Inx L.length (ordL L) := (upto_inx _).perm (ordL_perm L)
theorem ordL_len (L : List Int) : (ordL L).length = L.length := (ordL_inx L).1
theorem rr_above {L l : List Int} {n k : Nat} (h : Inx L.length l) (hk : ∀ j, j < L.length → ng L j < k) : rr (qv L k) [] l = l :=
  rr_none l fun x hx => by
    obtain ⟨h0, h1⟩ := h.2 x hx
    have := hk x.toNat (by omega)
    simp [qv]; omega
theorem ordN_top {L : List Int} {t : Nat} (ht : ∀ j, j < L.length → ng L j ≤ t) : ∀ (m : Nat) (l : List Int), Inx L.length l → t ≤ m → ordN L m l = ordN L t l
  | 0, l, _, h => by rw [show t = 0 by omega]
  | m + 1, l, hl, h => by
    rcases (by omega : t = m + 1 ∨ t ≤ m) with rfl | h1
    · rfl
    · rw [ordN, rr_above (n := 0) hl (fun j hj => by have := ht j hj; omega)]
      exact ordN_top ht m l hl h1
theorem ordL_top {L : List Int} {t : Nat} (ht : ∀ j, j < L.length → ng L j ≤ t) (h6 : t ≤ 6) : ordN L t (upto 0 L.length) = ordL L := (ordN_top ht 6 _ (upto_inx _) h6).symm

/-- The levels can be ordered. -/
def okL (L : List Int) : Bool := decide (L.length ≤ 60) && L.all fun x => decide (0 ≤ x) && decide (x ≤ 6)
theorem okL_iff {L : List Int} : okL L = true ↔ L.length ≤ 60 ∧ ∀ j, j < L.length → 0 ≤ ng L j ∧ ng L j ≤ 6 := by
  simp only [okL, Bool.and_eq_true, decide_eq_true_eq, List.all_eq_true]
  constructor
  · rintro ⟨h1, h2⟩
    exact ⟨h1, fun j hj => h2 _ (ng_mem hj)⟩
  · rintro ⟨h1, h2⟩
    refine ⟨h1, fun x hx => ?_⟩
    obtain ⟨j, hj, rfl⟩ := List.getElem_of_mem hx
    have := h2 j hj
    rwa [ng_lt hj] at this
def ordO (L : List Int) : List Int := if okL L then ordL L else []
theorem ordO_yes {L : List Int} (h : okL L = true) : ordO L = ordL L := by simp [ordO, h]
theorem ordO_no {L : List Int} (h : okL L = false) : ordO L = [] := by simp [ordO, h]
theorem ordO_len (L : List Int) : (ordO L).length ≤ 60 := by
  cases h : okL L
  · rw [ordO_no h]; simp
  · rw [ordO_yes h, ordL_len]; exact (okL_iff.1 h).1

/-- All levels 0: ascending; all 1: descending; one level more: the opposite. -/
theorem ordL_zero {L : List Int} (h : ∀ j, j < L.length → ng L j = 0) : ordL L = upto 0 L.length :=
  (ordN_top (t := 0) (fun j hj => by rw [h j hj]; simp) 6 _ (upto_inx _) (by omega)).trans rfl
theorem ordL_one {L : List Int} (h : ∀ j, j < L.length → ng L j = 1) : ordL L = (upto 0 L.length).reverse := by
  refine (ordN_top (t := 1) (fun j hj => by rw [h j hj]; simp) 6 _ (upto_inx _) (by omega)).trans ?_
  show rr (qv L 1) [] (upto 0 L.length) = _
  exact rr_all fun x hx => by
    obtain ⟨h0, h1⟩ := upto_mem hx
    simp [qv, h x.toNat (by omega)]
theorem ordN_up {L M : List Int} (hl : M.length = L.length) (h : ∀ j, j < L.length → ng M j = ng L j + 1) : ∀ (n : Nat) (l : List Int), Inx L.length l → (∀ j, j < L.length → 0 ≤ ng L j) → ordN M (n + 1) l = (ordN L n l).reverse
  | 0, l, hi, h0 => by
    show rr (qv M 1) [] l = _
    exact rr_all fun x hx => by
      obtain ⟨a, b⟩ := hi.2 x hx
      have := h x.toNat (by omega)
      have := h0 x.toNat (by omega)
      simp [qv]; omega
  | n + 1, l, hi, h0 => by
    show ordN M (n + 1) (rr (qv M (n + 2)) [] l) = (ordN L n (rr (qv L (n + 1)) [] l)).reverse
    have e : rr (qv M (n + 2)) [] l = rr (qv L (n + 1)) [] l := rr_congr _ _ fun x hx => by
      obtain ⟨a, b⟩ := hi.2 x hx
      have := h x.toNat (by omega)
      simp only [qv, this, decide_eq_decide]
      omega
    rw [e]
    exact ordN_up hl h n _ (rr_inx hi) h0
theorem ordL_up {L M : List Int} (hl : M.length = L.length) (h : ∀ j, j < L.length → ng M j = ng L j + 1) (h0 : ∀ j, j < L.length → 0 ≤ ng L j ∧ ng L j ≤ 5) : ordL M = (ordL L).reverse := by
  have e1 : ordL M = ordN M 6 (upto 0 L.length) := by rw [ordL, hl]
  rw [e1, ordN_up hl h 5 _ (upto_inx _) (fun j hj => (h0 j hj).1), ordL_top (t := 5) (fun j hj => by have := h0 j hj; omega) (by omega)]

/-- Inverse orders. -/
def okI (l : List Int) : Bool := decide (l.length ≤ 60) && (l.all fun x => decide (0 ≤ x) && decide (x < l.length)) && decide l.Nodup
theorem okI_iff {l : List Int} : okI l = true ↔ l.length ≤ 60 ∧ (∀ x ∈ l, 0 ≤ x ∧ x < l.length) ∧ l.Nodup := by
  simp only [okI, Bool.and_eq_true, decide_eq_true_eq, List.all_eq_true, and_assoc]
theorem sub_len : ∀ {l m : List Int}, l.Nodup → (∀ x ∈ l, x ∈ m) → l.length ≤ m.length
  | [], m, _, _ => by simp
  | a :: l, m, hn, hs => by
    rw [List.nodup_cons] at hn
    have hm : a ∈ m := hs a (by simp)
    have := sub_len (l := l) (m := m.erase a) hn.2 fun x hx => by
      have : x ≠ a := fun e => hn.1 (e ▸ hx)
      exact (List.mem_erase_of_ne this).2 (hs x (by simp [hx]))
    rw [List.length_erase_of_mem hm] at this
    have := List.length_pos_of_mem hm
    simp; omega
theorem okI_all {l : List Int} (h : okI l = true) {x : Int} (h0 : 0 ≤ x) (h1 : x < l.length) : x ∈ l := by
  obtain ⟨_, hr, hn⟩ := okI_iff.1 h
  apply Decidable.byContradiction
  intro hx
  have := sub_len (l := x :: l) (m := upto 0 l.length) (List.nodup_cons.2 ⟨hx, hn⟩) fun y hy => by
    have : 0 ≤ y ∧ y < l.length := by
      rcases List.mem_cons.1 hy with rfl | hy
      · exact ⟨h0, h1⟩
      · exact hr y hy
    simp [upto]
    exact ⟨y.toNat, by omega, by omega⟩
  rw [upto_len] at this
  simp at this
  omega
def invL (l : List Int) : List Int := (List.range l.length).map fun i : Nat => (l.idxOf (i : Int) : Int)
def invO (l : List Int) : List Int := if okI l then invL l else []
theorem invO_yes {l : List Int} (h : okI l = true) : invO l = invL l := by simp [invO, h]
theorem invO_no {l : List Int} (h : okI l = false) : invO l = [] := by simp [invO, h]
theorem invL_len (l : List Int) : (invL l).length = l.length := by simp [invL]
theorem invL_get {l : List Int} {k : Nat} (h : k < l.length) : ng (invL l) k = (l.idxOf (k : Int) : Int) := by simp [ng, invL, List.getD, h]
theorem invL_at {l : List Int} (h : okI l = true) {k : Nat} (hk : k < l.length) : ng (invL l) (ng l k).toNat = k := by
  obtain ⟨_, hr, hn⟩ := okI_iff.1 h
  have hb := hr _ (ng_mem hk)
  rw [invL_get (by omega), show (((ng l k).toNat : Nat) : Int) = l[k] by rw [ng_lt hk] at hb ⊢; omega]
  rw [hn.idxOf_getElem k hk]
theorem invL_of {l : List Int} (h : okI l = true) {k : Nat} (hk : k < l.length) : (ng (invL l) k).toNat < l.length ∧ 0 ≤ ng (invL l) k ∧ ng l (ng (invL l) k).toNat = k := by
  have hm : (k : Int) ∈ l := okI_all h (by omega) (by omega)
  have hlt := List.idxOf_lt_length_iff.2 hm
  rw [invL_get hk]
  refine ⟨by simpa using hlt, by omega, ?_⟩
  rw [Int.toNat_natCast, ng_lt hlt, List.getElem_idxOf]
theorem invL_ok {l : List Int} (h : okI l = true) : okI (invL l) = true := by
  have hl := okI_iff.1 h
  refine okI_iff.2 ⟨by rw [invL_len]; exact hl.1, fun x hx => ?_, ?_⟩
  · obtain ⟨k, hk, rfl⟩ := List.getElem_of_mem hx
    have hk' : k < l.length := by rw [invL_len] at hk; exact hk
    have := invL_of h hk'
    rw [← ng_lt hk, invL_len]; omega
  · rw [List.nodup_iff_pairwise_ne, List.pairwise_iff_getElem]
    intro i j hi hj hij e
    have hi' : i < l.length := by rw [invL_len] at hi; exact hi
    have hj' : j < l.length := by rw [invL_len] at hj; exact hj
    have a := (invL_of h hi').2.2
    have b := (invL_of h hj').2.2
    rw [← ng_lt hi, ← ng_lt hj] at e
    rw [e, b] at a
    omega
theorem invL_inv {l : List Int} (h : okI l = true) : invL (invL l) = l := by
  have ho := invL_ok h
  apply Agr.all (by rw [invL_len, invL_len])
  intro k hk
  rw [invL_len, invL_len] at hk
  have h1 := invL_of h hk
  have h2 := invL_at h (k := (ng (invL l) k).toNat) h1.1
  have hm := okI_iff.1 h
  have hb := hm.2.1 _ (ng_mem hk)
  have h3 := invL_at h hk
  have h4 := invL_at ho (k := (ng l k).toNat) (by rw [invL_len]; omega)
  rw [h3, Int.toNat_natCast] at h4
  rw [h4]; omega
theorem ord_ok {L : List Int} (h : okL L = true) : okI (ordL L) = true := by
  refine okI_iff.2 ⟨by rw [ordL_len]; exact (okL_iff.1 h).1, fun x hx => by rw [ordL_len]; exact (ordL_inx L).2 x hx, ?_⟩
  rw [(ordL_perm L).nodup_iff]
  unfold upto
  rw [List.nodup_iff_pairwise_ne, List.pairwise_map]
  exact (List.nodup_iff_pairwise_ne.1 List.nodup_range).imp fun h e => h (by omega)

/-- How far the inverse is: the first p elements are placed. -/
def plc (l : List Int) (p : Nat) : List Int := (List.range l.length).map fun i : Nat => if (i : Int) ∈ l.take p then (l.idxOf (i : Int) : Int) else 0
theorem plc_len (l : List Int) (p : Nat) : (plc l p).length = l.length := by simp [plc]
theorem plc_get {l : List Int} {p k : Nat} (h : k < l.length) : ng (plc l p) k = if (k : Int) ∈ l.take p then (l.idxOf (k : Int) : Int) else 0 := by simp [ng, plc, List.getD, h]
theorem plc_zero (l : List Int) : plc l 0 = List.replicate l.length 0 := by
  apply List.ext_getElem (by simp [plc])
  intro i h1 h2; simp [plc]
theorem take_mem {l : List Int} {p : Nat} (h : p < l.length) {x : Int} : x ∈ l.take (p + 1) ↔ x ∈ l.take p ∨ x = ng l p := by
  rw [← take_next (z := ng l p) h rfl]; simp
theorem plc_step {l : List Int} {p x : Nat} (h : p < l.length) (hx : x < l.length) (he : ng l p = x) (hn : (x : Int) ∉ l.take p) : (plc l p).set x (p : Int) = plc l (p + 1) := by
  have hid : l.idxOf (x : Int) = p := by
    have e : l.take p ++ (x : Int) :: l.drop (p + 1) = l := by
      have : (x : Int) :: l.drop (p + 1) = l.drop p := by rw [← he, ng_lt h, List.getElem_cons_drop]
      rw [this, List.take_append_drop]
    have := List.idxOf_append (l₁ := l.take p) (l₂ := (x : Int) :: l.drop (p + 1)) (a := (x : Int))
    rw [e, if_neg hn, List.idxOf_cons_self] at this
    rw [this, take_len (by omega)]; simp
  apply Agr.all (by rw [List.length_set, plc_len, plc_len])
  intro j hj
  rw [List.length_set, plc_len] at hj
  rw [ng_set (by rw [plc_len]; exact hj), plc_get hj, plc_get hj]
  by_cases e : x = j
  · subst e
    rw [if_pos rfl, if_pos ((take_mem h).2 (.inr he.symm)), hid]
  · rw [if_neg e]
    have : (j : Int) ∈ l.take (p + 1) ↔ (j : Int) ∈ l.take p := by
      rw [take_mem h, he]
      exact ⟨fun h => h.resolve_right (by omega), .inl⟩
    simp only [this]
theorem plc_done {l : List Int} (h : okI l = true) : plc l l.length = invL l := by
  apply Agr.all (by rw [plc_len, invL_len])
  intro j hj
  rw [plc_len] at hj
  rw [plc_get hj, invL_get hj, List.take_length, if_pos (okI_all h (by omega) (by omega))]
/-- What keeps a list from being an order: an element outside, or one that was there before. -/
theorem okI_bad {l : List Int} {p : Nat} (h : p < l.length) (hb : ¬ (0 ≤ ng l p ∧ ng l p < l.length) ∨ ng l p ∈ l.take p) : okI l = false := by
  cases ho : okI l
  · rfl
  · exfalso
    obtain ⟨_, hr, hn⟩ := okI_iff.1 ho
    rcases hb with hb | hb
    · exact hb (hr _ (ng_mem h))
    · obtain ⟨i, hi, e⟩ := List.getElem_of_mem hb
      rw [List.length_take] at hi
      rw [List.getElem_take, ng_lt h] at e
      have := (List.getElem_inj hn).1 e
      omega
theorem okI_good {l : List Int} (h : l.length ≤ 60) (hr : ∀ j, j < l.length → (0 ≤ ng l j ∧ ng l j < l.length) ∧ ng l j ∉ l.take j) : okI l = true := by
  refine okI_iff.2 ⟨h, fun x hx => ?_, ?_⟩
  · obtain ⟨j, hj, rfl⟩ := List.getElem_of_mem hx
    rw [← ng_lt hj]; exact (hr j hj).1
  · rw [List.nodup_iff_pairwise_ne, List.pairwise_iff_getElem]
    intro i j hi hj hij e
    apply (hr j hj).2
    rw [ng_lt hj, ← e]
    rw [List.mem_take_iff_getElem]
    exact ⟨i, by omega, rfl⟩

/-- A part of a list reversed, the outer t pairs of it. -/
def rvs (M : List Int) (i k t : Nat) : List Int := (List.range M.length).map fun j : Nat => if (i ≤ j ∧ j < i + t) ∨ (k ≤ j + t ∧ j < k) then ng M (i + k - 1 - j) else ng M j
theorem rvs_len (M : List Int) (i k t : Nat) : (rvs M i k t).length = M.length := by simp [rvs]
theorem rvs_get {M : List Int} {i k t j : Nat} (h : j < M.length) : ng (rvs M i k t) j = if (i ≤ j ∧ j < i + t) ∨ (k ≤ j + t ∧ j < k) then ng M (i + k - 1 - j) else ng M j := by simp [ng, rvs, List.getD, h]
theorem rvs_zero (M : List Int) (i k : Nat) : rvs M i k 0 = M := by
  apply Agr.all (rvs_len _ _ _ _)
  intro j hj
  rw [rvs_len] at hj
  rw [rvs_get hj, if_neg (by omega)]
theorem rvs_lo {M : List Int} {i k t : Nat} (h : i + t < k - 1 - t) (hk : k ≤ M.length) : ng (rvs M i k t) (i + t) = ng M (i + t) := by rw [rvs_get (by omega), if_neg (by omega)]
theorem rvs_hi {M : List Int} {i k t : Nat} (h : i + t < k - 1 - t) (hk : k ≤ M.length) : ng (rvs M i k t) (k - 1 - t) = ng M (k - 1 - t) := by rw [rvs_get (by omega), if_neg (by omega)]
theorem rvs_step {M : List Int} {i k t : Nat} (h : i + t < k - 1 - t) (hk : k ≤ M.length) : ((rvs M i k t).set (i + t) (ng M (k - 1 - t))).set (k - 1 - t) (ng M (i + t)) = rvs M i k (t + 1) := by
  apply Agr.all (by rw [List.length_set, List.length_set, rvs_len, rvs_len])
  intro j hj
  rw [List.length_set, List.length_set, rvs_len] at hj
  rw [ng_set (by rw [List.length_set, rvs_len]; exact hj), ng_set (by rw [rvs_len]; exact hj), rvs_get hj, rvs_get hj]
  by_cases e1 : k - 1 - t = j
  · subst e1
    rw [if_pos rfl, if_pos (by omega), show i + k - 1 - (k - 1 - t) = i + t by omega]
  · rw [if_neg e1]
    by_cases e2 : i + t = j
    · subst e2
      rw [if_pos rfl, if_pos (by omega), show i + k - 1 - (i + t) = k - 1 - t by omega]
    · rw [if_neg e2]
      by_cases e3 : (i ≤ j ∧ j < i + t) ∨ (k ≤ j + t ∧ j < k)
      · rw [if_pos e3, if_pos (by omega)]
      · rw [if_neg e3, if_neg (by omega)]
theorem rvs_step' {M : List Int} {i k t : Nat} (h : i + t < k - 1 - t) (hk : k ≤ M.length) : ((rvs M i k t).set (k - 1 - t) (ng M (i + t))).set (i + t) (ng M (k - 1 - t)) = rvs M i k (t + 1) := by
  rw [List.set_comm _ _ (by omega)]; exact rvs_step h hk
theorem ng_app {A B : List Int} {j : Nat} : ng (A ++ B) j = if j < A.length then ng A j else ng B (j - A.length) := by
  simp only [ng, List.getD, List.getElem?_append]
  split <;> rfl
theorem ng_rev {R : List Int} {j : Nat} (h : j < R.length) : ng R.reverse j = ng R (R.length - 1 - j) := by
  rw [ng_lt (by simpa using h), List.getElem_reverse, ng_lt]
theorem rvs_done {P R S : List Int} {t : Nat} (ht : R.length ≤ 2 * t + 1) (ht2 : t ≤ R.length) : rvs (P ++ R ++ S) P.length (P.length + R.length) t = P ++ R.reverse ++ S := by
  apply Agr.all (by rw [rvs_len]; simp)
  intro j hj
  rw [rvs_len] at hj
  rw [rvs_get hj]
  simp only [ng_app, List.length_append, List.length_reverse]
  rw [List.length_append, List.length_append] at hj
  by_cases h1 : j < P.length
  · rw [if_neg (by omega), if_pos (by omega), if_pos h1, if_pos (by omega), if_pos h1]
  · by_cases h2 : j < P.length + R.length
    · have e : ng R.reverse (j - P.length) = ng R (R.length - 1 - (j - P.length)) := ng_rev (by omega)
      simp only [e]
      repeat' split
      all_goals first
        | (exfalso; omega)
        | (congr 1; omega)
        | rfl
    · rw [if_neg (by omega), if_neg (by omega), if_neg (by omega)]
end Go.Proofs.Yteoiphjkkcjddaa
