/- Pages: what the best ones cost, and that none are better. -/
import Derived.Test.YtkclecfjpabplaaCkp
import Derived.Test.YtkclecfjpabplaaGrd
namespace Go.Proofs.Ytkclecfjpabplaa
open Go.ChangeShapes Go.WideShapes Go.ChangeAt Go.RowKit
set_option linter.unusedVariables false
open Classical

theorem ng_appP {E : List Int} {x : Int} {i : Nat} (h : i < E.length) : ng (E ++ [x]) i = ng E i := by
  unfold ng
  simp [List.getD, List.getElem?_append_left h]
theorem ng_lastP {E : List Int} {x : Int} : ng (E ++ [x]) E.length = x := by
  unfold ng
  simp [List.getD]
theorem frm_appP {E : List Int} {x : Int} {i : Nat} (h : i ≤ E.length) : frm 0 (E ++ [x]) i = frm 0 E i := by
  cases i with
  | zero => rfl
  | succ i =>
    rw [frm_succ, frm_succ]
    exact ng_appP (by omega)
theorem fpg_iff {L : List Gp} {h : Int} {a b : Nat} (h1 : a < b) (h2 : b ≤ L.length) : fpg L h a b = (pgC L h 0 a b).2 := by
  rw [pgC_at h1 h2]
  unfold fpg pgq
  split
  · rw [decide_eq_false (by omega)]
  · split
    · rw [decide_eq_true (by omega)]
    · rw [decide_eq_true (by omega)]
theorem cpV_true {L : List Gp} {h : Int} {E : List Int} (e : (cpV L h E).2 = true) : (lok L && inB h 1 10000) = true ∧ ve E L.length = true ∧ okT 0 E (fun _ f t => pgC L h 0 f t) E.length ∧ (cpV L h E).1 = pS L h E E.length := by
  cases q : (lok L && inB h 1 10000 && ve E L.length)
  · rw [cpV_no q] at e; cases e
  · obtain ⟨a, b⟩ := (Bool.and_eq_true _ _).mp q
    rw [cpV_yes q] at e ⊢
    by_cases o : okT 0 E (fun _ f t => pgC L h 0 f t) E.length
    · refine ⟨a, b, o, ?_⟩
      rw [toO_yes o]
      rfl
    · rw [toO_no o] at e; cases e
theorem fits_of {L : List Gp} {h : Int} {E : List Int} (e : (cpV L h E).2 = true) : Fits (fpg L h) L.length 0 E := by
  obtain ⟨_, v, o, _⟩ := cpV_true e
  constructor
  · intro j hj
    obtain ⟨f, t, e1, e2, e3, e4⟩ := ve_atP v hj
    refine ⟨f, t, e1, e2, e3, e4, ?_⟩
    rw [fpg_iff e3 e4]
    have := o j hj
    rwa [e1, e2] at this
  · have := (ve_iff.1 v).2
    unfold lst at this
    rwa [pv_frmP] at this
theorem cpV_of {L : List Gp} {h : Int} {E : List Int} (q : (lok L && inB h 1 10000) = true) (hf : Fits (fpg L h) L.length 0 E) : cpV L h E = (pS L h E E.length, true) := by
  have v : ve E L.length = true := by
    refine ve_iff.2 ⟨fun j hj => ?_, ?_⟩
    · obtain ⟨a, b, e1, e2, e3, _⟩ := hf.1 j hj
      rw [pv_frmP, e1, e2]
      omega
    · unfold lst
      rw [pv_frmP]
      exact hf.2
  rw [cpV_yes (by rw [q, v]; rfl), toO_yes]
  · rfl
  · intro j hj
    obtain ⟨a, b, e1, e2, e3, e4, e5⟩ := hf.1 j hj
    rw [fpg_iff e3 e4] at e5
    rw [e1, e2]
    exact e5
/-- The way to a node: its pages fit, and cost what the table says. -/
theorem bk_fits {L : List Gp} {h : Int} : ∀ (m : Nat) {j : Nat} {d : Dn}, j < m → j ≤ L.length → dpD (gP L h) j = some d →
    (bkL (gP L h) ndP d.2.2 j).length = d.2.2 ∧ Fits (fpg L h) j 0 (bkL (gP L h) ndP d.2.2 j) ∧ pS L h (bkL (gP L h) ndP d.2.2 j) d.2.2 = d.1
  | 0, _, _, h0, _, _ => by omega
  | m + 1, j, d, hm, hj, e => by
    rcases Nat.eq_zero_or_pos j with h0 | h0
    · subst h0
      have := dpD_zero_of e
      subst this
      exact ⟨rfl, ⟨fun i hi => by simp [bkL] at hi, rfl⟩, rfl⟩
    · obtain ⟨hb, x, n, e1, e2, e3, e4⟩ := dpD_from h0 e
      obtain ⟨i1, i2, i3⟩ := bk_fits m (j := d.2.1) (by omega) (by omega) e1
      have hB : bkL (gP L h) ndP d.2.2 j = bkL (gP L h) ndP x.2.2 d.2.1 ++ [(j : Int)] := by
        rw [e4]
        show bkL _ _ _ (bfN _ j) ++ _ = _
        rw [bfN_of e]
      obtain ⟨E, hE⟩ : ∃ E, E = bkL (gP L h) ndP x.2.2 d.2.1 := ⟨_, rfl⟩
      rw [← hE] at i1 i2 i3 hB
      rw [hB]
      have hp : (pgC L h 0 d.2.1 j).2 = true ∧ (pgC L h 0 d.2.1 j).1 = n := by
        unfold gP at e2
        split at e2
        · next q => cases e2; exact ⟨q, rfl⟩
        · cases e2
      have hl : (E ++ [(j : Int)]).length = E.length + 1 := by simp
      have hfr : frm 0 (E ++ [(j : Int)]) E.length = (d.2.1 : Int) := by rw [frm_appP (Nat.le_refl _), i2.2]
      refine ⟨by rw [hl, i1, e4], ⟨fun i hi => ?_, ?_⟩, ?_⟩
      · rw [hl] at hi
        rcases (by omega : i < E.length ∨ i = E.length) with e5 | e5
        · obtain ⟨a, b, f1, f2, f3, f4, f5⟩ := i2.1 i e5
          exact ⟨a, b, by rw [frm_appP (by omega)]; exact f1, by rw [ng_appP e5]; exact f2, f3, by omega, f5⟩
        · subst e5
          exact ⟨d.2.1, j, hfr, ng_lastP, hb, Nat.le_refl _, by rw [fpg_iff hb hj]; exact hp.1⟩
      · rw [hl, frm_succ, ng_lastP]
      · rw [e4, ← i1, e3]
        show sto _ (E.length + 1) = _
        simp only [sto]
        rw [hfr, ng_lastP, hp.2]
        congr 1
        rw [← i3, ← i1]
        exact sto_congr (fun k hk => by rw [frm_appP (by omega), ng_appP hk])
theorem Fits.to_n {f : Nat → Nat → Bool} {n : Nat} {E : List Int} (h : Fits f n 0 E) : True := trivial
/-- BestPages' answer is accepted. -/
theorem bp_check {L : List Gp} {h : Int} (e : (bpV L h).2.2 = true) : (lok L && inB h 1 10000) = true ∧ Fits (fpg L h) L.length 0 (bpV L h).1 ∧ cpV L h (bpV L h).1 = ((bpV L h).2.1, true) := by
  cases q : (lok L && inB h 1 10000)
  · rw [bpV_no q] at e; cases e
  · rw [bpV_yes q] at e ⊢
    unfold dpR at e ⊢
    cases dn : dpD (gP L h) L.length with
    | none => rw [dn] at e; cases e
    | some d =>
      obtain ⟨a, b, c⟩ := bk_fits (L := L) (h := h) (L.length + 1) (Nat.lt_succ_self _) (Nat.le_refl _) dn
      refine ⟨rfl, b, ?_⟩
      show cpV L h (bkL (gP L h) ndP d.2.2 L.length) = (d.1, true)
      rw [cpV_of q b, a, c]
/-- No pages that fit are better. -/
theorem bp_least {L : List Gp} {h : Int} {E : List Int} (q : (lok L && inB h 1 10000) = true) (hf : Fits (fpg L h) L.length 0 E) : (bpV L h).2.2 = true ∧ (bpV L h).2.1 ≤ pS L h E E.length := by
  have hK : ∀ k, k ≤ E.length → ∃ (i : Nat) (d : Dn), frm 0 E k = i ∧ dpD (gP L h) i = some d ∧ d.1 ≤ pS L h E k := fun k => by
    induction k with
    | zero => intro _; exact ⟨0, (0, 0, 0), rfl, rfl, Int.le_refl _⟩
    | succ k ih =>
      intro hk
      obtain ⟨i, d, e1, e2, e3⟩ := ih (by omega)
      obtain ⟨a, b, f1, f2, f3, f4, f5⟩ := hf.1 k (by omega)
      obtain rfl : i = a := by omega
      rw [fpg_iff f3 f4] at f5
      obtain ⟨d', g1, g2⟩ := dpD_least (g := gP L h) f3 e2 (gP_yes f5)
      refine ⟨b, d', by rw [frm_succ]; exact f2, g1, ?_⟩
      have : pS L h E (k + 1) = pS L h E k + (pgC L h 0 (frm 0 E k) (ng E k)).1 := rfl
      rw [this, f1, f2]
      omega
  obtain ⟨i, d, e1, e2, e3⟩ := hK E.length (Nat.le_refl _)
  have := hf.2
  obtain rfl : i = L.length := by omega
  rw [bpV_yes q]
  unfold dpR
  rw [e2]
  exact ⟨rfl, e3⟩
theorem fits_lst {f : Nat → Nat → Bool} {n : Nat} {E : List Int} (h : Fits f n 0 E) (hn : 1 ≤ n) : 1 ≤ E.length ∧ ng E (E.length - 1) = n := by
  have := h.2
  rcases Nat.eq_zero_or_pos E.length with e | e
  · rw [e] at this
    have h0 : (0 : Int) = n := this
    omega
  · obtain ⟨k, hk⟩ : ∃ k, E.length = k + 1 := ⟨E.length - 1, by omega⟩
    rw [hk, frm_succ] at this
    exact ⟨e, by rw [hk]; exact this⟩
/-- Costs are not negative; a single page costs nothing. -/
theorem pS_nn {L : List Gp} {h : Int} (ok : OkPg L h) {E : List Int} : ∀ {k : Nat}, 0 ≤ pS L h E k
  | 0 => Int.le_refl _
  | k + 1 => by
    have a := pS_nn ok (E := E) (k := k)
    have b := pgC_bd ok 0 (frm 0 E k) (ng E k)
    have : pS L h E (k + 1) = pS L h E k + (pgC L h 0 (frm 0 E k) (ng E k)).1 := rfl
    omega
theorem pS_one {L : List Gp} {h : Int} {E : List Int} (hf : Fits (fpg L h) L.length 0 E) (hE : E.length ≤ 1) (h1 : 1 ≤ L.length) : pS L h E E.length = 0 := by
  obtain ⟨a, b⟩ := fits_lst hf h1
  have hl : E.length = 1 := by omega
  have hb : ng E 0 = (L.length : Int) := by rw [hl] at b; exact b
  rw [hl]
  show 0 + (pgC L h 0 (frm 0 E 0) (ng E 0)).1 = 0
  rw [hb, show frm 0 E 0 = ((0 : Nat) : Int) from rfl, pgC_at (by omega) (Nat.le_refl _), Int.zero_add]
  unfold pgq
  split
  · rfl
  · rw [if_pos rfl]
end Go.Proofs.Ytkclecfjpabplaa
