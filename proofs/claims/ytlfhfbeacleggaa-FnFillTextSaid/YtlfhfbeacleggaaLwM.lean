/- The least costly division: its lines are allowed, its cost is the table's, and none is better. It speaks of no program. -/
import Derived.Test.YtlfhfbeacleggaaLwB
namespace Go.Proofs.Ytlfhfbeacleggaa
open Go.ChangeShapes Go.WideShapes Go.ChangeAt Go.RowKit
set_option linter.unusedVariables false
set_option linter.unusedSimpArgs false
open Classical

theorem bt_ok {n : Nat} {c : Nat → Nat → Option Int} (h : COk n c) {f : Nat} (hf : f < n) : ∃ v, c f (bt n c f).1 = some v ∧ (bt n c f).2 = v + (bt n c (bt n c f).1).2 := by
  have hp := bt_pos h hf
  have P : (bt n c f).1 = 0 ∨ cand c (bt n c) f (bt n c f).1 = some (bt n c f).2 := by
    rw [bt_step hf]
    exact scan_inv (P := fun a => a.1 = 0 ∨ cand c (bt n c) f a.1 = some a.2) (.inl rfl) fun s v h1 h2 hs => .inr hs
  rcases P with e | e
  · omega
  · unfold cand at e
    cases q : c f (bt n c f).1 with
    | none => rw [q] at e; cases e
    | some v =>
      rw [q] at e
      have e : v + (bt n c (bt n c f).1).2 = (bt n c f).2 := by injection e
      exact ⟨v, rfl, e.symm⟩
theorem frm_cons {s x : Int} {L : List Int} (j : Nat) : frm s (x :: L) (j + 1) = frm x L j := by
  cases j with
  | zero => rfl
  | succ j => rfl
theorem ng_cons {x : Int} {L : List Int} (j : Nat) : ng (x :: L) (j + 1) = ng L j := rfl
theorem sto_shift {f : Nat → Int} : ∀ {k : Nat}, sto f (k + 1) = f 0 + sto (fun j => f (j + 1)) k
  | 0 => by simp [sto]
  | k + 1 => by
    have := sto_shift (f := f) (k := k)
    simp only [sto] at this ⊢
    omega
section
variable {n : Nat} {c : Nat → Nat → Option Int}
theorem wE_at (h : COk n c) : ∀ {k f : Nat}, f ≤ n → n - f ≤ k → (∀ j, j < (wE n (bt n c) k f).length → ∃ p : Nat, p < n ∧ frm (f : Int) (wE n (bt n c) k f) j = p ∧ ng (wE n (bt n c) k f) j = ((bt n c p).1 : Int)) ∧ frm (f : Int) (wE n (bt n c) k f) (wE n (bt n c) k f).length = n
  | 0, f, hf, hk => by
    obtain rfl : f = n := by omega
    exact ⟨fun j hj => by simp [wE] at hj, rfl⟩
  | k + 1, f, hf, hk => by
    by_cases hlt : f < n
    · have hp := bt_pos h hlt
      obtain ⟨a, b⟩ := wE_at h (k := k) (f := (bt n c f).1) hp.2 (by omega)
      rw [wE_step hlt]
      refine ⟨fun j hj => ?_, ?_⟩
      · cases j with
        | zero => exact ⟨f, hlt, rfl, rfl⟩
        | succ j =>
          rw [frm_cons, ng_cons]
          exact a j (by simpa using hj)
      · rw [List.length_cons, frm_cons]
        exact b
    · rw [wE_end hlt]
      obtain rfl : f = n := by omega
      exact ⟨fun j hj => by simp at hj, rfl⟩
theorem wE_sum (h : COk n c) {G : Int → Int → Int} (hG : ∀ (f t : Nat) v, c f t = some v → G f t = v) : ∀ {k f : Nat}, f ≤ n → n - f ≤ k → sto (fun j => G (frm (f : Int) (wE n (bt n c) k f) j) (ng (wE n (bt n c) k f) j)) (wE n (bt n c) k f).length = (bt n c f).2
  | 0, f, hf, hk => by
    obtain rfl : f = n := by omega
    rw [bt_end]; rfl
  | k + 1, f, hf, hk => by
    by_cases hlt : f < n
    · have hp := bt_pos h hlt
      have ih := wE_sum h hG (k := k) (f := (bt n c f).1) hp.2 (by omega)
      obtain ⟨v, hv, hs⟩ := bt_ok h hlt
      rw [wE_step hlt, List.length_cons, sto_shift]
      simp only [frm_cons, ng_cons]
      rw [ih, hs]
      congr 1
      exact hG _ _ _ hv
    · rw [wE_end hlt]
      obtain rfl : f = n := by omega
      rw [bt_end]; rfl
/-- Of candidates that are all allowed up to one, none is smaller. -/
theorem scan_min {g : Nat → Option Int} : ∀ {k t : Nat} {a : Nat × Int} {x : Nat} {v : Int}, 0 < t → t ≤ x → x < t + k → (∀ s, t ≤ s → s ≤ x → ∃ y, g s = some y) → g x = some v → (scan g t k a).2 ≤ v ∧ (a.1 ≠ 0 → (scan g t k a).2 ≤ a.2)
  | 0, t, a, x, v, h0, h1, h2, _, _ => by omega
  | k + 1, t, a, x, v, h0, h1, h2, h3, h4 => by
    obtain ⟨y, hy⟩ := h3 t (Nat.le_refl _) h1
    rw [scan_yes hy]
    have low : ∀ {k t : Nat} {a : Nat × Int}, 0 < t → a.1 ≠ 0 → (scan g t k a).2 ≤ a.2 := by
      intro k
      induction k with
      | zero => intro t a _ _; exact Int.le_refl _
      | succ k ih =>
        intro t a ht ha
        cases e : g t with
        | none => rw [scan_no e]; exact Int.le_refl _
        | some z =>
          rw [scan_yes e]
          split
          · next q =>
            have := ih (t := t + 1) (a := (t, z)) (by omega) (by dsimp only; omega)
            dsimp only at this
            omega
          · exact ih (by omega) ha
    rcases (by omega : t = x ∨ t < x) with e | e
    · subst e
      rw [hy] at h4
      injection h4 with h4
      subst h4
      split
      · next q =>
        have := low (k := k) (t := t + 1) (a := (t, y)) (by omega) (by dsimp only; omega)
        dsimp only at this
        exact ⟨this, fun h => by rcases q with q | q <;> omega⟩
      · next q =>
        have := low (k := k) (t := t + 1) (a := a) (by omega) (by omega)
        exact ⟨by omega, fun h => this⟩
    · split
      · next q =>
        have := scan_min (g := g) (k := k) (t := t + 1) (a := (t, y)) (x := x) (v := v) (by omega) (by omega) (by omega) (fun s h5 h6 => h3 s (by omega) h6) h4
        have h7 := this.2 (by dsimp only; omega)
        dsimp only at h7
        exact ⟨this.1, fun h => by rcases q with q | q <;> omega⟩
      · next q =>
        have := scan_min (g := g) (k := k) (t := t + 1) (a := a) (x := x) (v := v) (by omega) (by omega) (by omega) (fun s h5 h6 => h3 s (by omega) h6) h4
        exact ⟨this.1, this.2⟩
/-- A longer line is not allowed where a shorter one is not. -/
def CMo (n : Nat) (c : Nat → Nat → Option Int) : Prop := ∀ f t u v, f < t → t ≤ u → u ≤ n → c f u = some v → ∃ y, c f t = some y
theorem bt_min (h : COk n c) (hm : CMo n c) {f x : Nat} {v : Int} (hf : f < x) (hx : x ≤ n) (hv : c f x = some v) : (bt n c f).2 ≤ v + (bt n c x).2 := by
  have hlt : f < n := by omega
  rw [bt_step hlt]
  refine (scan_min (x := x) (by omega) (by omega) (by omega) (fun s h1 h2 => ?_) (show cand c (bt n c) f x = some (v + (bt n c x).2) by unfold cand; rw [hv]; rfl)).1
  obtain ⟨y, hy⟩ := hm f s x v (by omega) h2 hx hv
  exact ⟨y + (bt n c s).2, by unfold cand; rw [hy]; rfl⟩
theorem min_sum (h : COk n c) (hm : CMo n c) {G : Int → Int → Int} (hG : ∀ (f t : Nat) v, c f t = some v → G f t = v) : ∀ {E : List Int} {f : Nat}, f ≤ n → (∀ j, j < E.length → ∃ p q : Nat, frm (f : Int) E j = p ∧ ng E j = q ∧ p < q ∧ q ≤ n ∧ ∃ v, c p q = some v) → frm (f : Int) E E.length = n → (bt n c f).2 ≤ sto (fun j => G (frm (f : Int) E j) (ng E j)) E.length
  | [], f, hf, _, he => by
    have e : (f : Int) = n := he
    obtain rfl : f = n := by omega
    rw [bt_end]; exact Int.le_refl _
  | x :: E, f, hf, ha, he => by
    obtain ⟨p, q, h1, h2, h3, h4, v, h5⟩ := ha 0 (by simp)
    have h1 : (f : Int) = p := h1
    obtain rfl : f = p := by omega
    have h2 : x = q := h2
    subst h2
    have ih := min_sum h hm hG (E := E) (f := q) h4 (fun j hj => by
      have := ha (j + 1) (by simpa using hj)
      rwa [frm_cons, ng_cons] at this) (by rw [List.length_cons, frm_cons] at he; exact he)
    rw [List.length_cons, sto_shift]
    simp only [frm_cons, ng_cons]
    have := bt_min h hm h3 h4 h5
    have e : G (frm (f : Int) ((q : Int) :: E) 0) (ng ((q : Int) :: E) 0) = v := hG f q v h5
    rw [e]
    omega
end
theorem cWo_some {l : List ByteArray} {wd : Int} {f t : Nat} {v : Int} (h : cWo l wd f t = some v) : (cW l wd f t).1 = v ∧ (cW l wd f t).2 = true := by
  unfold cWo at h
  split at h
  · next e => injection h with h; exact ⟨h, e⟩
  · cases h
theorem cW_true {l : List ByteArray} {wd : Int} {f t : Nat} (h : (cW l wd f t).2 = true) : f < t ∧ t ≤ l.length ∧ 0 ≤ rs l wd f t := by
  unfold cW at h
  split at h
  · next q => simp only [Int.toNat_natCast] at q; omega
  · cases h
theorem sm_sub {l : List ByteArray} {f t u : Nat} (h : t ≤ u) : ∀ {k}, k ≤ t - f → sm (sub l f t) k = sm (sub l f u) k
  | 0, _ => rfl
  | k + 1, hk => by
    simp only [sm]
    rw [sm_sub h (by omega), sg_sub (by omega), sg_sub (by omega)]
theorem sm_mono {l : List ByteArray} {j : Nat} : ∀ {k}, j ≤ k → sm l j ≤ sm l k
  | 0, h => by rw [show j = 0 by omega]; exact Nat.le_refl _
  | k + 1, h => by
    rcases (by omega : j = k + 1 ∨ j ≤ k) with e | e
    · rw [e]; exact Nat.le_refl _
    · have := sm_mono (l := l) e
      simp only [sm]; omega
theorem rs_mono {l : List ByteArray} {wd : Int} {f t u : Nat} (h : t ≤ u) (hu : u ≤ l.length) (hf : f ≤ t) : rs l wd f u ≤ rs l wd f t := by
  unfold rs
  rw [sub_len hu, sub_len (show t ≤ l.length by omega), sm_sub h (Nat.le_refl _)]
  have := sm_mono (l := sub l f u) (show t - f ≤ u - f by omega)
  omega
theorem cWo_mo {l : List ByteArray} {wd : Int} : CMo l.length (cWo l wd) := fun f t u v h1 h2 h3 h4 => by
  have hu := cW_true (cWo_some h4).2
  have hr := rs_mono (l := l) (wd := wd) h2 h3 (by omega : f ≤ t)
  refine ⟨(cW l wd f t).1, cWo_yes ?_⟩
  rcases (by omega : t = l.length ∨ t < l.length) with e | e
  · rw [cW_last h1 (by omega) e]
  · rw [cW_mid h1 (by omega) e]
theorem cWo_G {l : List ByteArray} {wd : Int} : ∀ (f t : Nat) v, cWo l wd f t = some v → (fun p q => (cW l wd p q).1) (f : Int) (t : Int) = v := fun f t v h => (cWo_some h).1
section
variable {l : List ByteArray} {wd : Int}
theorem ww_parts (h : (wok l && inB wd 20 60) = true) : WOk l ∧ 20 ≤ wd ∧ wd ≤ 60 := by
  obtain ⟨k1, k2⟩ := (Bool.and_eq_true _ _).mp h
  have := inB_iff.1 k2
  exact ⟨wok_iff.1 k1, this.1, this.2⟩
theorem wW_ve (h : (wok l && inB wd 20 60) = true) : ve (wW l wd) l.length = true := by
  obtain ⟨h1, h2, h3⟩ := ww_parts h
  have ok := cWo_ok h1 h2 h3
  obtain ⟨a, b⟩ := wE_at ok (k := l.length) (f := 0) (by omega) (by omega)
  refine ve_iff.2 ⟨fun j hj => ?_, ?_⟩
  · obtain ⟨p, hp, e1, e2⟩ := a j hj
    rw [pv_frm]
    have := bt_pos ok hp
    have e1 : frm 0 (wW l wd) j = p := e1
    have e2 : ng (wW l wd) j = ((bt l.length (cWo l wd) p).1 : Int) := e2
    omega
  · unfold lst
    rw [pv_frm]
    exact b
theorem wW_ok (h : (wok l && inB wd 20 60) = true) : okT 0 (wW l wd) (fun _ f t => cW l wd f t) (wW l wd).length := fun j hj => by
  obtain ⟨h1, h2, h3⟩ := ww_parts h
  have ok := cWo_ok h1 h2 h3
  obtain ⟨p, hp, e1, e2⟩ := (wE_at ok (k := l.length) (f := 0) (by omega) (by omega)).1 j hj
  obtain ⟨v, hv, _⟩ := bt_ok ok hp
  have e1 : frm 0 (wW l wd) j = p := e1
  have e2 : ng (wW l wd) j = ((bt l.length (cWo l wd) p).1 : Int) := e2
  show (cW l wd (frm 0 (wW l wd) j) (ng (wW l wd) j)).2 = true
  rw [e1, e2]
  exact (cWo_some hv).2
/-- The least cost. -/
def lc (l : List ByteArray) (wd : Int) : Int := (bt l.length (cWo l wd) 0).2
theorem wW_cost (h : (wok l && inB wd 20 60) = true) : wcO l wd (wW l wd) = (lc l wd, true) := by
  obtain ⟨h1, h2, h3⟩ := ww_parts h
  have ok := cWo_ok h1 h2 h3
  rw [wcO_yes (by rw [h, wW_ve h]; rfl), toO_yes (wW_ok h)]
  have := wE_sum ok (G := fun p q => (cW l wd p q).1) cWo_G (k := l.length) (f := 0) (by omega) (by omega)
  exact congrArg (·, true) this
theorem lc_pos (h : (wok l && inB wd 20 60) = true) : 0 ≤ lc l wd := by
  obtain ⟨h1, h2, h3⟩ := ww_parts h
  exact (bt_bd (cWo_ok h1 h2 h3) (d := l.length - 0) (f := 0) rfl (by omega)).1
theorem lc_le {E : List Int} (h : (wcO l wd E).2 = true) : (wok l && inB wd 20 60) = true ∧ lc l wd ≤ (wcO l wd E).1 := by
  cases q : (wok l && inB wd 20 60 && ve E l.length) with
  | false => rw [wcO_no q] at h; cases h
  | true =>
    obtain ⟨q1, q2⟩ := (Bool.and_eq_true _ _).mp q
    obtain ⟨h1, h2, h3⟩ := ww_parts q1
    rw [wcO_yes q] at h ⊢
    refine ⟨q1, ?_⟩
    by_cases hk : okT 0 E (fun _ f t => cW l wd f t) E.length
    · rw [toO_yes hk]
      refine min_sum (cWo_ok h1 h2 h3) cWo_mo (G := fun p q => (cW l wd p q).1) cWo_G (E := E) (f := 0) (by omega) (fun j hj => ?_) ?_
      · obtain ⟨f, t, e1, e2, e3, e4⟩ := ve_at q2 hj
        have := hk j hj
        dsimp only at this
        rw [e1, e2] at this
        exact ⟨f, t, e1, e2, e3, e4, _, cWo_yes this⟩
      · have := (ve_iff.1 q2).2
        unfold lst at this
        rw [pv_frm] at this
        exact this
    · rw [toO_no hk] at h; cases h
theorem wW_last (h : (wok l && inB wd 20 60) = true) (hn : wW l wd ≠ []) : ng (wW l wd) ((wW l wd).length - 1) = l.length := by
  have := (ve_iff.1 (wW_ve h)).2
  unfold lst at this
  rw [pv_frm] at this
  obtain ⟨k, hk⟩ : ∃ k, (wW l wd).length = k + 1 := ⟨(wW l wd).length - 1, by have := List.length_pos_iff.2 hn; omega⟩
  rw [hk] at this ⊢
  exact this
end
end Go.Proofs.Ytlfhfbeacleggaa
