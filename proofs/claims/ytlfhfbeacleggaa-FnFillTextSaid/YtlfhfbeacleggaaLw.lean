/- The least costly division, as a table: the maths. -/
import Derived.Test.YtlfhfbeacleggaaWcS
namespace Go.Proofs.Ytlfhfbeacleggaa
open Go.ChangeShapes Go.WideShapes Go.ChangeAt Go.RowKit
set_option linter.unusedVariables false
set_option linter.unusedSimpArgs false
open Classical

/-- The least of the candidates from t on, k of them, up to the first that is not allowed; the first of several. -/
def scan (g : Nat → Option Int) : Nat → Nat → Nat × Int → Nat × Int
  | _, 0, a => a
  | t, k + 1, a => match g t with
    | none => a
    | some v => scan g (t + 1) k (if a.1 = 0 ∨ v < a.2 then (t, v) else a)
theorem scan_no {g : Nat → Option Int} {t k : Nat} {a : Nat × Int} (h : g t = none) : scan g t k a = a := by
  cases k with
  | zero => rfl
  | succ k => simp only [scan]; rw [h]
theorem scan_yes {g : Nat → Option Int} {t k : Nat} {a : Nat × Int} {v : Int} (h : g t = some v) : scan g t (k + 1) a = scan g (t + 1) k (if a.1 = 0 ∨ v < a.2 then (t, v) else a) := by
  simp only [scan]; rw [h]
theorem scan_congr {g g' : Nat → Option Int} : ∀ {k t : Nat} {a : Nat × Int}, (∀ s, t ≤ s → s < t + k → g s = g' s) → scan g t k a = scan g' t k a
  | 0, _, _, _ => rfl
  | k + 1, t, a, h => by
    simp only [scan]
    rw [h t (by omega) (by omega)]
    cases g' t with
    | none => rfl
    | some v => exact scan_congr fun s h1 h2 => h s (by omega) (by omega)
theorem scan_inv {g : Nat → Option Int} {P : Nat × Int → Prop} : ∀ {k t : Nat} {a : Nat × Int}, P a → (∀ s v, t ≤ s → s < t + k → g s = some v → P (s, v)) → P (scan g t k a)
  | 0, _, _, h, _ => h
  | k + 1, t, a, h, hg => by
    cases e : g t with
    | none => rw [scan_no e]; exact h
    | some v =>
      rw [scan_yes e]
      refine scan_inv ?_ fun s v h1 h2 => hg s v (by omega) (by omega)
      split
      · exact hg t v (by omega) (by omega) e
      · exact h
/-- The cost of a line up to t, with what is behind it. -/
def cand (c : Nat → Nat → Option Int) (T : Nat → Nat × Int) (f t : Nat) : Option Int := (c f t).map (· + (T t).2)
def tb (n : Nat) (c : Nat → Nat → Option Int) : Nat → Nat → Nat × Int
  | 0, _ => (n, 0)
  | d + 1, f => if n - f ≤ d then tb n c d f else scan (cand c (tb n c d) f) (f + 1) (n - f) (0, 0)
theorem tb_keep {n : Nat} {c : Nat → Nat → Option Int} {f : Nat} : ∀ {d : Nat}, n - f ≤ d → tb n c d f = tb n c (n - f) f
  | 0, h => by rw [show n - f = 0 by omega]
  | d + 1, h => by
    rcases (by omega : n - f ≤ d ∨ n - f = d + 1) with e | e
    · rw [← tb_keep e]
      simp only [tb]
      rw [if_pos e]
    · rw [e]
/-- The end of the first line from f on, and the cost of all. -/
def bt (n : Nat) (c : Nat → Nat → Option Int) (f : Nat) : Nat × Int := tb n c n f
theorem bt_end {n : Nat} {c : Nat → Nat → Option Int} : bt n c n = (n, 0) := by
  unfold bt
  rw [tb_keep (by omega), Nat.sub_self]
  rfl
theorem bt_step {n : Nat} {c : Nat → Nat → Option Int} {f : Nat} (h : f < n) : bt n c f = scan (cand c (bt n c) f) (f + 1) (n - f) (0, 0) := by
  obtain ⟨d, hd⟩ : ∃ d, n - f = d + 1 := ⟨n - f - 1, by omega⟩
  conv => lhs; unfold bt; rw [tb_keep (by omega), hd]; simp only [tb]; rw [if_neg (by omega)]
  refine scan_congr fun s h1 h2 => ?_
  unfold cand bt
  rw [tb_keep (d := d) (f := s) (by omega), tb_keep (d := n) (f := s) (by omega)]
section
variable {n : Nat} {c : Nat → Nat → Option Int}
/-- A line of one element is allowed, and costs are small. -/
def COk (n : Nat) (c : Nat → Nat → Option Int) : Prop := (∀ f, f < n → ∃ v, c f (f + 1) = some v) ∧ ∀ f t v, c f t = some v → 0 ≤ v ∧ v ≤ 3721
theorem bt_bd (h : COk n c) : ∀ {d f : Nat}, n - f = d → f ≤ n → 0 ≤ (bt n c f).2 ∧ (bt n c f).2 ≤ 3721 * ((n - f : Nat) : Int) := by
  intro d
  induction d using Nat.strongRecOn with
  | ind d ih =>
    intro f hd hf
    rcases (by omega : f = n ∨ f < n) with e | e
    · rw [e, bt_end]; simp
    · rw [bt_step e]
      refine scan_inv (P := fun a => 0 ≤ a.2 ∧ a.2 ≤ 3721 * ((n - f : Nat) : Int)) ⟨by simp, by simp; omega⟩ fun s v h1 h2 hs => ?_
      unfold cand at hs
      cases q : c f s with
      | none => rw [q] at hs; cases hs
      | some x =>
        rw [q] at hs
        have hx := h.2 _ _ _ q
        have hy := ih (n - s) (by omega) (f := s) rfl (by omega)
        have hs : x + (bt n c s).2 = v := by injection hs
        have e1 : ((n - s : Nat) : Int) = (n : Int) - s := by omega
        have e2 : ((n - f : Nat) : Int) = (n : Int) - f := by omega
        rw [e1] at hy
        rw [e2]
        dsimp only
        omega
theorem scan_pos {g : Nat → Option Int} {f m : Nat} : ∀ {k t : Nat} {a : Nat × Int}, f < a.1 ∧ a.1 ≤ m → f < t → t + k ≤ m + 1 → f < (scan g t k a).1 ∧ (scan g t k a).1 ≤ m := fun {k t a} h ht hk =>
  scan_inv (P := fun a => f < a.1 ∧ a.1 ≤ m) h fun s v h1 h2 _ => ⟨by dsimp only; omega, by dsimp only; omega⟩
theorem bt_pos (h : COk n c) {f : Nat} (hf : f < n) : f < (bt n c f).1 ∧ (bt n c f).1 ≤ n := by
  rw [bt_step hf]
  obtain ⟨v, hv⟩ := h.1 f hf
  obtain ⟨k, hk⟩ : ∃ k, n - f = k + 1 := ⟨n - f - 1, by omega⟩
  rw [hk, scan_yes (v := v + (bt n c (f + 1)).2) (by unfold cand; rw [hv]; rfl)]
  rw [if_pos (.inl rfl)]
  exact scan_pos ⟨by dsimp only; omega, by dsimp only; omega⟩ (by omega) (by omega)
theorem bt_pos0 (h : COk n c) (hn : 1 ≤ n) {f : Nat} (hf : f ≤ n) : 1 ≤ (bt n c f).1 ∧ (bt n c f).1 ≤ n := by
  rcases (by omega : f = n ∨ f < n) with e | e
  · rw [e, bt_end]; exact ⟨hn, Nat.le_refl _⟩
  · have := bt_pos h e; omega
end
/-- The ends, one after the other. -/
def wE (n : Nat) (T : Nat → Nat × Int) : Nat → Nat → List Int
  | 0, _ => []
  | k + 1, f => if f < n then ((T f).1 : Int) :: wE n T k (T f).1 else []
theorem wE_end {n : Nat} {T : Nat → Nat × Int} {k f : Nat} (h : ¬ f < n) : wE n T k f = [] := by
  cases k with
  | zero => rfl
  | succ k => simp only [wE]; rw [if_neg h]
theorem wE_step {n : Nat} {T : Nat → Nat × Int} {k f : Nat} (h : f < n) : wE n T (k + 1) f = ((T f).1 : Int) :: wE n T k (T f).1 := by simp only [wE]; rw [if_pos h]
theorem wE_len {n : Nat} {T : Nat → Nat × Int} : ∀ {k f : Nat}, (wE n T k f).length ≤ k
  | 0, _ => by simp [wE]
  | k + 1, f => by
    simp only [wE]
    split
    · simp; exact wE_len
    · simp
/-- The cost of a line of words, if it is possible. -/
def cWo (l : List ByteArray) (wd : Int) (f t : Nat) : Option Int := if (cW l wd f t).2 = true then some (cW l wd f t).1 else none
theorem cWo_ok {l : List ByteArray} {wd : Int} (h : WOk l) (h0 : 20 ≤ wd) (h1 : wd ≤ 60) : COk l.length (cWo l wd) := by
  refine ⟨fun f hf => ?_, fun f t v hv => ?_⟩
  · have hr : 0 ≤ rs l wd f (f + 1) := by
      have hl := sub_len (l := l) (f := f) (t := f + 1) (by omega)
      have hw := (okWord_iff.1 (h.1 f hf)).1.2
      have h1 : sm (sub l f (f + 1)) (sub l f (f + 1)).length = (sg l f).size := by
        rw [hl, show f + 1 - f = 1 by omega]
        simp only [sm, Nat.zero_add]
        rw [sg_sub (by omega), Nat.add_zero]
      unfold rs
      rw [h1, hl]
      omega
    have hc : (cW l wd f ((f + 1 : Nat) : Int)).2 = true := by
      rcases (by omega : f + 1 = l.length ∨ f + 1 < l.length) with e | e
      · rw [cW_last (by omega) hr e]
      · rw [cW_mid (by omega) hr e]
    exact ⟨_, by unfold cWo; rw [if_pos hc]⟩
  · unfold cWo at hv
    split at hv
    · injection hv with hv
      subst hv
      unfold cW
      split
      · next q =>
        have hr : rs l wd (f : Int).toNat (t : Int).toNat ≤ 61 := by unfold rs; omega
        have := sq_bd q.2.2.2 hr
        dsimp only
        split <;> omega
      · dsimp only; omega
    · cases hv
theorem cWo_no {l : List ByteArray} {wd : Int} {f t : Nat} (h : (cW l wd f t).2 = false) : cWo l wd f t = none := by unfold cWo; rw [h]; rfl
theorem cWo_yes {l : List ByteArray} {wd : Int} {f t : Nat} (h : (cW l wd f t).2 = true) : cWo l wd f t = some (cW l wd f t).1 := by unfold cWo; rw [h]; rfl
/-- The ends of the lines of a text. -/
def wW (l : List ByteArray) (wd : Int) : List Int := wE l.length (bt l.length (cWo l wd)) l.length 0
/-- What WrapWords answers. -/
noncomputable def wwO (l : List ByteArray) (wd : Int) : List Int := if wok l && inB wd 20 60 then wW l wd else []
end Go.Proofs.Ytlfhfbeacleggaa
