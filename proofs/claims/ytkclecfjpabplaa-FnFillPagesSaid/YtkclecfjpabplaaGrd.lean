/- Pieces that are filled one after the other: they fit, and no others are fewer. It speaks of no program. -/
import Derived.Test.YtkclecfjpabplaaRf
import Derived.Test.YtkclecfjpabplaaFil
namespace Go.Proofs.Ytkclecfjpabplaa
open Go.ChangeShapes Go.WideShapes Go.ChangeAt Go.RowKit
set_option linter.unusedVariables false

theorem frm_consG {s x : Int} {L : List Int} (j : Nat) : frm s (x :: L) (j + 1) = frm x L j := by
  cases j with
  | zero => rfl
  | succ j => rfl
theorem ng_consG {x : Int} {L : List Int} (j : Nat) : ng (x :: L) (j + 1) = ng L j := rfl
theorem adv_fits {f : Nat → Nat → Bool} {p : Nat} : ∀ k t, adv f p k t = t ∨ f p (adv f p k t) = true
  | 0, t => .inl rfl
  | k + 1, t => by
    cases q : f p (t + 1)
    · left; exact adv_no q
    · rw [adv_yes q]
      rcases adv_fits k (t + 1) with h | h
      · right; rw [h]; exact q
      · right; exact h
theorem adv_reach {f : Nat → Nat → Bool} {p e : Nat} (h : ∀ t, p < t → t ≤ e → f p t = true) : ∀ k t, p ≤ t → e ≤ t + k → e ≤ adv f p k t
  | 0, t, h1, h2 => by have := adv_ge f p 0 t; omega
  | k + 1, t, h1, h2 => by
    rcases (by omega : e ≤ t ∨ t < e) with g | g
    · have := adv_ge f p (k + 1) t; omega
    · rw [adv_yes (h (t + 1) (by omega) (by omega))]
      exact adv_reach h k (t + 1) (by omega) (by omega)
/-- Pieces between s and n that all fit. -/
def Fits (f : Nat → Nat → Bool) (n : Nat) (s : Int) (E : List Int) : Prop := (∀ j, j < E.length → ∃ a b : Nat, frm s E j = a ∧ ng E j = b ∧ a < b ∧ b ≤ n ∧ f a b = true) ∧ frm s E E.length = n
theorem fil_says {f : Nat → Nat → Bool} {n : Nat} : ∀ k p L, fil f n k p = some L → n - p ≤ k → p ≤ n → Fits f n p L := fun k => by
  induction k with
  | zero =>
    intro p L h h1 h2
    rw [fil_end (by omega)] at h
    injection h with h
    subst h
    exact ⟨fun j hj => by simp at hj, by show (p : Int) = n; omega⟩
  | succ k ih =>
    intro p L h h1 h2
    by_cases hp : p < n
    · by_cases e : adv f p (n - p) p = p
      · rw [fil_no hp h1 e] at h; cases h
      · obtain ⟨q, hq⟩ : ∃ q, q = adv f p (n - p) p := ⟨_, rfl⟩
        have hg := adv_ge f p (n - p) p
        have hf := adv_fits (f := f) (p := p) (n - p) p
        rw [fil_go hp h1 hq.symm (by rw [hq]; exact e)] at h
        rw [← hq] at hg hf e
        cases h2' : fil f n k q with
        | none => rw [h2'] at h; cases h
        | some L' =>
          rw [h2'] at h
          injection h with h
          subst h
          obtain ⟨i1, i2⟩ := ih q L' h2' (by omega) (by omega)
          refine ⟨fun j hj => ?_, ?_⟩
          · cases j with
            | zero => exact ⟨p, q, rfl, rfl, by omega, by omega, by rcases hf with hf | hf
                                                                    · exact absurd hf e
                                                                    · exact hf⟩
            | succ j =>
              obtain ⟨a, b, h3⟩ := i1 j (by simpa using hj)
              refine ⟨a, b, ?_⟩
              rw [frm_consG, ng_consG]
              exact h3
          · show frm (p : Int) ((q : Int) :: L') (L'.length + 1) = n
            rw [frm_consG]
            exact i2
    · rw [fil_end (by omega)] at h
      injection h with h
      subst h
      exact ⟨fun j hj => by simp at hj, by show (p : Int) = n; omega⟩
/-- What fits as a whole fits in part. -/
def Mono (f : Nat → Nat → Bool) (n : Nat) : Prop := ∀ a b a' b', b ≤ n → f a b = true → a ≤ a' → a' < b' → b' ≤ b → f a' b' = true
theorem Fits.le {f : Nat → Nat → Bool} {n : Nat} {E : List Int} (h : Fits f n 0 E) : ∀ j, j ≤ E.length → 0 ≤ frm 0 E j ∧ frm 0 E j ≤ n
  | 0, _ => by rw [frm_zero]; omega
  | j + 1, hj => by
    obtain ⟨a, b, h1, h2, h3, h4, _⟩ := h.1 j (by omega)
    rw [frm_succ]; omega
theorem Fits.at_ {f : Nat → Nat → Bool} {n : Nat} {E : List Int} (h : Fits f n 0 E) {i : Nat} : ∀ j, j ≤ E.length → (i : Int) < frm 0 E j → ∃ m, m < j ∧ frm 0 E m ≤ i ∧ (i : Int) < ng E m
  | 0, _, h0 => by rw [frm_zero] at h0; omega
  | j + 1, hj, h0 => by
    rw [frm_succ] at h0
    rcases (by omega : (i : Int) < frm 0 E j ∨ frm 0 E j ≤ i) with g | g
    · obtain ⟨m, h1, h2⟩ := Fits.at_ h j (by omega) g
      exact ⟨m, by omega, h2⟩
    · exact ⟨j, by omega, g, h0⟩
theorem fil_least {f : Nat → Nat → Bool} {n : Nat} {E : List Int} (hm : Mono f n) (hE : Fits f n 0 E) : ∀ k p j L, fil f n k p = some L → n - p ≤ k → j ≤ E.length → frm 0 E j ≤ p → L.length + j ≤ E.length := fun k => by
  induction k with
  | zero =>
    intro p j L h h1 h2 h3
    rw [fil_end (by omega)] at h
    injection h with h
    subst h
    simpa using h2
  | succ k ih =>
    intro p j L h h1 h2 h3
    by_cases hp : p < n
    · by_cases e : adv f p (n - p) p = p
      · rw [fil_no hp h1 e] at h; cases h
      · obtain ⟨q, hq⟩ : ∃ q, q = adv f p (n - p) p := ⟨_, rfl⟩
        have hg := adv_ge f p (n - p) p
        rw [fil_go hp h1 hq.symm (by rw [hq]; exact e)] at h
        cases h2' : fil f n k q with
        | none => rw [h2'] at h; cases h
        | some L' =>
          rw [h2'] at h
          injection h with h
          subst h
          have hj : j < E.length := by
            rcases (by omega : j < E.length ∨ j = E.length) with g | g
            · exact g
            · rw [g, hE.2] at h3; omega
          obtain ⟨a, b, e1, e2, e3, e4, e5⟩ := hE.1 j hj
          have hr : b ≤ q := by
            rw [hq]
            rcases (by omega : b ≤ p ∨ p < b) with g | g
            · omega
            · exact adv_reach (fun t ht1 ht2 => hm a b p t e4 e5 (by omega) ht1 ht2) (n - p) p (by omega) (by omega)
          have := ih q (j + 1) L' h2' (by omega) (by omega) (by rw [frm_succ]; omega)
          show L'.length + 1 + j ≤ _
          omega
    · rw [fil_end (by omega)] at h
      injection h with h
      subst h
      simpa using h2
theorem fil_some {f : Nat → Nat → Bool} {n : Nat} {E : List Int} (hm : Mono f n) (hE : Fits f n 0 E) : ∀ k p, n - p ≤ k → ∃ L, fil f n k p = some L := fun k => by
  induction k with
  | zero => intro p h; exact ⟨[], fil_end (by omega)⟩
  | succ k ih =>
    intro p h
    by_cases hp : p < n
    · obtain ⟨m, h1, h2, h3⟩ := hE.at_ (i := p) E.length (Nat.le_refl _) (by rw [hE.2]; omega)
      obtain ⟨a, b, e1, e2, e3, e4, e5⟩ := hE.1 m h1
      have f1 := hm a b p (p + 1) e4 e5 (by omega) (by omega) (by omega)
      obtain ⟨q, hq⟩ : ∃ q, q = adv f p (n - p) p := ⟨_, rfl⟩
      have hr : p + 1 ≤ q := by
        rw [hq]
        exact adv_reach (fun t ht1 ht2 => by obtain rfl : t = p + 1 := by omega
                                             exact f1) (n - p) p (by omega) (by omega)
      obtain ⟨L, hL⟩ := ih q (by omega)
      exact ⟨(q : Int) :: L, by rw [fil_go hp h hq.symm (by omega), hL]; rfl⟩
    · exact ⟨[], fil_end (by omega)⟩
end Go.Proofs.Ytkclecfjpabplaa
