/- Filled texts have all words, for every code: the maths and the law. No condition. -/
import Derived.Test.YtlfhfbeacleggaaJn
import Derived.Test.YtlfhfbeacleggaaFtP
import Derived.Test.YtlfhfbeacleggaaFllE
namespace Go.Proofs.Ytlfhfbeacleggaa
open Go.ChangeShapes Go.WideShapes Go.ChangeAt Go.RowKit
set_option linter.unusedVariables false
set_option linter.unusedSimpArgs false

/-- The characters that are no spaces; how many are. -/
def ltb (x : List UInt8) : List UInt8 := x.filter fun c => c.toNat != 32
def spb (x : List UInt8) : Nat := (x.filter fun c => c.toNat == 32).length
/-- The characters of the first words. -/
def cwb (l : List ByteArray) : Nat → List UInt8
  | 0 => []
  | k + 1 => cwb l k ++ (sg l k).data.toList
theorem ltb_app {x y : List UInt8} : ltb (x ++ y) = ltb x ++ ltb y := List.filter_append _ _
theorem spb_app {x y : List UInt8} : spb (x ++ y) = spb x + spb y := by unfold spb; rw [List.filter_append, List.length_append]
theorem ltb_word {s : ByteArray} (h : okWord s = true) : ltb s.data.toList = s.data.toList ∧ spb s.data.toList = 0 := by
  constructor
  · unfold ltb
    rw [List.filter_eq_self]
    intro c hc
    have := no_sp h c hc
    simp [this]
  · unfold spb
    rw [List.length_eq_zero_iff, List.filter_eq_nil_iff]
    intro c hc
    have := no_sp h c hc
    simp [this]
theorem ltb_rep (n : Nat) : ltb (List.replicate n 32) = [] := by
  unfold ltb
  rw [List.filter_eq_nil_iff]
  intro c hc
  have := List.eq_of_mem_replicate hc
  subst this
  decide
theorem ltb_fb {l : List ByteArray} {r : Nat} (hw : WTo l l.length) : ∀ {k : Nat}, k ≤ l.length → ltb (fb l r k) = cwb l k
  | 0, _ => rfl
  | k + 1, hk => by
    have IH := ltb_fb (r := r) hw (k := k) (by omega)
    simp only [fb, cwb]
    rw [ltb_app, ltb_app, IH, (ltb_word (hw k (by omega))).1]
    split
    · simp [ltb]
    · rw [ltb_rep, List.append_nil]
theorem cwb_sub {l : List ByteArray} {f t : Nat} : ∀ {k : Nat}, k ≤ t - f → cwb l (f + k) = cwb l f ++ cwb (sub l f t) k
  | 0, _ => by simp [cwb]
  | k + 1, hk => by
    rw [show f + (k + 1) = (f + k) + 1 by omega]
    simp only [cwb]
    rw [cwb_sub (f := f) (t := t) (k := k) (by omega), sg_sub (by omega), List.append_assoc]
theorem cwb_len {l : List ByteArray} (h : ∀ k, k < l.length → (sg l k).size ≤ 27) : ∀ {k : Nat}, k ≤ l.length → (cwb l k).length ≤ 27 * k
  | 0, _ => Nat.le_refl _
  | k + 1, hk => by
    have a := cwb_len h (k := k) (by omega)
    have b := h k (by omega)
    have d : (sg l k).data.toList.length = (sg l k).size := by simp
    simp only [cwb, List.length_append]
    omega
/-- What is known of a line of a filled text. -/
structure LnK (l : List ByteArray) (wd : Int) (f t : Nat) (z : ByteArray) : Prop where
  all : cwb l f ++ ltb z.data.toList = cwb l t
  le : (z.size : Int) ≤ wd
  eq : t ≠ l.length → 0 < spb z.data.toList → (z.size : Int) = wd
theorem ln_k {l : List ByteArray} {wd : Int} {f t : Nat} (hw : WOk l) (h1 : f < t) (h2 : t ≤ l.length) (h3 : 0 ≤ rs l wd f t) : LnK l wd f t (ln l wd f t) := by
  have hto := WTo.sub (f := f) hw.1 h2
  have hl := sub_len (l := l) (f := f) h2
  obtain ⟨r, hr⟩ : ∃ r, r = lr l wd f t := ⟨_, rfl⟩
  have hz : (ln l wd f t).data.toList = fb (sub l f t) r (sub l f t).length := by rw [hr]; simp [ln, mkb]
  have hsz : (ln l wd f t).size = (fb (sub l f t) r (sub l f t).length).length := by unfold ln; rw [mkb_size, hr]
  obtain ⟨g, hg⟩ : ∃ g, (sub l f t).length = g + 1 := ⟨(sub l f t).length - 1, by omega⟩
  have hlen := fb_len_eq (l := sub l f t) (r := r) (k := g) (by omega)
  rw [← hg] at hlen
  have g1 : (sub l f t).length - 1 = g := by omega
  rw [g1] at hlen
  have hrs : rs l wd f t = wd + 1 - (sm (sub l f t) (sub l f t).length : Int) - ((sub l f t).length : Int) := rfl
  have hr0 : r = 0 ∨ (t ≠ l.length ∧ (r : Int) = rs l wd f t) := by
    rw [hr]
    unfold lr
    by_cases e : t = l.length
    · rw [if_pos e]; exact .inl rfl
    · rw [if_neg e]; exact .inr ⟨e, by omega⟩
  have hrt : t ≠ l.length → (r : Int) = rs l wd f t := fun e => by
    rw [hr]
    unfold lr
    rw [if_neg e]
    omega
  refine ⟨?_, ?_, fun hne hsp => ?_⟩
  · rw [hz, ltb_fb hto (Nat.le_refl _), hl]
    have := cwb_sub (l := l) (f := f) (t := t) (k := t - f) (Nat.le_refl _)
    rw [← this]
    congr 1
    omega
  · rw [hsz, hlen]
    rcases Nat.eq_zero_or_pos g with e | e
    · subst e
      simp
      omega
    · rw [Nat.mul_div_cancel _ e]
      rcases hr0 with h | ⟨_, h⟩ <;> omega
  · rcases Nat.eq_zero_or_pos g with e | e
    · exfalso
      subst e
      rw [hz, hg] at hsp
      simp only [fb, if_true] at hsp
      rw [List.nil_append, List.nil_append, (ltb_word (hto 0 (by omega))).2] at hsp
      omega
    · rw [hsz, hlen, Nat.mul_div_cancel _ e]
      have := hrt hne
      omega
theorem ltb_step {t : ByteArray} {p : Nat} (h : p < t.size) : t.data.toList.take (p + 1) = t.data.toList.take p ++ [t[p]] := by
  rw [List.take_succ_eq_append_getElem (by simpa using h)]
  rfl
end Go.Proofs.Ytlfhfbeacleggaa
