/- First fit needs the fewest lines: pure maths. -/
import Derived.Test.YtmncdpiojhgcdaaOf
import Derived.Test.YtmncdpiojhgcdaaFfM
namespace Go.Proofs.Ytmncdpiojhgcdaa
open Go.ChangeShapes Go.WideShapes Go.ChangeAt Go.RowKit
set_option linter.unusedVariables false
set_option linter.unusedSimpArgs false
open Classical

/-- What a line has that cannot be shrunk, up to an item. -/
def yS (L : List It) (k : Nat) : Int := sW L k - sS L k
theorem yS_mono {L : List It} (hall : OTo L L.length) {a : Nat} : ∀ {k : Nat}, a ≤ k → k ≤ L.length → yS L a ≤ yS L k
  | 0, ha, _ => by rw [show a = 0 by omega]; exact Int.le_refl _
  | k + 1, ha, hk => by
    rcases (by omega : a = k + 1 ∨ a ≤ k) with rfl | h1
    · exact Int.le_refl _
    · have h2 := yS_mono hall (k := k) h1 (by omega)
      have h3 : inS (tg L k) ≤ inW (tg L k) := by
        have := iok_iff.1 (hall k (by omega))
        unfold inW inS
        rcases this with h | h | h <;> (split <;> split <;> omega)
      unfold yS at h2 ⊢
      simp only [sW, sS]
      omega
theorem yS_zero (L : List It) : yS L 0 = 0 := rfl
theorem fBx_mono {L : List It} {p p' : Nat} (h : p ≤ p') (h2 : p' ≤ L.length) : fBx L p ≤ fBx L p' := by
  rcases (by omega : fBx L p ≤ fBx L p' ∨ fBx L p' < fBx L p) with e | e
  · exact e
  · have h3 := fBx_in (L := L) (i := p') h2
    have h4 := fBx_in (L := L) (i := p) (by omega)
    have h5 := fBx_yes (L := L) (i := p') h2 (by omega)
    have h6 := fBx_no (L := L) (i := p) (j := fBx L p') (by omega) (by omega) e
    rw [h5] at h6; cases h6
/-- Where a line is overfull. -/
theorem over_iff {L : List It} {d : Int} {p q : Nat} (hall : OTo L L.length) (hs : sW L L.length ≤ 10000) (hz : ∀ j, j < L.length → (tg L j).k = 3 → (tg L j).w ≤ 0) (hd : inB d 1 10000 = true) (h : hasL L ((p : Int) - 1) q = true) : (ftL L ((p : Int) - 1) q d).1 = 4 ↔ d < yS L q - yS L (min (fBx L p) q) := by
  obtain ⟨p1, q1, e1, e2, e3, e4, _, _, _⟩ := hasL_of h
  obtain rfl : p1 = p := by omega
  obtain rfl : q1 = q := by omega
  rw [ftL_yes (by rw [h, hd]; rfl)]
  obtain ⟨g1, g2, g3⟩ := lg_eqs (L := L) (q := q1) e1
  have a0 : atW (tg L q1) = 0 := by
    unfold atW
    split
    · next h3 =>
      have := hz q1 e4 h3
      rcases iok_iff.1 (hall q1 e4) with g | g | g <;> omega
    · rfl
  have m1 := s_mono hall (a := min (fBx L p1) q1) (k := q1) (Nat.min_le_right _ _) (by omega)
  have m2 := s_mono hall (a := q1) (k := L.length) (by omega) (Nat.le_refl _)
  have m3 := s_bd hall (k := min (fBx L p1) q1) (by have := Nat.min_le_right (fBx L p1) q1; omega)
  have m4 := yS_mono hall (a := min (fBx L p1) q1) (k := q1) (Nat.min_le_right _ _) (by omega)
  unfold yS at m4 ⊢
  rw [a0] at g1
  have c1 : cl (lgW L ((p1 : Int) - 1) q1) = lgW L ((p1 : Int) - 1) q1 := by
    rcases cl_way (lgW L ((p1 : Int) - 1) q1) with ⟨_, e⟩ | ⟨e, _⟩
    · exact e
    · omega
  have c2 : cl (lgS L ((p1 : Int) - 1) q1) = lgS L ((p1 : Int) - 1) q1 := by
    rcases cl_way (lgS L ((p1 : Int) - 1) q1) with ⟨_, e⟩ | ⟨e, _⟩
    · exact e
    · omega
  rw [c1, c2]
  rcases fit_cases (lgW L ((p1 : Int) - 1) q1) (cl (lgT L ((p1 : Int) - 1) q1)) (lgS L ((p1 : Int) - 1) q1) d with ⟨x, e⟩ | ⟨x, e⟩ | ⟨x, y, e⟩ | ⟨x, y, e⟩ <;> rw [e] <;> simp <;> omega
theorem ffT_ge {L : List It} {d : Int} {p m0 : Nat} (h : hasL L ((p : Int) - 1) ((p + m0 : Nat) : Int) = true) (h2 : (ftL L ((p : Int) - 1) ((p + m0 : Nat) : Int) d).1 ≠ 4) : ∀ {m : Nat}, m0 < m → ((p + m0 : Nat) : Int) ≤ ffT L d p m
  | 0, hm => by omega
  | m + 1, hm => by
    rcases (by omega : m0 = m ∨ m0 < m) with e | e
    · subst e
      rw [ffT_yes h (.inr h2)]
      exact Int.le_refl _
    · have IH := ffT_ge h h2 e
      simp only [ffT]
      split
      · omega
      · exact IH
/-- First fit is never behind other lines. -/
theorem fp_ahead {L : List It} {d : Int} {E : List Int} (ok : isOk L = true) (hd : inB d 1 10000 = true) (hs : sW L L.length ≤ 10000) (hz : ∀ j, j < L.length → (tg L j).k = 3 → (tg L j).w ≤ 0) (hE : okT (-1) E (fun _ a b => (0, hasL L a b)) E.length) (hno : ∀ k, k < E.length → (ftL L (frm (-1) E k) (ng E k) d).1 ≠ 4) : ∀ k, k ≤ E.length → frm (-1) E k + 1 ≤ (fpS L d k : Int) := fun k => by
  have hall := (isOk_iff.1 ok).1
  induction k with
  | zero => intro _; rw [frm_zero]; exact Int.le_refl _
  | succ k ih =>
    intro hk
    have IH := ih (by omega)
    have f0 : hasL L (frm (-1) E k) (ng E k) = true := hE k hk
    have n0 := hno k hk
    obtain ⟨p0, q, e1, e2, e3, e4, e5, e6, e7⟩ := hasL_of f0
    rw [show frm (-1) E k = (p0 : Int) - 1 by omega, e2] at f0 n0
    rw [frm_succ, e2]
    obtain ⟨⟨s1, s2⟩, s3⟩ := fpS_step (d := d) ok (k := k)
    have s4 := fpS_mono (d := d) ok (show k ≤ k + 1 by omega)
    rcases (by omega : q + 1 ≤ fpS L d k ∨ fpS L d k ≤ q) with g | g
    · omega
    · obtain ⟨q', a1, a2, a3, a4, a5⟩ := s3 (by omega)
      obtain ⟨p, hp⟩ : ∃ p, p = fpS L d k := ⟨_, rfl⟩
      rw [← hp] at s1 s2 a1 a2 a5 g IH
      have nf1 := nF_mono L (a := p0) (k := p) (by omega)
      have nf2 := nF_mono L (a := p) (k := q) g
      have hl : hasL L ((p : Int) - 1) q = true := by
        unfold hasL
        rw [show ((p : Int) - 1 + 1).toNat = p by omega, show ((q : Int)).toNat = q by omega, e6, decide_eq_true (show nF L p = nF L q by omega), decide_eq_true (show -1 ≤ (p : Int) - 1 by omega), decide_eq_true (show (p : Int) - 1 < (q : Int) by omega), decide_eq_true (show (q : Int) < (L.length : Int) by omega)]
        rcases s2 with s2 | s2
        · rw [decide_eq_true (show (p : Int) - 1 = -1 by omega)]; rfl
        · rcases Nat.eq_zero_or_pos p with p0' | p0'
          · rw [decide_eq_true (show (p : Int) - 1 = -1 by omega)]; rfl
          · rw [show ((p : Int) - 1).toNat = p - 1 by omega, s2]; simp
      have b1 : ¬ d < yS L q - yS L (min (fBx L p0) q) := fun x => n0 ((over_iff hall hs hz hd f0).2 x)
      have b2 := fBx_mono (L := L) (p := p0) (p' := p) (by omega) (by omega)
      have b3 := yS_mono hall (a := min (fBx L p0) q) (k := min (fBx L p) q) (by omega) (by have := Nat.min_le_right (fBx L p) q; omega)
      have b4 : (ftL L ((p : Int) - 1) q d).1 ≠ 4 := fun x => by
        have := (over_iff hall hs hz hd hl).1 x
        omega
      obtain ⟨m0, hm0⟩ : ∃ m0, q = p + m0 := ⟨q - p, by omega⟩
      have b5 := ffT_ge (L := L) (d := d) (p := p) (m0 := m0) (by rw [← hm0]; exact hl) (by rw [← hm0]; exact b4) (m := L.length - p) (by omega)
      have b6 : ffN L d p = ffT L d p (L.length - p) := rfl
      omega
theorem ovN_memG {L : List It} {d : Int} {E : List Int} {k : Nat} : ∀ {n : Nat}, k < n → (ftL L (frm (-1) E k) (ng E k) d).1 = 4 → (k : Int) ∈ ovN L d E n
  | 0, h, _ => by omega
  | n + 1, h, h4 => by
    rcases (by omega : k < n ∨ k = n) with e | e
    · have IH := ovN_memG (n := n) e h4
      simp only [ovN]
      split
      · exact List.mem_append_left _ IH
      · exact IH
    · subst e
      rw [ovN_yes h4]
      simp
theorem ff_least {L : List It} {d : Int} {E : List Int} (ok : isOk L = true) (hd : inB d 1 10000 = true) (hs : sW L L.length ≤ 10000) (hz : ∀ j, j < L.length → (tg L j).k = 3 → (tg L j).w ≤ 0) (hv : vbO L E = true) (ho : (ovO L d E).length = 0) : (ffO L d).length ≤ E.length := by
  have hv' := hv
  rw [vbO_eq] at hv'
  obtain ⟨_, a, b, _⟩ := cbV_true hv'
  have ho2 := List.eq_nil_of_length_eq_zero ho
  rw [ovO_yes (by rw [hv, hd]; rfl)] at ho2
  have hno : ∀ k, k < E.length → (ftL L (frm (-1) E k) (ng E k) d).1 ≠ 4 := fun k hk h4 => by
    have := ovN_memG (n := E.length) hk h4
    rw [ho2] at this
    cases this
  have h1 := fp_ahead ok hd hs hz b hno E.length (Nat.le_refl _)
  have h2 := of_decide_eq_true a
  rw [ffO_yes (by rw [ok, hd]; rfl), ffA_len]
  rcases (by omega : nFF L d ≤ E.length ∨ E.length < nFF L d) with g | g
  · exact g
  · have := nFF_lt ok g
    omega
/-- Drawn items are small. -/
def Small (L : List It) : Prop := ∃ k : Nat, ∀ j, j < L.length → (tg L j).w ≤ if j = k then 1001 else 15
theorem small_sW {L : List It} (h : Small L) (hl : L.length ≤ 23) : sW L L.length ≤ 10000 := by
  obtain ⟨k, hk⟩ := h
  have key : ∀ m, m ≤ L.length → sW L m ≤ 15 * (m : Int) + (if k < m then 1001 else 0) := fun m => by
    induction m with
    | zero => intro _; simp [sW]
    | succ m ih =>
      intro hm
      have IH := ih (by omega)
      have h1 := hk m (by omega)
      have h2 : inW (tg L m) ≤ max (tg L m).w 0 := by
        unfold inW
        split <;> omega
      simp only [sW]
      by_cases e1 : m = k
      · rw [if_pos e1] at h1
        rw [if_pos (by omega)]
        rw [if_neg (by omega)] at IH
        omega
      · rw [if_neg e1] at h1
        by_cases e2 : k < m
        · rw [if_pos e2] at IH
          rw [if_pos (by omega)]
          omega
        · rw [if_neg e2] at IH
          rw [if_neg (by omega)]
          omega
  have := key L.length (Nat.le_refl _)
  split at this <;> omega
end Go.Proofs.Ytmncdpiojhgcdaa
