/- Patterns as lists: what reading one gives after each byte, and what comes out. No program. -/
import Derived.Test.YteoiphjkkcjddaaILists
namespace Go.Proofs.Yteoiphjkkcjddaa
set_option linter.unusedVariables false

/-- One byte of a pattern: a character (a letter, a period at an end), or a digit where none stands. -/
def ppStep (n i : Nat) (c : UInt8) (st : List UInt8 × List Int) : Option (List UInt8 × List Int) :=
  if (97 ≤ c.toNat ∧ c.toNat ≤ 122) ∨ (c.toNat = 46 ∧ (i = 0 ∨ i + 1 = n)) then some (st.1 ++ [c], st.2 ++ [0])
  else if (49 ≤ c.toNat ∧ c.toNat ≤ 57) ∧ ng st.2 (st.2.length - 1) = 0 then some (st.1, st.2.set (st.2.length - 1) ((c.toNat : Int) - 48))
  else none
/-- What the first k bytes give. -/
def ppTo (s : List UInt8) : Nat → Option (List UInt8 × List Int)
  | 0 => some ([], [0])
  | k + 1 => (ppTo s k).bind (ppStep s.length k (s.getD k 0))
/-- What a pattern gives. -/
def pp (s : List UInt8) : Option (List UInt8 × List Int) := (ppTo s s.length).filter fun st => decide (1 ≤ st.1.length ∧ st.1.length ≤ 20)

theorem ppTo_succ {s : List UInt8} {k : Nat} {st : List UInt8 × List Int} (h : ppTo s k = some st) : ppTo s (k + 1) = ppStep s.length k (s.getD k 0) st := by simp [ppTo, h]
theorem ppTo_none {s : List UInt8} {k : Nat} (h : ppTo s k = none) (d : Nat) : ppTo s (k + d) = none := by
  induction d with
  | zero => exact h
  | succ d ih => show ppTo s (k + d + 1) = none; simp [ppTo, ih]
theorem pp_none {s : List UInt8} {k : Nat} (h : ppTo s k = none) (hk : k ≤ s.length) : pp s = none := by
  have := ppTo_none h (s.length - k)
  rw [show k + (s.length - k) = s.length from by omega] at this
  simp [pp, this]
theorem ppStep_len {n i : Nat} {c : UInt8} {st st' : List UInt8 × List Int} (h : ppStep n i c st = some st') (hl : st.2.length = st.1.length + 1) : st'.2.length = st'.1.length + 1 ∧ st.1.length ≤ st'.1.length ∧ st'.1.length ≤ st.1.length + 1 := by
  unfold ppStep at h
  split at h
  · injection h with h; subst h; simp [hl]
  · split at h
    · injection h with h; subst h; simp [hl]
    · cases h
theorem ppTo_len {s : List UInt8} {k : Nat} {st : List UInt8 × List Int} (h : ppTo s k = some st) : st.2.length = st.1.length + 1 ∧ st.1.length ≤ k := by
  induction k generalizing st with
  | zero => simp [ppTo] at h; subst h; simp
  | succ k ih =>
    cases hk : ppTo s k with
    | none => simp [ppTo, hk] at h
    | some t =>
      rw [ppTo_succ hk] at h
      have h1 := ih hk
      have h2 := ppStep_len h h1.1
      exact ⟨h2.1, by omega⟩
theorem ppTo_grow {s : List UInt8} {k : Nat} {st : List UInt8 × List Int} (h : ppTo s k = some st) (d : Nat) {st' : List UInt8 × List Int} (h' : ppTo s (k + d) = some st') : st.1.length ≤ st'.1.length := by
  induction d generalizing st' with
  | zero => rw [Nat.add_zero, h] at h'; injection h' with h'; subst h'; exact Nat.le_refl _
  | succ d ih =>
    cases hk : ppTo s (k + d) with
    | none => rw [show k + (d + 1) = (k + d) + 1 from rfl] at h'; simp [ppTo, hk] at h'
    | some t =>
      rw [show k + (d + 1) = (k + d) + 1 from rfl, ppTo_succ hk] at h'
      have h1 := ih hk
      have h2 := ppStep_len h' (ppTo_len hk).1
      omega
/-- Too many characters are never forgiven. -/
theorem pp_long {s : List UInt8} {k : Nat} {st : List UInt8 × List Int} (h : ppTo s k = some st) (hk : k ≤ s.length) (hl : 20 < st.1.length) : pp s = none := by
  unfold pp
  cases hs : ppTo s s.length with
  | none => rfl
  | some t =>
    have := ppTo_grow h (s.length - k) (st' := t) (by rw [show k + (s.length - k) = s.length from by omega]; exact hs)
    simp [Option.filter, show ¬ t.1.length ≤ 20 from by omega]
theorem pp_some {s : List UInt8} {st : List UInt8 × List Int} (h : ppTo s s.length = some st) (h1 : 1 ≤ st.1.length) (h2 : st.1.length ≤ 20) : pp s = some st := by
  simp [pp, h, Option.filter, h1, h2]
theorem pp_empty {s : List UInt8} {st : List UInt8 × List Int} (h : ppTo s s.length = some st) (h1 : ¬ 1 ≤ st.1.length) : pp s = none := by
  simp [pp, h, Option.filter, h1]
theorem ppStep_char {n i : Nat} {c : UInt8} {st : List UInt8 × List Int} (h : (97 ≤ c.toNat ∧ c.toNat ≤ 122) ∨ (c.toNat = 46 ∧ (i = 0 ∨ i + 1 = n))) : ppStep n i c st = some (st.1 ++ [c], st.2 ++ [0]) := if_pos h
theorem ppStep_digit {n i : Nat} {c : UInt8} {st : List UInt8 × List Int} (h : 49 ≤ c.toNat ∧ c.toNat ≤ 57) (h0 : ng st.2 (st.2.length - 1) = 0) : ppStep n i c st = some (st.1, st.2.set (st.2.length - 1) ((c.toNat : Int) - 48)) := by
  unfold ppStep; rw [if_neg (by omega), if_pos ⟨h, h0⟩]
theorem ppStep_no {n i : Nat} {c : UInt8} {st : List UInt8 × List Int} (h : ¬ ((97 ≤ c.toNat ∧ c.toNat ≤ 122) ∨ (c.toNat = 46 ∧ (i = 0 ∨ i + 1 = n)))) (h' : ¬ ((49 ≤ c.toNat ∧ c.toNat ≤ 57) ∧ ng st.2 (st.2.length - 1) = 0)) : ppStep n i c st = none := by
  unfold ppStep; rw [if_neg h, if_neg h']
/-- The last value is a digit exactly if the last byte was one. -/
theorem ng_last_snoc (l : List Int) (z : Int) : ng (l ++ [z]) ((l ++ [z]).length - 1) = z := by simp [ng, List.getD]
theorem ng_last_set {l : List Int} (z : Int) (h : 0 < l.length) : ng (l.set (l.length - 1) z) ((l.set (l.length - 1) z).length - 1) = z := by
  rw [List.length_set, ng_set (by omega), if_pos rfl]

/-- Values and characters put together again. -/
def recon (L : List UInt8) (V : List Int) : Nat → List UInt8
  | 0 => []
  | k + 1 => recon L V k ++ ((if 0 < ng V k then [(48 + (ng V k).toNat).toUInt8] else []) ++ (if k < L.length then [L.getD k 0] else []))
theorem recon_ext {L L' : List UInt8} {V V' : List Int} (k : Nat) (h1 : ∀ j, j < k → ng V j = ng V' j) (h2 : ∀ j, j < k → j < L.length ∧ j < L'.length ∧ L.getD j 0 = L'.getD j 0) : recon L V k = recon L' V' k := by
  induction k with
  | zero => rfl
  | succ k ih =>
    have a := h1 k (by omega)
    have b := h2 k (by omega)
    simp only [recon]
    rw [ih (fun j hj => h1 j (by omega)) (fun j hj => h2 j (by omega)), a, if_pos b.1, if_pos b.2.1, b.2.2]
/-- What was read so far is what values and characters give together. -/
theorem ppTo_recon {s : List UInt8} {k : Nat} {st : List UInt8 × List Int} (hk : k ≤ s.length) (h : ppTo s k = some st) : recon st.1 st.2 st.2.length = s.take k ∧ (∀ j, j < st.2.length → 0 ≤ ng st.2 j ∧ ng st.2 j ≤ 9) := by
  induction k generalizing st with
  | zero => simp [ppTo] at h; subst h; simp [recon, ng]
  | succ k ih =>
    cases hp : ppTo s k with
    | none => simp [ppTo, hp] at h
    | some t =>
      obtain ⟨i1, i2⟩ := ih (by omega) hp
      have hl := (ppTo_len hp).1
      rw [ppTo_succ hp] at h
      have hc : s.getD k 0 = s[k] := by simp [List.getD, List.getElem?_eq_getElem (show k < s.length by omega)]
      have ht : s.take (k + 1) = s.take k ++ [s.getD k 0] := by rw [hc, List.take_add_one, List.getElem?_eq_getElem (by omega)]; rfl
      rw [ht, ← i1]
      generalize s.getD k 0 = c at h
      unfold ppStep at h
      split at h
      · injection h with h; subst h
        refine ⟨?_, ?_⟩
        · obtain ⟨m, hm⟩ : ∃ m, m = t.1.length := ⟨_, rfl⟩
          have e : t.2.length = m + 1 := by omega
          have e' : (t.2 ++ [(0 : Int)]).length = m + 1 + 1 := by simp [e]
          rw [e', e]
          have n1 : ng (t.2 ++ [(0 : Int)]) (m + 1) = 0 := by simp [ng, List.getD, ← e]
          have n2 : ng (t.2 ++ [(0 : Int)]) m = ng t.2 m := by rw [ng_lt (by simp; omega), ng_lt (by omega), List.getElem_append_left]
          simp only [recon, n1, n2, List.length_append, List.length_cons, List.length_nil, ← hm]
          rw [recon_ext m (V := t.2 ++ [0]) (V' := t.2) (L := t.1 ++ [c]) (L' := t.1) (fun j hj => by rw [ng_lt (by simp; omega), ng_lt (by omega), List.getElem_append_left]) (fun j hj => ⟨by simp; omega, by omega, by simp [List.getD, List.getElem?_append_left (show j < t.1.length by omega)]⟩)]
          simp [List.getD, hm]
        · intro j hj
          exact ng_snoc (P := fun z => 0 ≤ z ∧ z ≤ 9) (by omega) i2 j hj
      · split at h
        · rename_i hd
          injection h with h; subst h
          obtain ⟨hd, h0⟩ := hd
          rw [hl, Nat.add_sub_cancel] at h0 ⊢
          have n2 : ng (t.2.set t.1.length ((c.toNat : Int) - 48)) t.1.length = (c.toNat : Int) - 48 := by rw [ng_set (by omega), if_pos rfl]
          have e4 : (48 + ((c.toNat : Int) - 48).toNat).toUInt8 = c := by
            rw [show 48 + ((c.toNat : Int) - 48).toNat = c.toNat from by omega]; simp
          have e5 := recon_ext t.1.length (V := t.2.set t.1.length ((c.toNat : Int) - 48)) (V' := t.2) (L := t.1) (L' := t.1) (fun j hj => by rw [ng_set (by omega), if_neg (by omega)]) (fun j hj => ⟨hj, hj, rfl⟩)
          refine ⟨?_, ?_⟩
          · rw [List.length_set, hl]
            simp only [recon, n2, h0, e4, e5, Int.lt_irrefl, Nat.lt_irrefl, if_false]
            simp
            omega
          · intro j hj
            rw [List.length_set] at hj
            rw [ng_set hj]
            split
            · omega
            · exact i2 j hj
        · cases h
end Go.Proofs.Yteoiphjkkcjddaa
