/- Numbers in letters, as lists of bytes: Roman numerals and alphabetic numbers. It speaks of no program. -/
import Derived.Test.YtonkbakoifdmiaaDoorBase
namespace Go.Proofs.YtonkbakoifdmiaaDoor
set_option linter.unusedVariables false

/-- The values and the texts of the parts of Roman numerals, the largest one first. -/
def rpV (k : Nat) : Nat := [1000, 900, 500, 400, 100, 90, 50, 40, 10, 9, 5, 4, 1].getD k 1
def rpT (k : Nat) : List UInt8 := [[109], [99, 109], [100], [99, 100], [99], [120, 99], [108], [120, 108], [120], [105, 120], [118], [105, 118], [105]].getD k [105]
/-- What is written of n, with j parts left. -/
def romA : Nat → Nat → List UInt8
  | 0, _ => []
  | j + 1, n => (List.replicate (n / rpV (12 - j)) (rpT (12 - j))).flatten ++ romA j (n % rpV (12 - j))
def rom (k n : Nat) : List UInt8 := romA (13 - k) n
theorem rp_facts {k : Nat} (h : k < 13) : 1 ≤ rpV k ∧ rpV k ≤ 1000 ∧ 1 ≤ (rpT k).length ∧ (rpT k).length ≤ rpV k ∧ (rpT k).length ≤ 2 := by
  have : ∀ k : Fin 13, 1 ≤ rpV k ∧ rpV k ≤ 1000 ∧ 1 ≤ (rpT k).length ∧ (rpT k).length ≤ rpV k ∧ (rpT k).length ≤ 2 := by decide
  exact this ⟨k, h⟩
theorem rom_open {k : Nat} (h : k < 13) (n : Nat) : rom k n = (List.replicate (n / rpV k) (rpT k)).flatten ++ rom (k + 1) (n % rpV k) := by
  unfold rom
  rw [show 13 - k = (12 - k) + 1 from by omega, romA, show 12 - (12 - k) = k from by omega, show 13 - (k + 1) = 12 - k from by omega]
theorem rom_take {k n : Nat} (h : k < 13) (hn : rpV k ≤ n) : rom k n = rpT k ++ rom k (n - rpV k) := by
  have := (rp_facts h).1
  rw [rom_open h, rom_open h (n - rpV k), Nat.div_eq_sub_div (by omega) hn, List.replicate_succ, List.flatten_cons, Nat.mod_eq_sub_mod hn, List.append_assoc]
theorem rom_skip {k n : Nat} (h : k < 13) (hn : n < rpV k) : rom k n = rom (k + 1) n := by
  rw [rom_open h, Nat.div_eq_of_lt hn, Nat.mod_eq_of_lt hn]
  simp
theorem rom_end (n : Nat) : rom 13 n = [] := rfl
theorem rom_len {k n : Nat} (h : k ≤ 13) : (rom k n).length ≤ n := by
  generalize hj : 13 - k = j
  induction j generalizing k n with
  | zero => obtain rfl : k = 13 := by omega
            simp [rom_end]
  | succ j ih =>
    have hk : k < 13 := by omega
    rw [rom_open hk, List.length_append, List.length_flatten, List.map_replicate, List.sum_replicate_nat]
    have h1 := ih (k := k + 1) (n := n % rpV k) (by omega) (by omega)
    have h2 := (rp_facts hk).2.2.2.1
    have h3 := Nat.div_add_mod n (rpV k)
    have h4 : n / rpV k * (rpT k).length ≤ n / rpV k * rpV k := Nat.mul_le_mul_left _ h2
    rw [Nat.mul_comm (rpV k)] at h3
    omega

theorem rep_nil {n : Nat} {t : List UInt8} (ht : 1 ≤ t.length) (h : (List.replicate n t).flatten = []) : n = 0 := by
  cases n with
  | zero => rfl
  | succ n =>
    rw [List.replicate_succ, List.flatten_cons] at h
    have := (List.append_eq_nil_iff.1 h).1
    rw [this] at ht
    simp at ht
theorem rom_nil {k n : Nat} (hk : k < 13) (h : rom k n = []) : n = 0 := by
  generalize hj : 12 - k = j
  induction j generalizing k n with
  | zero =>
    obtain rfl : k = 12 := by omega
    rw [rom_open (by omega)] at h
    have := rep_nil (rp_facts (k := 12) (by omega)).2.2.1 (List.append_eq_nil_iff.1 h).1
    have e : rpV 12 = 1 := rfl
    rw [e] at this
    omega
  | succ j ih =>
    rw [rom_open (by omega)] at h
    have h1 := rep_nil (rp_facts hk).2.2.1 (List.append_eq_nil_iff.1 h).1
    have h2 := ih (k := k + 1) (by omega) (List.append_eq_nil_iff.1 h).2 (by omega)
    have h3 := Nat.div_add_mod n (rpV k)
    rw [h1, h2] at h3
    omega
theorem rom_pos {m : Nat} (h : 1 ≤ m) : 0 < (rom 0 m).length := by
  rcases Nat.eq_zero_or_pos (rom 0 m).length with e | e
  · have := rom_nil (by omega) (List.eq_nil_of_length_eq_zero e); omega
  · exact e

/-- The value that is read: f is fuel. -/
def frF : Nat → Nat → List UInt8 → Nat
  | 0, _, _ => 0
  | f + 1, k, s => if k < 13 then (if (rpT k).isPrefixOf s then rpV k + frF f k (s.drop (rpT k).length) else frF f (k + 1) s) else 0
def frv (s : List UInt8) : Nat := frF (14 + s.length) 0 s
theorem frF_take {f k : Nat} {s : List UInt8} (h : k < 13) (hp : (rpT k).isPrefixOf s = true) : frF (f + 1) k s = rpV k + frF f k (s.drop (rpT k).length) := by
  rw [frF, if_pos h, if_pos hp]
theorem frF_skip {f k : Nat} {s : List UInt8} (h : k < 13) (hp : (rpT k).isPrefixOf s = false) : frF (f + 1) k s = frF f (k + 1) s := by
  rw [frF, if_pos h, if_neg (by simp [hp])]
theorem frF_end (f : Nat) (s : List UInt8) : frF f 13 s = 0 := by cases f <;> simp [frF]
/-- What FromRoman answers. -/
def okR (s : List UInt8) : Bool := decide (1 ≤ frv s ∧ frv s ≤ 3999) && (rom 0 (frv s) == s)
def fr (s : List UInt8) : Int × Bool := if okR s then ((frv s : Int), true) else (0, false)
def romN (n : Int) : List UInt8 := if 1 ≤ n ∧ n ≤ 3999 then rom 0 n.toNat else []
theorem fr_nil : fr [] = (0, false) := rfl

/-- n in letters. -/
def alpF : Nat → Nat → List UInt8
  | 0, _ => []
  | f + 1, n => if n = 0 then [] else alpF f ((n - 1) / 26) ++ [UInt8.ofNat (97 + (n - 1) % 26)]
theorem alpF_same (f g n : Nat) (hf : n ≤ f) (hg : n ≤ g) : alpF f n = alpF g n := by
  induction f generalizing g n with
  | zero => obtain rfl : n = 0 := by omega
            cases g <;> simp [alpF]
  | succ f ih =>
    cases g with
    | zero => obtain rfl : n = 0 := by omega
              simp [alpF]
    | succ g =>
      rw [alpF, alpF]
      split
      · rfl
      · rw [ih g ((n - 1) / 26) (by omega) (by omega)]
def alp (n : Nat) : List UInt8 := alpF n n
theorem alp_zero : alp 0 = [] := rfl
theorem alp_step {n : Nat} (h : 0 < n) : alp n = alp ((n - 1) / 26) ++ [UInt8.ofNat (97 + (n - 1) % 26)] := by
  unfold alp
  obtain ⟨m, rfl⟩ : ∃ m, n = m + 1 := ⟨n - 1, by omega⟩
  rw [alpF, if_neg (by omega), alpF_same m ((m + 1 - 1) / 26) ((m + 1 - 1) / 26) (by omega) (Nat.le_refl _)]
theorem alp_succ (q d : Nat) (hd : d < 26) : alp (26 * q + d + 1) = alp q ++ [UInt8.ofNat (97 + d)] := by
  rw [alp_step (by omega), show (26 * q + d + 1 - 1) / 26 = q from by omega, show (26 * q + d + 1 - 1) % 26 = d from by omega]
def alpN (n : Int) : List UInt8 := if 1 ≤ n ∧ n ≤ 3999 then alp n.toNat else []
/-- A list of letters; the number that is read. -/
def Let (l : List UInt8) : Prop := ∀ c ∈ l, 97 ≤ c.toNat ∧ c.toNat ≤ 122
def favS (n : Int) (c : UInt8) : Int := 26 * n + c.toNat - 97 + 1
def fav (l : List UInt8) : Int := l.foldl favS 0
theorem fav_snoc (l : List UInt8) (c : UInt8) : fav (l ++ [c]) = favS (fav l) c := by simp [fav]
theorem alp_let (n : Nat) : Let (alp n) := by
  induction n using Nat.strongRecOn with
  | ind n ih =>
    rcases Nat.eq_zero_or_pos n with rfl | h
    · intro c hc; cases hc
    · rw [alp_step h]
      intro c hc
      rcases List.mem_append.1 hc with hc | hc
      · exact ih _ (by omega) c hc
      · simp at hc
        subst hc
        have : (97 + (n - 1) % 26) % 256 = 97 + (n - 1) % 26 := Nat.mod_eq_of_lt (by omega)
        simp [UInt8.toNat_ofNat, this]
        omega
theorem fav_alp (n : Nat) : fav (alp n) = n := by
  induction n using Nat.strongRecOn with
  | ind n ih =>
    rcases Nat.eq_zero_or_pos n with rfl | h
    · rfl
    · rw [alp_step h, fav_snoc, ih _ (by omega), favS]
      have : (97 + (n - 1) % 26) % 256 = 97 + (n - 1) % 26 := Nat.mod_eq_of_lt (by omega)
      rw [UInt8.toNat_ofNat', this]
      omega
theorem fav_go (l : List UInt8) (h : Let l) (n : Nat) : ∃ m : Nat, l.foldl favS (n : Int) = m ∧ alp m = alp n ++ l ∧ n + l.length ≤ m := by
  induction l generalizing n with
  | nil => exact ⟨n, rfl, by simp, by simp⟩
  | cons c t ih =>
    have hc := h c (List.mem_cons_self ..)
    obtain ⟨d, hd⟩ : ∃ d, d = c.toNat - 97 := ⟨_, rfl⟩
    have e1 : favS (n : Int) c = ((26 * n + d + 1 : Nat) : Int) := by unfold favS; omega
    obtain ⟨m, h1, h2, h3⟩ := ih (fun x hx => h x (List.mem_cons_of_mem _ hx)) (26 * n + d + 1)
    refine ⟨m, by rw [List.foldl_cons, e1]; exact h1, ?_, by simp only [List.length_cons]; omega⟩
    rw [h2, alp_succ n d (by omega), List.append_assoc]
    have : UInt8.ofNat (97 + d) = c := by rw [show 97 + d = c.toNat from by omega]; simp
    rw [this]; rfl
theorem fav_let {l : List UInt8} (h : Let l) : ∃ m : Nat, fav l = m ∧ alp m = l ∧ l.length ≤ m := by
  obtain ⟨m, h1, h2, h3⟩ := fav_go l h 0
  exact ⟨m, h1, by simpa [alp_zero] using h2, by omega⟩
theorem fav_mono {l t : List UInt8} (h : Let (l ++ t)) : fav l ≤ fav (l ++ t) := by
  obtain ⟨m, h1, _⟩ := fav_let (l := l) (fun c hc => h c (List.mem_append_left _ hc))
  obtain ⟨q, k1, _, k3⟩ := fav_go t (fun c hc => h c (List.mem_append_right _ hc)) m
  have : fav (l ++ t) = t.foldl favS (fav l) := by simp [fav]
  rw [this, h1, k1]
  omega
theorem fav_long {l : List UInt8} (h : Let l) (hl : 4 ≤ l.length) : 18279 ≤ fav l := by
  match l, h, hl with
  | a :: b :: c :: d :: t, h, _ =>
    have e : a :: b :: c :: d :: t = [a, b, c, d] ++ t := rfl
    have := fav_mono (l := [a, b, c, d]) (t := t) (by rw [← e]; exact h)
    rw [e]
    have ha := h a (by simp)
    have hb := h b (by simp)
    have hc := h c (by simp)
    have hd := h d (by simp)
    have : fav [a, b, c, d] = 26 * (26 * (26 * (26 * 0 + a.toNat - 97 + 1) + b.toNat - 97 + 1) + c.toNat - 97 + 1) + d.toNat - 97 + 1 := rfl
    omega
/-- What FromAlphabetic answers. -/
def okA (s : List UInt8) : Bool := decide (s.length ≤ 3) && (decide (1 ≤ fav s ∧ fav s ≤ 3999) && (alp (fav s).toNat == s))
def fa (s : List UInt8) : Int × Bool := if okA s then (fav s, true) else (0, false)
theorem okA_iff {s : List UInt8} : okA s = true ↔ s.length ≤ 3 ∧ (1 ≤ fav s ∧ fav s ≤ 3999) ∧ alp (fav s).toNat = s := by
  simp [okA]
theorem fa_bad {s : List UInt8} {c : UInt8} (hc : c ∈ s) (h : ¬ (97 ≤ c.toNat ∧ c.toNat ≤ 122)) : fa s = (0, false) := by
  unfold fa
  rw [if_neg]
  intro k
  have := (okA_iff.1 k).2.2
  exact h (alp_let _ c (by rw [this]; exact hc))
theorem fa_over {l t : List UInt8} (h : 3999 < fav l) : fa (l ++ t) = (0, false) := by
  unfold fa
  rw [if_neg]
  intro k
  obtain ⟨_, ⟨_, k2⟩, k3⟩ := okA_iff.1 k
  have := fav_mono (l := l) (t := t) (by rw [← k3]; exact alp_let _)
  omega
theorem fa_good {s : List UInt8} (h : Let s) (h1 : fav s ≤ 3999) : fa s = (fav s, decide (0 < fav s)) := by
  obtain ⟨m, e, k, hl⟩ := fav_let h
  have h4 : s.length ≤ 3 := by
    rcases Nat.lt_or_ge 3 s.length with q | q
    · have := fav_long h q; omega
    · exact q
  unfold fa
  by_cases hm : 0 < fav s
  · rw [if_pos (okA_iff.2 ⟨h4, by omega, by rw [e]; exact k⟩)]
    simp [hm]
  · rw [if_neg (fun q => by have := (okA_iff.1 q).2.1; omega)]
    have : fav s = 0 := by omega
    simp [this]
theorem alp_len {n : Nat} (h : n ≤ 3999) : (alp n).length ≤ 3 := by
  rcases Nat.lt_or_ge 3 (alp n).length with q | q
  · have := fav_long (alp_let n) q
    rw [fav_alp] at this
    omega
  · exact q
theorem fa_alp {n : Nat} (h0 : 1 ≤ n) (h : n ≤ 3999) : fa (alp n) = ((n : Int), true) := by
  have := fa_good (alp_let n) (by rw [fav_alp]; omega)
  rw [this, fav_alp]
  simp; omega
end Go.Proofs.YtonkbakoifdmiaaDoor
