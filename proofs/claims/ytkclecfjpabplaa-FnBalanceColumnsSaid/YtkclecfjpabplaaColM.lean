/- Columns that are filled one after the other: how many, where they end, and the least height. It speaks of no program. -/
import Derived.Test.YtkclecfjpabplaaFil
namespace Go.Proofs.Ytkclecfjpabplaa
open Go.ChangeShapes Go.WideShapes Go.ChangeAt Go.RowKit
set_option linter.unusedVariables false

/-- Columns. -/
def fc (l : List Int) (h : Int) (p t : Nat) : Bool := decide (sm l p t ≤ h)
/-- How many columns more, the rest of the last one being r. -/
def sc (h : Int) : List Int → Int → Nat
  | [], _ => 0
  | x :: xs, r => if r < x then sc h xs (h - x) + 1 else sc h xs (r - x)
/-- Where they begin. -/
def se (h : Int) : Nat → List Int → Int → List Int
  | _, [], _ => []
  | p, x :: xs, r => if r < x then (p : Int) :: se h (p + 1) xs (h - x) else se h (p + 1) xs (r - x)
theorem se_len (h : Int) (p : Nat) (l : List Int) (r : Int) : (se h p l r).length = sc h l r := by
  induction l generalizing p r with
  | nil => rfl
  | cons x l ih => unfold se sc; split <;> simp [ih]
theorem sc_le (h : Int) (l : List Int) (r : Int) : sc h l r ≤ l.length := by
  induction l generalizing r with
  | nil => simp [sc]
  | cons x l ih =>
    unfold sc
    have h1 := ih (h - x)
    have h2 := ih (r - x)
    split <;> simp <;> omega
/-- Higher columns: no more of them. -/
theorem sc_mono {g h : Int} (hgh : g ≤ h) {l : List Int} : ∀ {c d : Nat} {r q : Int}, (c < d ∨ c = d ∧ q ≤ r) → q ≤ g → (∀ x ∈ l, 0 ≤ x) → sc h l r + c ≤ sc g l q + d := by
  induction l with
  | nil => intro c d r q h1 _ _; simp [sc]; omega
  | cons x l ih =>
    intro c d r q h1 h2 h3
    have x0 := h3 x (List.mem_cons_self ..)
    have h4 : ∀ y ∈ l, 0 ≤ y := fun y hy => h3 y (List.mem_cons_of_mem _ hy)
    unfold sc
    split <;> split
    · have := ih (c := c + 1) (d := d + 1) (r := h - x) (q := g - x) (by omega) (by omega) h4; omega
    · have := ih (c := c + 1) (d := d) (r := h - x) (q := q - x) (by omega) (by omega) h4; omega
    · have := ih (c := c) (d := d + 1) (r := r - x) (q := g - x) (by omega) (by omega) h4; omega
    · have := ih (c := c) (d := d) (r := r - x) (q := q - x) (by omega) (by omega) h4; omega
/-- The columns hold everything. -/
theorem sc_sum {h : Int} (l : List Int) : ∀ r : Int, (∀ x ∈ l, x ≤ h) → 0 ≤ r → sl l ≤ (sc h l r : Int) * h + r := by
  induction l with
  | nil => intro r _ hr; simp [sl, sc]; exact hr
  | cons x l ih =>
    intro r h1 hr
    have x0 := h1 x (List.mem_cons_self ..)
    have h2 : ∀ y ∈ l, y ≤ h := fun y hy => h1 y (List.mem_cons_of_mem _ hy)
    unfold sc
    show x + sl l ≤ _
    split
    · have := ih (h - x) h2 (by omega)
      rw [Int.natCast_add, Int.add_mul]
      simp
      omega
    · have := ih (r - x) h2 (by omega)
      omega
/-- If all fits, there is no further column. -/
theorem sc_none {h : Int} (l : List Int) : ∀ r : Int, (∀ x ∈ l, 0 ≤ x) → sl l ≤ r → sc h l r = 0 := by
  induction l with
  | nil => intro r _ _; rfl
  | cons x l ih =>
    intro r h1 hr
    have x0 := h1 x (List.mem_cons_self ..)
    have h2 : ∀ y ∈ l, 0 ≤ y := fun y hy => h1 y (List.mem_cons_of_mem _ hy)
    have hs : 0 ≤ sl l := by
      clear ih hr h1
      induction l with
      | nil => simp [sl]
      | cons y l ih =>
        have := h2 y (List.mem_cons_self ..)
        have := ih (fun z hz => h2 z (List.mem_cons_of_mem _ hz))
        show 0 ≤ y + sl l
        omega
    have hr' : x + sl l ≤ r := hr
    unfold sc
    rw [if_neg (by omega)]
    exact ih _ h2 (by omega)
/-- A scan inside a column that reaches q. -/
theorem sc_adv {l : List Int} {h : Int} {s : Nat} : ∀ k t, t + k = l.length → s ≤ t →
    sc h (l.drop t) (h - sm l s t) = sc h (l.drop (adv (fc l h) s k t)) (h - sm l s (adv (fc l h) s k t)) ∧ se h t (l.drop t) (h - sm l s t) = se h (adv (fc l h) s k t) (l.drop (adv (fc l h) s k t)) (h - sm l s (adv (fc l h) s k t)) ∧ (adv (fc l h) s k t < l.length → h - sm l s (adv (fc l h) s k t) < ng l (adv (fc l h) s k t)) := fun k => by
  induction k with
  | zero => intro t ht hs; exact ⟨rfl, rfl, fun h => by simp [adv] at h; omega⟩
  | succ k ih =>
    intro t ht hs
    have htl : t < l.length := by omega
    cases q : fc l h s (t + 1)
    · rw [adv_no q]
      refine ⟨rfl, rfl, fun _ => ?_⟩
      have := of_decide_eq_false q
      rw [sm_step hs htl] at this
      omega
    · rw [adv_yes q]
      obtain ⟨i1, i2, i3⟩ := ih (t + 1) (by omega) (by omega)
      have := of_decide_eq_true q
      rw [sm_step hs htl] at this
      have e : h - sm l s (t + 1) = h - sm l s t - ng l t := by rw [sm_step hs htl]; omega
      rw [← i1, ← i2, e]
      refine ⟨?_, ?_, i3⟩
      · rw [drop_ng htl]
        show (if _ then _ else _) = _
        rw [if_neg (by omega)]
      · rw [drop_ng htl]
        show (if _ then _ else _) = _
        rw [if_neg (by omega)]
theorem fil_cols {l : List Int} {h : Int} (hall : ∀ j, j < l.length → ng l j ≤ h) : ∀ k p, l.length - p ≤ k → p < l.length → ∀ r : Int, r < ng l p →
    ∃ L, fil (fc l h) l.length k p = some (L ++ [(l.length : Int)]) ∧ (p : Int) :: L = se h p (l.drop p) r := fun k => by
  induction k with
  | zero => intro p h1 h2; omega
  | succ k ih =>
    intro p hk hp r hr
    have hx := hall p hp
    have f1 : fc l h p (p + 1) = true := decide_eq_true (by rw [sm_step (Nat.le_refl p) hp, sm_same]; omega)
    obtain ⟨m, hm⟩ : ∃ m, l.length - p = m + 1 := ⟨l.length - p - 1, by omega⟩
    have ea : adv (fc l h) p (l.length - p) p = adv (fc l h) p m (p + 1) := by rw [hm, adv_yes f1]
    have hg := adv_ge (fc l h) p m (p + 1)
    obtain ⟨s1, s2, s3⟩ := sc_adv (l := l) (h := h) (s := p) m (p + 1) (by omega) (by omega)
    obtain ⟨q, hq⟩ : ∃ q, q = adv (fc l h) p m (p + 1) := ⟨_, rfl⟩
    rw [← hq] at ea hg s1 s2 s3
    have e1 : h - sm l p (p + 1) = h - ng l p := by rw [sm_step (Nat.le_refl p) hp, sm_same]; omega
    have e2 : se h p (l.drop p) r = (p : Int) :: se h (p + 1) (l.drop (p + 1)) (h - ng l p) := by
      rw [drop_ng hp]; show (if _ then _ else _) = _; rw [if_pos hr]
    rw [e1] at s2
    rw [fil_go hp hk ea (by omega), e2, s2]
    by_cases hqn : q < l.length
    · obtain ⟨L, h1, h2⟩ := ih q (by omega) hqn _ (s3 hqn)
      exact ⟨(q : Int) :: L, by rw [h1]; rfl, by rw [h2]⟩
    · have : q = l.length := by omega
      subst this
      rw [fil_end (Nat.le_refl _), List.drop_length]
      exact ⟨[], rfl, rfl⟩
theorem fil_bad {l : List Int} {h : Int} (hpos : ∀ j, j < l.length → 0 ≤ ng l j) {j : Nat} (hj : j < l.length) (hb : h < ng l j) : ∀ k p, l.length - p ≤ k → p ≤ j → fil (fc l h) l.length k p = none := fun k => by
  induction k with
  | zero => intro p h1 h2; omega
  | succ k ih =>
    intro p hk hp
    have hsm : ∀ t, p ≤ t → t ≤ l.length → 0 ≤ sm l p t := fun t => by
      induction t with
      | zero => intro h1 _; obtain rfl : p = 0 := by omega
                rw [sm_same]; omega
      | succ t iht =>
        intro h1 h2
        rcases (by omega : p = t + 1 ∨ p ≤ t) with e | e
        · rw [e, sm_same]; omega
        · rw [sm_step e (by omega)]
          have := iht e (by omega)
          have := hpos t (by omega)
          omega
    have key : ∀ m t, p ≤ t → t ≤ j → t + m = l.length → adv (fc l h) p m t ≤ j := fun m => by
      induction m with
      | zero => intro t _ _ h3; omega
      | succ m ihm =>
        intro t h1 h2 h3
        cases q : fc l h p (t + 1)
        · rw [adv_no q]; exact h2
        · rw [adv_yes q]
          rcases (by omega : t = j ∨ t < j) with e | e
          · exfalso
            have := of_decide_eq_true q
            rw [sm_step h1 (by omega), e] at this
            have := hsm j hp (by omega)
            omega
          · exact ihm (t + 1) (by omega) (by omega) (by omega)
    have h1 := key (l.length - p) p (Nat.le_refl _) hp (by omega)
    have h2 := adv_ge (fc l h) p (l.length - p) p
    by_cases e : adv (fc l h) p (l.length - p) p = p
    · exact fil_no (by omega) hk e
    · rw [fil_go (by omega) hk rfl e, ih _ (by omega) h1]; rfl
/-- All lines fit into a height. -/
def allLe (l : List Int) (h : Int) : Prop := ∀ j, j < l.length → ng l j ≤ h
theorem allLe_mem {l : List Int} {h : Int} : allLe l h ↔ ∀ x ∈ l, x ≤ h := by
  constructor
  · intro a x hx
    obtain ⟨j, hj, e⟩ := List.getElem_of_mem hx
    have := a j hj
    rwa [ng_lt hj, e] at this
  · intro a j hj
    rw [ng_lt hj]
    exact a _ (List.getElem_mem hj)
def allPos (l : List Int) : Prop := ∀ j, j < l.length → 1 ≤ ng l j
theorem allPos_mem {l : List Int} : allPos l ↔ ∀ x ∈ l, 1 ≤ x := by
  constructor
  · intro a x hx
    obtain ⟨j, hj, e⟩ := List.getElem_of_mem hx
    have := a j hj
    rwa [ng_lt hj, e] at this
  · intro a j hj
    rw [ng_lt hj]
    exact a _ (List.getElem_mem hj)
theorem sl_pos {l : List Int} (h : ∀ x ∈ l, 1 ≤ x) : (l.length : Int) ≤ sl l := by
  induction l with
  | nil => simp [sl]
  | cons x l ih =>
    have := h x (List.mem_cons_self ..)
    have := ih (fun y hy => h y (List.mem_cons_of_mem _ hy))
    show ((l.length + 1 : Nat) : Int) ≤ x + sl l
    omega
theorem sl_ge {l : List Int} (h : ∀ x ∈ l, 1 ≤ x) : ∀ x ∈ l, x ≤ sl l := by
  induction l with
  | nil => intro x hx; cases hx
  | cons y l ih =>
    intro x hx
    have h0 := h y (List.mem_cons_self ..)
    have h1 : ∀ z ∈ l, 1 ≤ z := fun z hz => h z (List.mem_cons_of_mem _ hz)
    have h2 := sl_pos h1
    show x ≤ y + sl l
    rcases List.mem_cons.1 hx with rfl | hx
    · omega
    · have := ih h1 x hx
      omega
/-- What is filled. -/
theorem fil_all {l : List Int} {h : Int} (hp : allPos l) (ha : allLe l h) (h0 : 0 ≤ h) : fil (fc l h) l.length l.length 0 = some (se h 0 l h ++ (if l.length = 0 then [] else [(l.length : Int)])) ∧ sc h l 0 = (se h 0 l h).length + (if l.length = 0 then 0 else 1) := by
  rcases Nat.eq_zero_or_pos l.length with e | e
  · have := List.eq_nil_of_length_eq_zero e
    subst this
    exact ⟨rfl, rfl⟩
  · obtain ⟨L, h1, h2⟩ := fil_cols ha l.length 0 (by omega) e 0 (by have := hp 0 e; omega)
    rw [if_neg (by omega), if_neg (by omega)]
    have h3 : sc h l 0 = (se h 0 l 0).length := (se_len h 0 l 0).symm
    cases l with
    | nil => simp at e
    | cons x l =>
      have x0 := hp 0 e
      have x1 := ha 0 e
      have y0 : 1 ≤ x := x0
      have y1 : x ≤ h := x1
      have e1 : se h 0 (x :: l) 0 = ((0 : Nat) : Int) :: se h 1 l (h - x) := by show (if _ then _ else _) = _; rw [if_pos (by omega)]
      have e2 : se h 0 (x :: l) h = se h 1 l (h - x) := by show (if _ then _ else _) = _; rw [if_neg (by omega)]
      rw [List.drop_zero, e1] at h2
      injection h2 with _ h2
      subst h2
      rw [e2, h3, e1]
      exact ⟨h1, rfl⟩
theorem fil_not {l : List Int} {h : Int} (hp : allPos l) (ha : ¬ allLe l h) : fil (fc l h) l.length l.length 0 = none := by
  have : ∃ j, j < l.length ∧ h < ng l j := by
    false_or_by_contra
    rename_i hn
    exact ha (fun j hj => by
      false_or_by_contra
      exact hn ⟨j, hj, by omega⟩)
  obtain ⟨j, hj, hb⟩ := this
  exact fil_bad (fun i hi => by have := hp i hi; omega) hj hb _ 0 (by omega) (Nat.zero_le _)
open Classical
/-- What ColumnsNeeded counts. -/
noncomputable def cnv (l : List Int) (h : Int) : Int := if allLe l h then (sc h l 0 : Int) else -1
theorem cnv_yes {l : List Int} {h : Int} (ha : allLe l h) : cnv l h = sc h l 0 := if_pos ha
theorem cnv_no {l : List Int} {h : Int} (ha : ¬ allLe l h) : cnv l h = -1 := if_neg ha
theorem cnv_mono {l : List Int} {g h : Int} (hp : allPos l) (h0 : 0 ≤ g) (hgh : g ≤ h) (ha : allLe l g) : allLe l h ∧ cnv l h ≤ cnv l g := by
  have hb : allLe l h := fun j hj => by have := ha j hj; omega
  refine ⟨hb, ?_⟩
  rw [cnv_yes ha, cnv_yes hb]
  have := sc_mono hgh (l := l) (c := 0) (d := 0) (r := 0) (q := 0) (.inr ⟨rfl, Int.le_refl _⟩) h0 (fun x hx => by have := allPos_mem.1 hp x hx; omega)
  omega
theorem cnv_sum {l : List Int} (hp : allPos l) : allLe l (sl l) ∧ cnv l (sl l) ≤ 1 := by
  have hp' := allPos_mem.1 hp
  have ha : allLe l (sl l) := allLe_mem.2 (sl_ge hp')
  refine ⟨ha, ?_⟩
  rw [cnv_yes ha]
  cases l with
  | nil => simp [sc]
  | cons x l =>
    have h0 := hp' x (List.mem_cons_self ..)
    have h1 : ∀ z ∈ l, 1 ≤ z := fun z hz => hp' z (List.mem_cons_of_mem _ hz)
    show (((if (0 : Int) < x then sc _ l _ + 1 else sc _ l _) : Nat) : Int) ≤ 1
    rw [if_pos (by omega), sc_none l _ (fun y hy => by have := h1 y hy; omega) (by show sl l ≤ x + sl l - x; omega)]
    simp
/-- A height with which columns suffice. -/
def gd (l : List Int) (c : Int) (h : Nat) : Prop := allLe l h ∧ cnv l h ≤ c
theorem gd_mono {l : List Int} {c : Int} {g h : Nat} (hp : allPos l) (hgh : g ≤ h) (ha : gd l c g) : gd l c h := by
  obtain ⟨h1, h2⟩ := cnv_mono hp (by omega : (0 : Int) ≤ g) (by omega : (g : Int) ≤ h) ha.1
  exact ⟨h1, by have := ha.2; omega⟩
theorem gd_sum {l : List Int} {c : Int} (hp : allPos l) (hc : 1 ≤ c) {n : Nat} (hn : (n : Int) = sl l) : gd l c n := by
  obtain ⟨h1, h2⟩ := cnv_sum hp
  rw [← hn] at h1 h2
  exact ⟨h1, by omega⟩
def isBh (l : List Int) (c : Int) (b : Nat) : Prop := gd l c b ∧ ∀ k, k < b → ¬ gd l c k
theorem isBh_one {l : List Int} {c : Int} {a b : Nat} (ha : isBh l c a) (hb : isBh l c b) : a = b := by
  rcases (by omega : a < b ∨ a = b ∨ b < a) with h | h | h
  · exact absurd ha.1 (hb.2 a h)
  · exact h
  · exact absurd hb.1 (ha.2 b h)
theorem isBh_ex {l : List Int} {c : Int} : ∀ n : Nat, gd l c n → ∃ b, isBh l c b ∧ b ≤ n := fun n => by
  induction n using Nat.strongRecOn with
  | ind n ih =>
    intro h
    by_cases hx : ∃ k, k < n ∧ gd l c k
    · obtain ⟨k, hk, hg⟩ := hx
      obtain ⟨b, h1, h2⟩ := ih k hk hg
      exact ⟨b, h1, by omega⟩
    · exact ⟨n, ⟨h, fun k hk hg => hx ⟨k, hk, hg⟩⟩, Nat.le_refl _⟩
/-- The least height. -/
noncomputable def bh (l : List Int) (c : Int) : Nat := if h : ∃ b, isBh l c b then h.choose else 0
theorem bh_eq {l : List Int} {c : Int} {b : Nat} (h : isBh l c b) : bh l c = b := by
  have hx : ∃ b, isBh l c b := ⟨b, h⟩
  unfold bh
  rw [dif_pos hx]
  exact isBh_one hx.choose_spec h
theorem bh_is {l : List Int} {c : Int} (hp : allPos l) (hc : 1 ≤ c) : isBh l c (bh l c) ∧ (bh l c : Int) ≤ sl l := by
  have h0 := sl_pos (allPos_mem.1 hp)
  obtain ⟨n, hn⟩ := Int.eq_ofNat_of_zero_le (show 0 ≤ sl l by omega)
  obtain ⟨b, h1, h2⟩ := isBh_ex n (gd_sum hp hc hn.symm)
  rw [bh_eq h1]
  exact ⟨h1, by omega⟩
theorem bh_more {l : List Int} {c d : Int} (hp : allPos l) (hc : 1 ≤ c) (hcd : c ≤ d) : bh l d ≤ bh l c := by
  have h1 := (bh_is hp hc).1
  have h2 := (bh_is hp (show 1 ≤ d by omega)).1
  false_or_by_contra
  exact h2.2 (bh l c) (by omega) ⟨h1.1.1, by have := h1.1.2; omega⟩
theorem cnv_le {l : List Int} {h : Int} (ha : allLe l h) : 0 ≤ cnv l h ∧ cnv l h ≤ l.length := by
  rw [cnv_yes ha]
  have := sc_le h l 0
  omega
theorem cnv_zero {l : List Int} {h : Int} (hp : allPos l) (ha : allLe l h) : cnv l h = 0 ↔ l.length = 0 := by
  rw [cnv_yes ha]
  cases l with
  | nil => simp [sc]
  | cons x l =>
    have : 1 ≤ x := hp 0 (by simp)
    have e : sc h (x :: l) 0 = sc h l (h - x) + 1 := by show (if _ then _ else _) = _; rw [if_pos (by omega)]
    rw [e]
    simp
    omega
/-- Nothing is lost in the columns. -/
theorem cnv_area {l : List Int} {h : Int} (ha : allLe l h) : sl l ≤ cnv l h * h := by
  have := sc_sum l 0 (allLe_mem.1 ha) (Int.le_refl _)
  rw [cnv_yes ha]
  omega
theorem bh_one {l : List Int} (hp : allPos l) : (bh l 1 : Int) = sl l := by
  obtain ⟨⟨⟨h1, h2⟩, h3⟩, h4⟩ := bh_is hp (Int.le_refl 1)
  have h5 := cnv_area h1
  have h6 := (cnv_le h1).1
  rcases (by omega : cnv l (bh l 1) = 0 ∨ cnv l (bh l 1) = 1) with e | e
  · rw [e] at h5
    have h7 := sl_pos (allPos_mem.1 hp)
    have h8 := (cnv_zero hp h1).1 e
    omega
  · rw [e] at h5
    omega
end Go.Proofs.Ytkclecfjpabplaa
