/- Figures on pages: where they are placed, and which pages are accepted. It speaks of no program. -/
import Derived.Test.YtkclecfjpabplaaFig
import Derived.Test.YtkclecfjpabplaaFil
namespace Go.Proofs.Ytkclecfjpabplaa
open Go.ChangeShapes Go.WideShapes Go.ChangeAt Go.RowKit
set_option linter.unusedVariables false

/-- The first page that has room, and the room behind. -/
def fp (h : Int) : Nat → List Int → Option (Nat × List Int)
  | _, [] => none
  | q, r :: s => if h ≤ r then some (q, (r - h) :: s) else fp h (q + 1) s
/-- Figures placed from page q on, where s is the room of page q and all behind it. -/
def pl : List Du → Nat → List Int → Option (List Int)
  | [], _, _ => some []
  | f :: F, q, s => match fp f.a (max q f.b.toNat) (s.drop (f.b.toNat - q)) with
    | none => none
    | some (p, t) => (pl F p t).map ((p : Int) :: ·)
theorem fp_nil (h : Int) (q : Nat) : fp h q [] = none := rfl
theorem fp_yes {h r : Int} (q : Nat) (s : List Int) (k : h ≤ r) : fp h q (r :: s) = some (q, (r - h) :: s) := if_pos k
theorem fp_next {h r : Int} (q : Nat) (s : List Int) (k : r < h) : fp h q (r :: s) = fp h (q + 1) s := if_neg (by omega)
theorem pl_cons (f : Du) (F : List Du) (q : Nat) (s : List Int) : pl (f :: F) q s = match fp f.a (max q f.b.toNat) (s.drop (f.b.toNat - q)) with
    | none => none
    | some (p, t) => (pl F p t).map ((p : Int) :: ·) := rfl
theorem pl_here {f : Du} (F : List Du) {q : Nat} {r : Int} (s : List Int) (h1 : f.b ≤ q) (h2 : f.a ≤ r) : pl (f :: F) q (r :: s) = (pl F q ((r - f.a) :: s)).map ((q : Int) :: ·) := by
  have e1 : max q f.b.toNat = q := by omega
  have e2 : f.b.toNat - q = 0 := by omega
  rw [pl_cons, e1, e2, List.drop_zero, fp_yes _ _ h2]
theorem pl_move {f : Du} (F : List Du) {q : Nat} {r : Int} (s : List Int) (h : (q : Int) < f.b ∨ r < f.a) : pl (f :: F) q (r :: s) = pl (f :: F) (q + 1) s := by
  rw [pl_cons, pl_cons]
  rcases (by omega : (q : Int) < f.b ∨ f.b ≤ q) with h1 | h1
  · obtain ⟨m, hm⟩ : ∃ m, f.b.toNat - q = m + 1 := ⟨f.b.toNat - q - 1, by omega⟩
    have e1 : max q f.b.toNat = max (q + 1) f.b.toNat := by omega
    have e2 : f.b.toNat - (q + 1) = m := by omega
    rw [e1, hm, e2, List.drop_succ_cons]
  · have e1 : max q f.b.toNat = q := by omega
    have e2 : f.b.toNat - q = 0 := by omega
    have e3 : max (q + 1) f.b.toNat = q + 1 := by omega
    have e4 : f.b.toNat - (q + 1) = 0 := by omega
    rw [e1, e2, e3, e4, List.drop_zero, List.drop_zero, fp_next _ _ (by omega)]
theorem pl_out (f : Du) (F : List Du) (q : Nat) : pl (f :: F) q [] = none := by rw [pl_cons]; simp [fp]
/-- The model's form: the room is a list of all pages. -/
theorem pl_at {f : Du} (F : List Du) {q : Nat} (s : List Int) (P : Nat) (hP : P = max q f.b.toNat) : pl (f :: F) q (s.drop q) = match fp f.a P (s.drop P) with
    | none => none
    | some (p, t) => (pl F p t).map ((p : Int) :: ·) := by
  rw [pl_cons, List.drop_drop, ← hP, show q + (f.b.toNat - q) = P from by omega]
theorem pl_len {F : List Du} : ∀ {q : Nat} {s l : List Int}, pl F q s = some l → l.length = F.length := by
  induction F with
  | nil => intro q s l h; injection h with h; subst h; rfl
  | cons f F ih =>
    intro q s l h
    rw [pl_cons] at h
    split at h
    · cases h
    · rename_i p t e
      cases h2 : pl F p t with
      | none => rw [h2] at h; cases h
      | some m => rw [h2] at h; injection h with h; subst h; simp [ih h2]

/-- The room that k figures take on page j. -/
def us (F : List Du) (l : List Int) (j : Int) : Nat → Int
  | 0 => 0
  | k + 1 => us F l j k + (if ng l k = j then (tg F k).a else 0)
/-- The page before the k-th. -/
def pb (l : List Int) : Nat → Int
  | 0 => 0
  | k + 1 => ng l k
def ckk (F : List Du) (sp l : List Int) (k : Nat) : Prop := (max (pb l k) (tg F k).b ≤ ng l k ∧ ng l k ≤ (sp.length : Int) - 1) ∧ us F l (ng l k) (k + 1) ≤ ng sp (ng l k).toNat
def CTo (F : List Du) (sp l : List Int) (k : Nat) : Prop := ∀ i, i < k → ckk F sp l i
theorem CTo.zero (F : List Du) (sp l : List Int) : CTo F sp l 0 := fun i h => by omega
theorem CTo.step {F : List Du} {sp l : List Int} {k : Nat} (h : CTo F sp l k) (hk : ckk F sp l k) : CTo F sp l (k + 1) := fun i hi => by
  rcases (by omega : i < k ∨ i = k) with e | e
  · exact h i e
  · rw [e]; exact hk
theorem us_other {F : List Du} {l : List Int} {j : Int} {k : Nat} (h : ng l k ≠ j) : us F l j (k + 1) = us F l j k := by
  show us F l j k + (if _ then _ else _) = _
  rw [if_neg h]; omega
theorem us_same {F : List Du} {l : List Int} {k : Nat} : us F l (ng l k) (k + 1) = us F l (ng l k) k + (tg F k).a := by
  show us F l _ k + (if _ then _ else _) = _
  rw [if_pos rfl]
/-- Pages behind the last one are still empty. -/
theorem us_none {F : List Du} {l : List Int} {j : Int} {k : Nat} (h : ∀ i, i < k → ng l i ≠ j) : us F l j k = 0 := by
  induction k with
  | zero => rfl
  | succ k ih => rw [us_other (h k (by omega)), ih (fun i hi => h i (by omega))]
theorem us_bd {F : List Du} {l : List Int} {j : Int} {k : Nat} (h : ∀ i, i < k → 1 ≤ (tg F i).a ∧ (tg F i).a ≤ 1000) : 0 ≤ us F l j k ∧ us F l j k ≤ 1000 * (k : Int) := by
  induction k with
  | zero => simp [us]
  | succ k ih =>
    have h1 := ih (fun i hi => h i (by omega))
    have h2 := h k (by omega)
    show 0 ≤ us F l j k + (if _ then _ else _) ∧ us F l j k + (if _ then _ else _) ≤ _
    split <;> omega
theorem CTo.asc {F : List Du} {sp l : List Int} {k : Nat} (h : CTo F sp l k) : ∀ i j, i ≤ j → j < k → ng l i ≤ ng l j := fun i j => by
  induction j with
  | zero => intro h1 _; obtain rfl : i = 0 := by omega
            exact Int.le_refl _
  | succ j ih =>
    intro h1 h2
    rcases (by omega : i = j + 1 ∨ i ≤ j) with e | e
    · rw [e]; exact Int.le_refl _
    · have h3 := ih e (by omega)
      have h4 := (h (j + 1) h2).1.1
      have h5 : pb l (j + 1) = ng l j := rfl
      omega
/-- The sums of the pages and of Page. -/
def dl (F : List Du) (l : List Int) : Nat → Int
  | 0 => 0
  | k + 1 => dl F l k + (ng l k - (tg F k).b)
theorem dl_bd {F : List Du} {sp l : List Int} {k : Nat} (h : CTo F sp l k) (h2 : ∀ i, i < k → 0 ≤ (tg F i).b) : 0 ≤ dl F l k ∧ dl F l k ≤ (sp.length : Int) * k := by
  induction k with
  | zero => simp [dl]
  | succ k ih =>
    have h3 := ih (fun i hi => h i (by omega)) (fun i hi => h2 i (by omega))
    have h4 := (h k (by omega)).1
    have h5 := h2 k (by omega)
    show 0 ≤ dl F l k + _ ∧ dl F l k + _ ≤ _
    have e : (sp.length : Int) * ((k + 1 : Nat) : Int) = (sp.length : Int) * k + sp.length := by rw [Int.natCast_add, Int.mul_add]; simp
    rw [e]
    omega
/-- Room of which u is taken on its first page. -/
def red (u : Int) : List Int → List Int
  | [] => []
  | r :: s => (r - u) :: s
theorem red_zero (s : List Int) : red 0 s = s := by cases s <;> simp [red]
theorem red_len (u : Int) (s : List Int) : (red u s).length = s.length := by cases s <;> rfl
theorem red_head {u : Int} {s : List Int} (h : 0 < s.length) : ng (red u s) 0 = ng s 0 - u := by
  cases s with
  | nil => simp at h
  | cons r s => rfl
theorem red_tail {u : Int} {s : List Int} {i : Nat} : ng (red u s) (i + 1) = ng s (i + 1) := by cases s <;> rfl
theorem red_drop {u : Int} {s : List Int} {i : Nat} : (red u s).drop (i + 1) = s.drop (i + 1) := by cases s <;> rfl
theorem fp_some {h : Int} {s t : List Int} {p : Nat} : ∀ {q : Nat}, fp h q s = some (p, t) → ∃ i, p = q + i ∧ i < s.length ∧ h ≤ ng s i ∧ t = (ng s i - h) :: s.drop (i + 1) := by
  induction s with
  | nil => intro q e; cases e
  | cons r s ih =>
    intro q e
    rcases (by omega : h ≤ r ∨ r < h) with k | k
    · rw [fp_yes _ _ k] at e
      injection e with e
      injection e with e1 e2
      subst e1
      subst e2
      exact ⟨0, by omega, by simp, k, rfl⟩
    · rw [fp_next _ _ k] at e
      obtain ⟨i, h1, h2, h3, h4⟩ := ih e
      exact ⟨i + 1, by omega, by simp; omega, h3, h4⟩
/-- Where there is room, a page is found that is not behind. -/
theorem fp_find {h : Int} {s : List Int} : ∀ {q i : Nat}, i < s.length → h ≤ ng s i → ∃ j, j ≤ i ∧ h ≤ ng s j ∧ fp h q s = some (q + j, (ng s j - h) :: s.drop (j + 1)) := by
  induction s with
  | nil => intro q i hi; simp at hi
  | cons r s ih =>
    intro q i hi hh
    rcases (by omega : h ≤ r ∨ r < h) with k | k
    · exact ⟨0, by omega, k, by rw [fp_yes _ _ k]; rfl⟩
    · cases i with
      | zero => exact absurd hh (by show ¬ h ≤ r; omega)
      | succ i =>
        obtain ⟨j, h1, h2, h3⟩ := ih (q := q + 1) (i := i) (by simpa using hi) hh
        exact ⟨j + 1, by omega, h2, by rw [fp_next _ _ k, h3, show q + 1 + j = q + (j + 1) from by omega]; rfl⟩
theorem ng_drop {l : List Int} {q i : Nat} : ng (l.drop q) i = ng l (q + i) := by simp [ng, List.getD, List.getElem?_drop]
theorem drop_tgf {F : List Du} {k : Nat} (h : k < F.length) : F.drop k = tg F k :: F.drop (k + 1) := by
  rw [tg_lt h]; exact List.drop_eq_getElem_cons h
theorem us_app {F : List Du} {l m : List Int} {j : Int} {k : Nat} (h : k ≤ l.length) : us F (l ++ m) j k = us F l j k := by
  induction k with
  | zero => rfl
  | succ k ih =>
    show us F (l ++ m) j k + _ = us F l j k + _
    rw [ih (by omega)]
    have : ng (l ++ m) k = ng l k := by
      rw [ng_lt (by simp; omega), ng_lt (by omega), List.getElem_append_left (by omega)]
    rw [this]
theorem ng_left {l m : List Int} {k : Nat} (h : k < l.length) : ng (l ++ m) k = ng l k := by
  rw [ng_lt (by simp; omega), ng_lt h, List.getElem_append_left h]
theorem ng_end {l : List Int} {z : Int} : ng (l ++ [z]) l.length = z := by
  rw [ng_lt (by simp)]; simp
theorem CTo_app {F : List Du} {sp l m : List Int} {k : Nat} (hk : k ≤ l.length) (h : CTo F sp l k) : CTo F sp (l ++ m) k := fun i hi => by
  have h1 := h i hi
  unfold ckk at h1 ⊢
  rw [ng_left (by omega), us_app (by omega)]
  have : pb (l ++ m) i = pb l i := by
    cases i with
    | zero => rfl
    | succ i => exact ng_left (by omega)
  rw [this]
  exact h1
/-- The room list behind a start at page Q. -/
theorem red_at {sp : List Int} {q Q : Nat} {u : Int} (h : q ≤ Q) : (red u (sp.drop q)).drop (Q - q) = red (if Q = q then u else 0) (sp.drop Q) := by
  rcases (by omega : Q = q ∨ q < Q) with e | e
  · subst e; simp
  · rw [if_neg (by omega), red_zero]
    obtain ⟨m, hm⟩ : ∃ m, Q - q = m + 1 := ⟨Q - q - 1, by omega⟩
    rw [hm, red_drop, List.drop_drop, show q + (m + 1) = Q from by omega]
theorem red_ng {sp : List Int} {Q i : Nat} {u : Int} (h : Q + i < sp.length) : ng (red u (sp.drop Q)) i = ng sp (Q + i) - (if i = 0 then u else 0) := by
  cases i with
  | zero => rw [red_head (by simp; omega), ng_drop]; rfl
  | succ i => rw [red_tail, ng_drop, if_neg (by omega)]; omega
theorem red_next {sp : List Int} {Q i : Nat} {u h : Int} (hi : Q + i < sp.length) : (ng (red u (sp.drop Q)) i - h) :: (red u (sp.drop Q)).drop (i + 1) = red ((if i = 0 then u else 0) + h) (sp.drop (Q + i)) := by
  rw [red_ng hi, red_drop, List.drop_drop, drop_ng hi]
  show _ = (ng sp (Q + i) - _) :: _
  rw [show Q + (i + 1) = Q + i + 1 from by omega]
  congr 1
  omega
def Fok (F : List Du) : Prop := ∀ i, i < F.length → (1 ≤ (tg F i).a ∧ (tg F i).a ≤ 1000) ∧ 0 ≤ (tg F i).b
/-- Placed figures are accepted. -/
theorem pl_chk {F : List Du} {sp : List Int} (hF : Fok F) : ∀ n k, k + n = F.length → ∀ (l m : List Int) (q : Nat), l.length = k → CTo F sp l k → (∀ i, i < k → ng l i ≤ q) → pb l k ≤ q →
    pl (F.drop k) q (red (us F l q k) (sp.drop q)) = some m → CTo F sp (l ++ m) F.length := fun n => by
  induction n with
  | zero =>
    intro k hk l m q hl hc hi hp e
    rw [List.drop_eq_nil_of_le (by omega)] at e
    injection e with e
    subst e
    rw [List.append_nil, ← hk]
    exact hc
  | succ n ih =>
    intro k hk l m q hl hc hi hp e
    have hkf : k < F.length := by omega
    obtain ⟨f, hf⟩ : ∃ f, f = tg F k := ⟨_, rfl⟩
    have hok := hF k hkf
    rw [drop_tgf hkf, ← hf, pl_cons] at e
    rw [← hf] at hok
    obtain ⟨Q, hQ⟩ : ∃ Q, Q = max q f.b.toNat := ⟨_, rfl⟩
    rw [show f.b.toNat - q = Q - q from by omega, red_at (by omega), ← hQ] at e
    split at e
    · cases e
    rename_i p t e1
    obtain ⟨i, h1, h2, h3, h4⟩ := fp_some e1
    rw [red_len, List.length_drop] at h2
    rw [red_ng (by omega)] at h3
    rw [red_next (by omega)] at h4
    cases e2 : pl (F.drop (k + 1)) p t with
    | none => rw [e2] at e; cases e
    | some m' =>
      rw [e2] at e
      injection e with e
      have e3 : m = (p : Int) :: m' := e.symm
      subst e3
      have L1 : (l ++ [(p : Int)]).length = k + 1 := by simp [hl]
      have N1 : ng (l ++ [(p : Int)]) k = p := by rw [← hl]; exact ng_end
      have US : us F (l ++ [(p : Int)]) p (k + 1) = (if i = 0 then (if Q = q then us F l q k else 0) else 0) + f.a := by
        have := us_same (F := F) (l := l ++ [(p : Int)]) (k := k)
        rw [N1] at this
        rw [this, us_app (by omega), ← hf]
        congr 1
        split
        · rename_i i0
          split
          · rename_i q0
            rw [h1, i0, q0]
            simp
          · rename_i q0
            exact us_none (fun x hx => by have := hi x hx; omega)
        · rename_i i0
          exact us_none (fun x hx => by have := hi x hx; omega)
      have CK : ckk F sp (l ++ [(p : Int)]) k := by
        unfold ckk
        rw [N1, US, ← hf]
        have : pb (l ++ [(p : Int)]) k = pb l k := by
          cases k with
          | zero => rfl
          | succ k => exact ng_left (by omega)
        rw [this]
        refine ⟨⟨by omega, by omega⟩, ?_⟩
        rw [Int.toNat_natCast, h1]
        split at h3 <;> rename_i i0
        · rw [if_pos i0]; omega
        · rw [if_neg i0]; omega
      rw [h4, show Q + i = p from h1.symm, ← US] at e2
      have := ih (k + 1) (by omega) (l ++ [(p : Int)]) m' p L1 (CTo.step (CTo_app (by omega) hc) CK) (fun x hx => by
        rcases (by omega : x < k ∨ x = k) with ee | ee
        · rw [ng_left (by omega)]
          have := hi x ee
          omega
        · rw [ee, N1]; omega) (by show ng (l ++ [(p : Int)]) k ≤ _; rw [N1]; omega) e2
      simpa using this
/-- What is accepted is never earlier than what is placed, where there is at least as much room. -/
theorem pl_first {F : List Du} {sp sp' l' : List Int} (hF : Fok F) (hlen : sp'.length = sp.length) (hle : ∀ j, j < sp.length → ng sp' j ≤ ng sp j) (hc : CTo F sp' l' F.length) : ∀ n k, k + n = F.length → ∀ (q : Nat) (u : Int), 0 ≤ u → ((q : Int) < pb l' k ∨ (q : Int) = pb l' k ∧ u ≤ us F l' q k) →
    ∃ m, pl (F.drop k) q (red u (sp.drop q)) = some m ∧ m.length = n ∧ ∀ i, i < n → ng m i ≤ ng l' (k + i) := fun n => by
  induction n with
  | zero =>
    intro k hk q u hu hs
    rw [List.drop_eq_nil_of_le (by omega)]
    exact ⟨[], rfl, rfl, fun i hi => by omega⟩
  | succ n ih =>
    intro k hk q u hu hs
    have hkf : k < F.length := by omega
    obtain ⟨f, hf⟩ : ∃ f, f = tg F k := ⟨_, rfl⟩
    have hok := hF k hkf
    have hck := hc k hkf
    unfold ckk at hck
    rw [us_same, ← hf] at hck
    rw [← hf] at hok
    rw [drop_tgf hkf, ← hf, pl_cons]
    obtain ⟨Q, hQ⟩ : ∃ Q, Q = max q f.b.toNat := ⟨_, rfl⟩
    rw [show f.b.toNat - q = Q - q from by omega, red_at (by omega), ← hQ]
    have hub := us_bd (F := F) (l := l') (j := ng l' k) (k := k) (fun i hi => (hF i (by omega)).1)
    obtain ⟨P, hP⟩ : ∃ P : Nat, ng l' k = P := ⟨(ng l' k).toNat, by omega⟩
    rw [hP] at hck hub
    rw [Int.toNat_natCast] at hck
    have hPl : P < sp.length := by omega
    have hPs := hle P hPl
    have hQP : Q ≤ P := by omega
    obtain ⟨j, h1, h2, h3⟩ := fp_find (h := f.a) (s := red (if Q = q then u else 0) (sp.drop Q)) (q := Q) (i := P - Q) (by rw [red_len, List.length_drop]; omega) (by
      rw [red_ng (by omega), show Q + (P - Q) = P from by omega]
      split <;> rename_i i0
      · split <;> rename_i q0
        · rcases hs with hs | ⟨hs, hs2⟩
          · omega
          · have : us F l' (q : Int) k = us F l' (P : Int) k := by rw [show (q : Int) = (P : Int) from by omega]
            omega
        · omega
      · omega)
    rw [red_next (by omega)] at h3
    rw [h3]
    obtain ⟨m, e1, e2, e3⟩ := ih (k + 1) (by omega) (Q + j) ((if j = 0 then if Q = q then u else 0 else 0) + f.a) (by split <;> (try split) <;> omega) (by
      have h5 : pb l' (k + 1) = P := hP
      rw [h5]
      rcases (by omega : Q + j < P ∨ Q + j = P) with e | e
      · left; omega
      · right
        refine ⟨by omega, ?_⟩
        have h6 := us_same (F := F) (l := l') (k := k)
        rw [hP] at h6
        rw [e, h6, ← hf]
        split <;> rename_i j0
        · split <;> rename_i q0
          · rcases hs with hs | ⟨hs, hs2⟩
            · omega
            · have : us F l' (q : Int) k = us F l' (P : Int) k := by rw [show (q : Int) = (P : Int) from by omega]
              omega
          · omega
        · omega)
    refine ⟨((Q + j : Nat) : Int) :: m, by simp only [e1]; rfl, by simp [e2], fun i hi => ?_⟩
    cases i with
    | zero => show ((Q + j : Nat) : Int) ≤ ng l' (k + 0); rw [Nat.add_zero, hP]; omega
    | succ i => show ng m i ≤ _; rw [show k + (i + 1) = k + 1 + i from by omega]; exact e3 i (by omega)
end Go.Proofs.Ytkclecfjpabplaa
