/- Pieces that are as long as possible. It speaks of no program. -/
import Derived.Test.YtlfhfbeacleggaaILists
namespace Go.Proofs.Ytlfhfbeacleggaa
open Go.ChangeShapes Go.WideShapes Go.ChangeAt Go.RowKit
set_option linter.unusedVariables false

/-- The sum of the numbers from s on and before t. -/
def sm (l : List Int) (s t : Nat) : Int := ((l.drop s).take (t - s)).foldr (fun x a => x + a) 0
def sl (l : List Int) : Int := l.foldr (fun x a => x + a) 0
theorem sl_app (l m : List Int) : sl (l ++ m) = sl l + sl m := by
  induction l with
  | nil => simp [sl]
  | cons x l ih => show x + sl (l ++ m) = x + sl l + sl m; omega
theorem sm_same (l : List Int) (s : Nat) : sm l s s = 0 := by simp [sm]
theorem drop_ng {l : List Int} {k : Nat} (h : k < l.length) : l.drop k = ng l k :: l.drop (k + 1) := by
  rw [ng_lt h]; exact List.drop_eq_getElem_cons h
theorem sm_step {l : List Int} {s t : Nat} (h : s ≤ t) (ht : t < l.length) : sm l s (t + 1) = sm l s t + ng l t := by
  unfold sm
  have e : t + 1 - s = (t - s) + 1 := by omega
  have e2 : (List.drop s l)[t - s]? = some (ng l t) := by
    rw [List.getElem?_drop, show s + (t - s) = t from by omega, ng_lt ht, List.getElem?_eq_getElem ht]
  rw [e, List.take_add_one, e2]
  have := sl_app (List.take (t - s) (List.drop s l)) [ng l t]
  simpa [sl] using this
theorem sm_all (l : List Int) : sm l 0 l.length = sl l := by simp [sm, sl]

/-- The sum of the first k numbers. -/
def pfx (l : List Int) : Nat → Int
  | 0 => 0
  | k + 1 => pfx l k + ng l k
theorem pfx_take {l : List Int} {k : Nat} (h : k ≤ l.length) : pfx l k = sl (l.take k) := by
  induction k with
  | zero => simp [pfx, sl]
  | succ k ih =>
    rw [List.take_add_one, sl_app, ← ih (by omega)]
    show pfx l k + ng l k = _
    rw [List.getElem?_eq_getElem (by omega), ng_lt (by omega)]
    simp [sl]
theorem pfx_all (l : List Int) : pfx l l.length = sl l := by rw [pfx_take (Nat.le_refl _), List.take_length]
theorem pfx_bd {l : List Int} {b : Int} (h : ∀ j, j < l.length → 0 ≤ ng l j ∧ ng l j ≤ b) {k : Nat} (hk : k ≤ l.length) : 0 ≤ pfx l k ∧ pfx l k ≤ b * (k : Int) := by
  induction k with
  | zero => simp [pfx]
  | succ k ih =>
    have h1 := ih (by omega)
    have h2 := h k (by omega)
    have e : b * ((k + 1 : Nat) : Int) = b * (k : Int) + b := by rw [Int.natCast_add, Int.mul_add]; simp
    rw [e]
    show 0 ≤ pfx l k + ng l k ∧ pfx l k + ng l k ≤ _
    omega
theorem pfx_le {l : List Int} (h : ∀ j, j < l.length → 0 ≤ ng l j) : ∀ {k : Nat}, k ≤ l.length → pfx l k ≤ pfx l l.length := fun {k} hk => by
  obtain ⟨d, hd⟩ : ∃ d, l.length = k + d := ⟨l.length - k, by omega⟩
  have : ∀ d, k + d ≤ l.length → pfx l k ≤ pfx l (k + d) := fun d => by
    induction d with
    | zero => intro _; exact Int.le_refl _
    | succ d ih =>
      intro h1
      have h2 := ih (by omega)
      have h3 := h (k + d) (by omega)
      show _ ≤ pfx l (k + d) + ng l (k + d)
      omega
  rw [hd]
  exact this d (by omega)
/-- How far a piece from p reaches: from t on, at most k more. -/
def adv (f : Nat → Nat → Bool) (p : Nat) : Nat → Nat → Nat
  | 0, t => t
  | k + 1, t => if f p (t + 1) then adv f p k (t + 1) else t
/-- Pieces that are as long as possible, from p on. -/
def fil (f : Nat → Nat → Bool) (n : Nat) : Nat → Nat → Option (List Int)
  | 0, _ => some []
  | k + 1, p => if p < n then (if adv f p (n - p) p = p then none else (fil f n k (adv f p (n - p) p)).map fun l => ((adv f p (n - p) p : Nat) : Int) :: l) else some []
theorem adv_ge (f : Nat → Nat → Bool) (p k t : Nat) : t ≤ adv f p k t ∧ adv f p k t ≤ t + k := by
  induction k generalizing t with
  | zero => simp [adv]
  | succ k ih =>
    unfold adv
    split
    · have := ih (t + 1); omega
    · omega
theorem adv_yes {f : Nat → Nat → Bool} {p k t : Nat} (h : f p (t + 1) = true) : adv f p (k + 1) t = adv f p k (t + 1) := by simp [adv, h]
theorem adv_no {f : Nat → Nat → Bool} {p k t : Nat} (h : f p (t + 1) = false) : adv f p k t = t := by
  cases k <;> simp [adv, h]
theorem fil_end {f : Nat → Nat → Bool} {n k p : Nat} (h : n ≤ p) : fil f n k p = some [] := by
  cases k <;> simp [fil, Nat.not_lt.2 h]
theorem fil_no {f : Nat → Nat → Bool} {n k p : Nat} (h : p < n) (hk : n - p ≤ k) (e : adv f p (n - p) p = p) : fil f n k p = none := by
  cases k with
  | zero => omega
  | succ k => simp [fil, h, e]
theorem fil_go {f : Nat → Nat → Bool} {n k p q : Nat} (h : p < n) (_ : n - p ≤ k + 1) (e : adv f p (n - p) p = q) (hq : q ≠ p) : fil f n (k + 1) p = (fil f n k q).map fun l => ((q : Nat) : Int) :: l := by
  simp [fil, h, e, hq]
theorem fil_snoc {f : Nat → Nat → Bool} {n k p q : Nat} {l : List Int} {T : Option (List Int)} (h : p < n) (hk : n ≤ p + k) (e : adv f p (n - p) p = q) (hq : q ≠ p) (hT : T = (fil f n k p).map (l ++ ·)) : T = (fil f n (k - 1) q).map ((l ++ [(q : Int)]) ++ ·) := by
  obtain ⟨m, rfl⟩ : ∃ m, k = m + 1 := ⟨k - 1, by omega⟩
  rw [hT, fil_go h (by omega) e hq, Nat.add_sub_cancel]
  cases fil f n m q <;> simp
/-- Enough rounds are enough. -/
theorem fil_fuel {f : Nat → Nat → Bool} {n : Nat} : ∀ k k' p, n - p ≤ k → n - p ≤ k' → fil f n k p = fil f n k' p := fun k => by
  induction k with
  | zero => intro k' p h h'; rw [fil_end (by omega), fil_end (by omega)]
  | succ k ih =>
    intro k' p h h'
    by_cases hp : p < n
    · cases k' with
      | zero => omega
      | succ k' =>
        have hg := adv_ge f p (n - p) p
        by_cases e : adv f p (n - p) p = p
        · rw [fil_no hp h e, fil_no hp h' e]
        · rw [fil_go hp h rfl e, fil_go hp h' rfl e, ih k' _ (by omega) (by omega)]
    · rw [fil_end (by omega), fil_end (by omega)]

end Go.Proofs.Ytlfhfbeacleggaa
