/- Levels of texts: pure maths. It speaks of no program. -/
import Derived.Test.YteoiphjkkcjddaaDirM
namespace Go.Proofs.Yteoiphjkkcjddaa
open Go.ChangeShapes Go.WideShapes Go.ChangeAt Go.RowKit
set_option linter.unusedVariables false

/-- The direction of a character: 1 left to right, 2 right to left, 3 a digit, 0 none. -/
def cls (c : UInt8) : Nat := if 97 ≤ c.toNat ∧ c.toNat ≤ 122 then 1 else if 65 ≤ c.toNat ∧ c.toNat ≤ 90 then 2 else if 48 ≤ c.toNat ∧ c.toNat ≤ 57 then 3 else 0
theorem cls_low {c : UInt8} (h : 97 ≤ c.toNat ∧ c.toNat ≤ 122) : cls c = 1 := by simp [cls, h]
theorem cls_cap {c : UInt8} (h : 65 ≤ c.toNat ∧ c.toNat ≤ 90) : cls c = 2 := by rw [cls, if_neg (by omega), if_pos h]
theorem cls_dig {c : UInt8} (h : 48 ≤ c.toNat ∧ c.toNat ≤ 57) : cls c = 3 := by rw [cls, if_neg (by omega), if_neg (by omega), if_pos h]
theorem cls_none {c : UInt8} (h1 : ¬ (97 ≤ c.toNat ∧ c.toNat ≤ 122)) (h2 : ¬ (65 ≤ c.toNat ∧ c.toNat ≤ 90)) (h3 : ¬ (48 ≤ c.toNat ∧ c.toNat ≤ 57)) : cls c = 0 := by rw [cls, if_neg h1, if_neg h2, if_neg h3]
theorem cls_or (c : UInt8) : (cls c = 1 ∧ 97 ≤ c.toNat ∧ c.toNat ≤ 122) ∨ (cls c = 2 ∧ 65 ≤ c.toNat ∧ c.toNat ≤ 90) ∨ (cls c = 3 ∧ 48 ≤ c.toNat ∧ c.toNat ≤ 57) ∨ (cls c = 0 ∧ ¬ (97 ≤ c.toNat ∧ c.toNat ≤ 122) ∧ ¬ (65 ≤ c.toNat ∧ c.toNat ≤ 90) ∧ ¬ (48 ≤ c.toNat ∧ c.toNat ≤ 57)) := by
  by_cases h1 : 97 ≤ c.toNat ∧ c.toNat ≤ 122
  · exact .inl ⟨cls_low h1, h1⟩
  · by_cases h2 : 65 ≤ c.toNat ∧ c.toNat ≤ 90
    · exact .inr (.inl ⟨cls_cap h2, h2⟩)
    · by_cases h3 : 48 ≤ c.toNat ∧ c.toNat ≤ 57
      · exact .inr (.inr (.inl ⟨cls_dig h3, h3⟩))
      · exact .inr (.inr (.inr ⟨cls_none h1 h2 h3, h1, h2, h3⟩))

/-- The level of characters without a direction between two levels. -/
def stl (b be bh : Int) : Int := if be % 2 ≠ b ∧ bh % 2 ≠ b then b + 1 else b
/-- The levels of what is left of a text, behind 'w' characters that wait. -/
def lvs (b : Int) : Int → Int → Nat → List UInt8 → List Int
  | be, d, w, [] => List.replicate w (stl b be b)
  | be, d, w, c :: cs =>
    if cls c = 2 then List.replicate w (stl b be 1) ++ 1 :: lvs b 1 2 0 cs
    else if cls c = 1 then List.replicate w (stl b be (2 * b)) ++ (2 * b) :: lvs b (2 * b) (2 * b) 0 cs
    else if cls c = 3 then List.replicate w (stl b be d) ++ d :: lvs b d d 0 cs
    else lvs b be d (w + 1) cs
section
variable {b be be' d : Int} {w : Nat} {c : UInt8} {cs : List UInt8}
theorem lvs_cap (h : cls c = 2) : lvs b be d w (c :: cs) = List.replicate w (stl b be 1) ++ 1 :: lvs b 1 2 0 cs := by rw [lvs, if_pos h]
theorem lvs_low (h : cls c = 1) : lvs b be d w (c :: cs) = List.replicate w (stl b be (2 * b)) ++ (2 * b) :: lvs b (2 * b) (2 * b) 0 cs := by rw [lvs, if_neg (by omega), if_pos h]
theorem lvs_dig (h : cls c = 3) : lvs b be d w (c :: cs) = List.replicate w (stl b be d) ++ d :: lvs b d d 0 cs := by rw [lvs, if_neg (by omega), if_neg (by omega), if_pos h]
theorem lvs_none (h : cls c = 0) : lvs b be d w (c :: cs) = lvs b be d (w + 1) cs := by rw [lvs, if_neg (by omega), if_neg (by omega), if_neg (by omega)]
theorem lvs_nil : lvs b be d w [] = List.replicate w (stl b be b) := by rw [lvs]
theorem lvs_len : ∀ (s : List UInt8) (be d : Int) (w : Nat), (lvs b be d w s).length = w + s.length
  | [], be, d, w => by simp [lvs]
  | c :: cs, be, d, w => by
    rcases cls_or c with ⟨h, _⟩ | ⟨h, _⟩ | ⟨h, _⟩ | ⟨h, _⟩
    · rw [lvs_low h, List.length_append, List.length_replicate, List.length_cons, lvs_len, List.length_cons]; omega
    · rw [lvs_cap h, List.length_append, List.length_replicate, List.length_cons, lvs_len, List.length_cons]; omega
    · rw [lvs_dig h, List.length_append, List.length_replicate, List.length_cons, lvs_len, List.length_cons]; omega
    · rw [lvs_none h, lvs_len, List.length_cons]; omega
/-- A run without directions waits. -/
theorem lvs_run : ∀ (R : List UInt8) (w : Nat) (rest : List UInt8), (∀ c ∈ R, cls c = 0) → lvs b be d w (R ++ rest) = lvs b be d (w + R.length) rest
  | [], w, rest, _ => rfl
  | c :: R, w, rest, h => by
    rw [List.cons_append, lvs_none (h c (by simp)), lvs_run R (w + 1) rest (fun x hx => h x (by simp [hx])), List.length_cons]
    congr 1; omega
/-- In front of a character with a direction the level before does not count. -/
theorem lvs_any (h : cls c ≠ 0) : lvs b be d 0 (c :: cs) = lvs b be' d 0 (c :: cs) := by
  rcases cls_or c with ⟨k, _⟩ | ⟨k, _⟩ | ⟨k, _⟩ | ⟨k, _⟩
  · rw [lvs_low k, lvs_low k]; rfl
  · rw [lvs_cap k, lvs_cap k]; rfl
  · rw [lvs_dig k, lvs_dig k]; rfl
  · exact absurd k h
end
/-- The text can be shown. -/
def okT (s : List UInt8) : Bool := decide (s.length ≤ 60) && s.all fun c => decide (32 ≤ c.toNat) && decide (c.toNat ≤ 126)
theorem okT_iff {s : List UInt8} : okT s = true ↔ s.length ≤ 60 ∧ ∀ j, j < s.length → 32 ≤ (bg s j).toNat ∧ (bg s j).toNat ≤ 126 := by
  simp only [okT, Bool.and_eq_true, decide_eq_true_eq, List.all_eq_true]
  constructor
  · rintro ⟨h1, h2⟩
    exact ⟨h1, fun j hj => h2 _ (bg_mem hj)⟩
  · rintro ⟨h1, h2⟩
    refine ⟨h1, fun x hx => ?_⟩
    obtain ⟨j, hj, rfl⟩ := List.getElem_of_mem hx
    have := h2 j hj
    rwa [bg_lt hj] at this
def okB (b : Int) : Bool := decide (0 ≤ b ∧ b ≤ 1)
def lvL (s : List UInt8) (b : Int) : List Int := lvs b b (2 * b) 0 s
def lvO (s : List UInt8) (b : Int) : List Int := if okT s = true ∧ okB b = true then lvL s b else []
theorem lvL_len (s : List UInt8) (b : Int) : (lvL s b).length = s.length := by rw [lvL, lvs_len]; omega
theorem lvO_yes {s : List UInt8} {b : Int} (h1 : okT s = true) (h2 : okB b = true) : lvO s b = lvL s b := by rw [lvO, if_pos ⟨h1, h2⟩]
theorem lvO_no {s : List UInt8} {b : Int} (h : okT s = false ∨ okB b = false) : lvO s b = [] := by
  rw [lvO, if_neg]
  rintro ⟨h1, h2⟩
  rcases h with h | h
  · rw [h1] at h; cases h
  · rw [h2] at h; cases h
theorem lvO_len (s : List UInt8) (b : Int) : (lvO s b).length ≤ 60 := by
  rw [lvO]
  split
  · rename_i h
    rw [lvL_len]; exact (okT_iff.1 h.1).1
  · simp

/-- What the levels lie in: a character's own. -/
def lvOk (b : Int) (c : UInt8) (x : Int) : Prop := 0 ≤ x ∧ x ≤ 2 ∧ (cls c = 2 → x = 1) ∧ (cls c = 1 → x = 2 * b) ∧ (cls c = 3 → x = 0 ∨ x = 2)
theorem stl_in {b be bh : Int} (h : 0 ≤ b ∧ b ≤ 1) : 0 ≤ stl b be bh ∧ stl b be bh ≤ 2 := by unfold stl; split <;> omega
theorem ng_rep {w : Nat} {x : Int} {j : Nat} (h : j < w) : ng (List.replicate w x) j = x := by rw [ng_lt (by simpa using h)]; simp
theorem ng_app2 {A B : List Int} {j : Nat} : ng (A ++ B) j = if j < A.length then ng A j else ng B (j - A.length) := ng_app
/-- Each level fits its character; consecutive digits have the same one. -/
theorem lvs_ok {b : Int} (hb : 0 ≤ b ∧ b ≤ 1) : ∀ (s : List UInt8) (be d : Int) (w : Nat), (d = 0 ∨ d = 2) → (∀ j, j < w → 0 ≤ ng (lvs b be d w s) j ∧ ng (lvs b be d w s) j ≤ 2) ∧ (∀ j, j < s.length → lvOk b (bg s j) (ng (lvs b be d w s) (w + j)))
  | [], be, d, w, hd => by
    refine ⟨fun j hj => ?_, fun j hj => by simp at hj⟩
    rw [lvs_nil, ng_rep hj]; exact stl_in hb
  | c :: cs, be, d, w, hd => by
    have step : ∀ (x d' : Int) (y : Int), (d' = 0 ∨ d' = 2) → lvOk b c x → (0 ≤ y ∧ y ≤ 2) → lvs b be d w (c :: cs) = List.replicate w y ++ x :: lvs b x d' 0 cs → (∀ j, j < w → 0 ≤ ng (lvs b be d w (c :: cs)) j ∧ ng (lvs b be d w (c :: cs)) j ≤ 2) ∧ (∀ j, j < (c :: cs).length → lvOk b (bg (c :: cs) j) (ng (lvs b be d w (c :: cs)) (w + j))) := by
      intro x d' y hd' hx hy e
      rw [e]
      refine ⟨fun j hj => ?_, fun j hj => ?_⟩
      · rw [ng_app, if_pos (by simpa using hj), ng_rep hj]; exact hy
      · rw [ng_app, if_neg (by simp), List.length_replicate, Nat.add_sub_cancel_left]
        cases j with
        | zero => exact hx
        | succ j =>
          have := (lvs_ok hb cs x d' 0 hd').2 j (by simpa using hj)
          rw [Nat.zero_add] at this
          exact this
    rcases cls_or c with ⟨h, _⟩ | ⟨h, _⟩ | ⟨h, _⟩ | ⟨h, _⟩
    · exact step (2 * b) (2 * b) _ (by omega) ⟨by omega, by omega, fun k => by omega, fun _ => rfl, fun k => by omega⟩ (stl_in hb) (lvs_low h)
    · exact step 1 2 _ (by omega) ⟨by omega, by omega, fun k => rfl, fun k => by omega, fun k => by omega⟩ (stl_in hb) (lvs_cap h)
    · exact step d d _ hd ⟨by omega, by omega, fun k => by omega, fun k => by omega, fun k => hd⟩ (stl_in hb) (lvs_dig h)
    · have ih := lvs_ok hb cs be d (w + 1) hd
      rw [lvs_none h]
      refine ⟨fun j hj => ih.1 j (by omega), fun j hj => ?_⟩
      cases j with
      | zero =>
        have h0 := ih.1 w (by omega)
        exact ⟨h0.1, h0.2, fun k => by have : cls c = 2 := k; omega, fun k => by have : cls c = 1 := k; omega, fun k => by have : cls c = 3 := k; omega⟩
      | succ j =>
        have := ih.2 j (by simpa using hj)
        rw [show w + 1 + j = w + (j + 1) by omega] at this
        exact this
theorem lvs_digs {b : Int} : ∀ (s : List UInt8) (be d : Int) (w : Nat) (j : Nat), j + 1 < s.length → cls (bg s j) = 3 → cls (bg s (j + 1)) = 3 → ng (lvs b be d w s) (w + (j + 1)) = ng (lvs b be d w s) (w + j)
  | [], be, d, w, j, h, _, _ => by simp at h
  | c :: cs, be, d, w, j, hj, h0, h1 => by
    have step : ∀ (x d' y : Int), (j = 0 → x = d') → lvs b be d w (c :: cs) = List.replicate w y ++ x :: lvs b x d' 0 cs → ng (lvs b be d w (c :: cs)) (w + (j + 1)) = ng (lvs b be d w (c :: cs)) (w + j) := by
      intro x d' y hx e
      rw [e, ng_app, ng_app, if_neg (by simp), if_neg (by simp), List.length_replicate, Nat.add_sub_cancel_left, Nat.add_sub_cancel_left]
      cases j with
      | zero =>
        match cs, hj, h1 with
        | [], hj, h1 => simp at hj
        | c' :: cs, hj, h1 =>
          have : cls c' = 3 := h1
          show ng (lvs b x d' 0 (c' :: cs)) 0 = x
          rw [lvs_dig this, hx rfl]; rfl
      | succ j =>
        have := lvs_digs (b := b) cs x d' 0 j (by simpa using hj) h0 h1
        rw [Nat.zero_add, Nat.zero_add] at this
        exact this
    rcases cls_or c with ⟨h, _⟩ | ⟨h, _⟩ | ⟨h, _⟩ | ⟨h, _⟩
    · exact step _ _ _ (fun e => rfl) (lvs_low h)
    · exact step _ _ _ (fun e => by subst e; have : cls c = 3 := h0; omega) (lvs_cap h)
    · exact step _ _ _ (fun e => rfl) (lvs_dig h)
    · rw [lvs_none h]
      cases j with
      | zero => have : cls c = 3 := h0; omega
      | succ j =>
        have := lvs_digs (b := b) cs be d (w + 1) j (by simpa using hj) h0 h1
        rw [show w + 1 + (j + 1) = w + (j + 1 + 1) by omega, show w + 1 + j = w + (j + 1) by omega] at this
        exact this
/-- The levels of a text fit its characters. -/
theorem lvL_ok {s : List UInt8} {b : Int} (hb : 0 ≤ b ∧ b ≤ 1) {j : Nat} (hj : j < s.length) : lvOk b (bg s j) (ng (lvL s b) j) := by
  have := (lvs_ok hb s b (2 * b) 0 (by omega)).2 j hj
  rwa [Nat.zero_add] at this
theorem lvL_digs {s : List UInt8} {b : Int} {j : Nat} (hj : j + 1 < s.length) (h0 : cls (bg s j) = 3) (h1 : cls (bg s (j + 1)) = 3) : ng (lvL s b) (j + 1) = ng (lvL s b) j := by
  have := lvs_digs (b := b) s b (2 * b) 0 j hj h0 h1
  rwa [Nat.zero_add, Nat.zero_add] at this
/-- Only uppercase letters, base 1: all levels 1. -/
theorem lvs_caps : ∀ (s : List UInt8) (be d : Int), (∀ c ∈ s, cls c = 2) → lvs 1 be d 0 s = List.replicate s.length 1
  | [], be, d, _ => by rw [lvs_nil]; rfl
  | c :: cs, be, d, h => by
    rw [lvs_cap (h c (by simp)), lvs_caps cs 1 2 (fun x hx => h x (by simp [hx]))]; rfl
/-- No uppercase letters, base 0: all levels 0. -/
theorem lvs_plain : ∀ (s : List UInt8) (w : Nat), (∀ c ∈ s, cls c ≠ 2) → lvs 0 0 0 w s = List.replicate (w + s.length) 0
  | [], w, _ => by rw [lvs_nil]; rfl
  | c :: cs, w, h => by
    have h2 := h c (by simp)
    have ih := fun w => lvs_plain cs w (fun x hx => h x (by simp [hx]))
    have e : ∀ w, List.replicate w (stl 0 0 0) ++ (0 : Int) :: List.replicate (0 + cs.length) 0 = List.replicate (w + (c :: cs).length) 0 := fun w => by
      have : stl 0 0 0 = 0 := rfl
      rw [this, ← List.replicate_succ, List.replicate_append_replicate]
      congr 1; simp
    rcases cls_or c with ⟨k, _⟩ | ⟨k, _⟩ | ⟨k, _⟩ | ⟨k, _⟩
    · rw [lvs_low k]; show _ ++ (0 : Int) :: lvs 0 0 0 0 cs = _; rw [ih]; exact e w
    · exact absurd k h2
    · rw [lvs_dig k, ih]; exact e w
    · rw [lvs_none k, ih, List.length_cons]; congr 1; omega

/-- How the model fills: first the directions alone .. -/
def rw0 (b : Int) (c : UInt8) : Int := if cls c = 2 then 1 else if cls c = 1 ∨ cls c = 3 then 2 * b else b
/-- .. then the digits behind uppercase letters. -/
def fx (b : Int) : Int → List UInt8 → List Int
  | _, [] => []
  | last, c :: cs =>
    if cls c = 2 then 1 :: fx b 1 cs
    else if cls c = 1 then 2 * b :: fx b (2 * b) cs
    else if cls c = 3 then (if last = 1 then 2 else 2 * b) :: fx b last cs
    else b :: fx b last cs
def dl (b last : Int) : Int := if last = 1 then 2 else 2 * b
theorem fx_len (b : Int) : ∀ (s : List UInt8) (last : Int), (fx b last s).length = s.length
  | [], _ => rfl
  | c :: cs, last => by
    unfold fx
    split
    · simp [fx_len b cs]
    · split
      · simp [fx_len b cs]
      · split <;> simp [fx_len b cs]
section
variable {b last : Int} {c : UInt8} {cs : List UInt8}
theorem fx_cap (h : cls c = 2) : fx b last (c :: cs) = 1 :: fx b 1 cs := by rw [fx, if_pos h]
theorem fx_low (h : cls c = 1) : fx b last (c :: cs) = 2 * b :: fx b (2 * b) cs := by rw [fx, if_neg (by omega), if_pos h]
theorem fx_dig (h : cls c = 3) : fx b last (c :: cs) = dl b last :: fx b last cs := by rw [fx, if_neg (by omega), if_neg (by omega), if_pos h]; rfl
theorem fx_none (h : cls c = 0) : fx b last (c :: cs) = b :: fx b last cs := by rw [fx, if_neg (by omega), if_neg (by omega), if_neg (by omega)]
end
/-- What loop 3 keeps at a character with a direction. -/
theorem go_dir {b last be : Int} (hb : 0 ≤ b ∧ b ≤ 1) {c : UInt8} {cs : List UInt8} (h : cls c ≠ 0) : ∃ x last', fx b last (c :: cs) = x :: fx b last' cs ∧ lvs b be (dl b last) 0 (c :: cs) = x :: lvs b x (dl b last') 0 cs ∧ 0 ≤ x ∧ x ≤ 2 ∧ (last' = last ∨ (0 ≤ last' ∧ last' ≤ 2)) := by
  rcases cls_or c with ⟨k, _⟩ | ⟨k, _⟩ | ⟨k, _⟩ | ⟨k, _⟩
  · refine ⟨2 * b, 2 * b, fx_low k, ?_, by omega, by omega, .inr (by omega)⟩
    rw [lvs_low k, show dl b (2 * b) = 2 * b by unfold dl; rw [if_neg (by omega)]]; rfl
  · exact ⟨1, 1, fx_cap k, by rw [lvs_cap k]; rfl, by omega, by omega, .inr (by omega)⟩
  · exact ⟨dl b last, last, fx_dig k, by rw [lvs_dig k]; rfl, by unfold dl; split <;> omega, by unfold dl; split <;> omega, .inl rfl⟩
  · exact absurd k h
/-- .. and at a run without directions. -/
theorem fx_run {b last : Int} : ∀ (R rest : List UInt8), (∀ c ∈ R, cls c = 0) → fx b last (R ++ rest) = List.replicate R.length b ++ fx b last rest
  | [], rest, _ => rfl
  | c :: R, rest, h => by
    rw [List.cons_append, fx_none (h c (by simp)), fx_run R rest (fun x hx => h x (by simp [hx]))]; rfl
/-- The level behind a run. -/
def aft (b last : Int) (rest : List UInt8) : Int := if rest = [] then b else ng (fx b last rest) 0
theorem go_run {b last be be' : Int} (hb : 0 ≤ b ∧ b ≤ 1) {R rest : List UInt8} (h : ∀ c ∈ R, cls c = 0) (hr : ∀ c cs, rest = c :: cs → cls c ≠ 0) :
    lvs b be (dl b last) 0 (R ++ rest) = List.replicate R.length (stl b be (aft b last rest)) ++ lvs b be' (dl b last) 0 rest := by
  rw [lvs_run R 0 rest h, Nat.zero_add]
  match rest, hr with
  | [], _ => rw [lvs_nil, lvs_nil, aft, if_pos rfl]; simp
  | c :: cs, hr =>
    have hc := hr c cs rfl
    rw [aft, if_neg (by simp)]
    rcases cls_or c with ⟨k, _⟩ | ⟨k, _⟩ | ⟨k, _⟩ | ⟨k, _⟩
    · rw [lvs_low k, lvs_low k, fx_low k]; rfl
    · rw [lvs_cap k, lvs_cap k, fx_cap k]; rfl
    · rw [lvs_dig k, lvs_dig k, fx_dig k]; rfl
    · exact absurd k hc
theorem aft_in {b last : Int} (hb : 0 ≤ b ∧ b ≤ 1) {rest : List UInt8} (hr : ∀ c cs, rest = c :: cs → cls c ≠ 0) : 0 ≤ aft b last rest ∧ aft b last rest ≤ 2 := by
  match rest, hr with
  | [], _ => rw [aft, if_pos rfl]; omega
  | c :: cs, hr =>
    obtain ⟨x, l', e, _, h0, h1, _⟩ := go_dir (last := last) (be := 0) hb (cs := cs) (hr c cs rfl)
    rw [aft, if_neg (by simp), e]
    exact ⟨h0, h1⟩
/-- The model's words for 'stl'. -/
theorem stl_yes {b be af : Int} (hb : 0 ≤ b ∧ b ≤ 1) (h1 : be % 2 = af % 2) (h2 : be % 2 ≠ b) : stl b be af = if b = 1 then 2 else 1 - b := by
  rw [stl, if_pos ⟨h2, by omega⟩]; split <;> omega
theorem stl_no {b be af : Int} (hb : 0 ≤ b ∧ b ≤ 1) (h : ¬ (be % 2 = af % 2 ∧ be % 2 ≠ b)) : stl b be af = b := by
  rw [stl, if_neg]; omega
end Go.Proofs.Yteoiphjkkcjddaa
