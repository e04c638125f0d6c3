/- Slices of strings as lists: what they read, what the call owns. They speak of no program. -/
import Derived.Test.YtlfhfbeacleggabILists
import Derived.Carry
namespace Go.Proofs.Ytlfhfbeacleggab
open Go.ChangeShapes Go.WideShapes Go.ChangeAt Go.RowKit
set_option linter.unusedSimpArgs false
set_option linter.unusedVariables false

/-- The k-th text. -/
def sg (l : List ByteArray) (k : Nat) : ByteArray := l.getD k ByteArray.empty
theorem sg_lt {l : List ByteArray} {k : Nat} (h : k < l.length) : sg l k = l[k] := by simp [sg, List.getD, List.getElem?_eq_getElem h]
theorem sg_get {l : List ByteArray} {k : Nat} (h : k < l.length) : l[k]? = some (sg l k) := by rw [sg_lt h, List.getElem?_eq_getElem h]
theorem sg_mem {l : List ByteArray} {k : Nat} (h : k < l.length) : sg l k ∈ l := by rw [sg_lt h]; exact List.getElem_mem h
/-- Two lists agree in their first k numbers. -/
def SAgr (l m : List ByteArray) (k : Nat) : Prop := ∀ j, j < k → sg l j = sg m j
theorem SAgr.zero (l m : List ByteArray) : SAgr l m 0 := fun j hj => by omega
theorem SAgr.step {l m : List ByteArray} {k : Nat} (h : SAgr l m k) (hk : sg l k = sg m k) : SAgr l m (k + 1) := fun j hj => by
  rcases (by omega : j < k ∨ j = k) with e | e
  · exact h j e
  · rw [e]; exact hk
theorem SAgr.all {l m : List ByteArray} (hl : l.length = m.length) (h : SAgr l m l.length) : l = m :=
  List.ext_getElem hl fun j h1 h2 => by have := h j h1; rwa [sg_lt h1, sg_lt h2] at this

/-- A slice that reads as a list of numbers. -/
def SL (w : World) (A : Option Addr) (n : Nat) (l : List ByteArray) : Prop :=
  n = l.length ∧ (0 < n → ∃ b o, A = some ⟨b, o, none⟩ ∧ b < w.heap.size ∧ ∀ i, i < n → w.cell? ⟨b, o + i, none⟩ = some (.string (sg l i)))
/-- A slice that the call made, of blocks from B on, which holds a list of numbers. -/
def OS (w : World) (e : TypeId) (B : Nat) (A : Option Addr) (c : Nat) (l : List ByteArray) : Prop := w.ownsRow B e 1 (.slice A l.length c) l.length (l.map (Value.string))

section
variable {w w' : World} {A : Option Addr} {n c B B' : Nat} {e : TypeId} {l : List ByteArray}
theorem SL.at_ (h : SL w A n l) {i : Nat} (hi : i < n) : ∃ b o, A = some ⟨b, o, none⟩ ∧ b < w.heap.size ∧ w.cell? ⟨b, o + i, none⟩ = some (.string (sg l i)) := by
  obtain ⟨b, o, e, hb, hc⟩ := h.2 (by omega)
  exact ⟨b, o, e, hb, hc i hi⟩
theorem SL.nil (w : World) (A : Option Addr) : SL w A 0 [] := ⟨rfl, fun h => by omega⟩
theorem SL.below (h : SL w A n l) (hb : Below w.heap.size w w') : SL w' A n l :=
  ⟨h.1, fun h0 => by
    obtain ⟨b, o, e, hl, hc⟩ := h.2 h0
    exact ⟨b, o, e, Nat.lt_of_lt_of_le hl hb.size, fun i hi => keep_cell hb (hc i hi)⟩⟩
theorem SL.alloc (h : SL w A n l) (o : Obj) : SL (w.alloc o) A n l := h.below (bl_alloc (bl_refl _) _)
theorem SL.drewN (h : SL w A n l) (k : Nat) : SL (w.drewN k) A n l := h
theorem SL.drew (h : SL w A n l) : SL w.drew A n l := h
theorem OS.drewN (h : OS w e B A c l) (k : Nat) : OS (w.drewN k) e B A c l := h
theorem OS.drew (h : OS w e B A c l) : OS w.drew e B A c l := h
theorem OS.more (h : OS w e B A c l) (hB : B' ≤ B) : OS w e B' A c l := by
  refine ⟨h.1, ?_⟩
  rcases h.2 with h0 | ⟨g, cap, cur, h1, h2, h3⟩
  · exact .inl h0
  · exact .inr ⟨g, cap, cur, h1, by omega, h3⟩
theorem OS.own_lt (h : OS w e B A c l) : ∀ k, (Value.slice A l.length c).ownBlock = some k → B ≤ k ∧ k < w.heap.size := fun k hk => World.ownsRow.lt h k hk
theorem OS.below (h : OS w e B A c l) (hb : Below w.heap.size w w') : OS w' e B A c l := by
  refine ⟨h.1, ?_⟩
  rcases h.2 with h0 | ⟨g, cap, cur, h1, h2, h3, h4⟩
  · exact .inl h0
  · refine .inr ⟨g, cap, cur, h1, h2, ?_, h4⟩
    rw [hb.block g (Array.getElem?_eq_some_iff.1 h3).1]
    exact h3
theorem OS.alloc (h : OS w e B A c l) (o : Obj) : OS (w.alloc o) e B A c l := h.below (bl_alloc (bl_refl _) _)
theorem OS.kept {row : Option Nat} (h : OS w e B A c l) (hg : w.grownBy w' row) (hne : ∀ k, (Value.slice A l.length c).ownBlock = some k → row ≠ some k) : OS w' e B A c l := by
  refine World.ownsRow.kept h hg ?_
  cases hv : (Value.slice A l.length c).ownBlock with
  | none => exact .inl rfl
  | some k => exact .inr (fun e => hne k hv e.symm)
theorem OS.nil (w : World) (e : TypeId) (B : Nat) : OS w e B none 0 [] := World.ownsRow_nil _ _ _ _
theorem OS.form (h : OS w e B A c l) (h0 : 0 < l.length) : ∃ g, A = some ⟨g, 0, none⟩ ∧ B ≤ g ∧ g < w.heap.size ∧ l.length ≤ c ∧ c ≤ maxLen := by
  rcases h.2 with ⟨_, h1⟩ | ⟨g, cap, cur, h1, h2, h3, h4, h5, _⟩
  · omega
  · injection h1 with h1 _ h6
    subst h6
    exact ⟨g, h1, h2, (Array.getElem?_eq_some_iff.1 h3).1, h4, h5⟩
theorem OS.len (h : OS w e B A c l) : l.length ≤ maxLen := by
  rcases Nat.eq_zero_or_pos l.length with h0 | h0
  · omega
  · obtain ⟨_, _, _, _, h1, h2⟩ := h.form h0
    omega
theorem OS.reads (h : OS w e B A c l) : SL w A l.length l := by
  refine ⟨rfl, fun h0 => ?_⟩
  obtain ⟨g, rfl, _, hg, _⟩ := h.form h0
  refine ⟨g, 0, rfl, hg, fun i hi => ?_⟩
  have := World.ownsRow.cellAt h i (by omega)
  rw [Nat.zero_add, this]
  simp [sg_get hi]
theorem OS.frozen (h : OS w e B A c l) (h0 : 0 < l.length) : ∃ g, A = some ⟨g, 0, none⟩ ∧ B ≤ g ∧ g < w.heap.size ∧ ∀ i, w.frozen? ⟨g, i, none⟩ = false := by
  obtain ⟨g, rfl, h1, hg, _⟩ := h.form h0
  exact ⟨g, rfl, h1, hg, fun i => World.ownsRow.frozenAt h i⟩
/-- A store at place i. -/
theorem OS.set_ {g : Nat} (h : OS w e B (some ⟨g, 0, none⟩) c l) (i : Nat) (z : ByteArray) : OS (w.setCell ⟨g, i, none⟩ (.string z)) e B (some ⟨g, 0, none⟩) c (l.set i z) ∧ w.grownBy (w.setCell ⟨g, i, none⟩ (.string z)) (some g) := by
  have := World.ownsRow.stored h i (.string z)
  refine ⟨?_, this.2⟩
  have h1 := this.1
  unfold OS
  rw [List.length_set, List.map_set]
  exact h1
end

theorem OS.of_own {w : World} {B n : Nat} {e : TypeId} {v : Value} {xs : List Value} {l : List ByteArray} (h : w.ownsRow B e 1 v n xs) (hx : xs = l.map (Value.string)) : ∃ A c, v = .slice A n c ∧ n = l.length ∧ OS w e B A c l := by
  subst hx
  have hn : n = l.length := by have := h.1; simpa using this.symm
  subst hn
  rcases h.2 with ⟨rfl, h1⟩ | ⟨g, cap, cur, rfl, h2⟩
  · have := List.eq_nil_of_length_eq_zero h1
    subst this
    exact ⟨none, 0, rfl, rfl, h⟩
  · exact ⟨_, _, rfl, rfl, h⟩
theorem OS.lit {w : World} {e : TypeId} {B : Nat} (hB : B ≤ w.heap.size) (l : List ByteArray) (hl : l.length ≤ maxLen) : OS (w.alloc (.cells (l.map (Value.string)).toArray e)) e B (some ⟨w.heap.size, 0, none⟩) l.length l := by
  have := World.ownsRow_lit (base := B) (e := e) (size := 1) w (l.map (Value.string)).toArray l.length hB hl (by simp)
  unfold OS
  simpa using this

/-- What was made earlier lies in another block. -/
theorem OS.apart {w u : World} {e : TypeId} {B c d : Nat} {A A' : Option Addr} {l m : List ByteArray} (h : OS w e B A c l) (h' : OS u e w.heap.size A' d m) : ∀ k, (Value.slice A l.length c).ownBlock = some k → (Value.slice A' m.length d).ownBlock ≠ some k := fun k hk hk' => by
  have h1 := (h.own_lt k hk).2
  have h2 := (h'.own_lt k hk').1
  omega
/-- What a call made, and what was then written into it alone. -/
theorem smarked {u v x : World} {e : TypeId} {c j : Nat} {A : Option Addr} {l : List ByteArray} (h : OS v e u.heap.size A c l) (hb : Below u.heap.size u v) (hg : (v.drewN j).grownBy x (Value.slice A l.length c).ownBlock) : Below u.heap.size u x :=
  (bl_drewN hb j).grown hg hb.size (fun k hk => (h.own_lt k hk).1)
/-- append of one number to a slice that the call made. -/
theorem wpList_append_str {P : Program} {ops : Array Oper} {rest : List Oper} {o : Oper} {a : Act} {Q : Exit → Act → World → Prop} {w : World} (hgd : o.guard = none) (s x : Operand) (t : TypeId)
    (ho : o.op = .call { callee := .builtin .append, args := #[s, x], argTypes := #[t, t] })
    (e : TypeId) (i : TypeInfo) (ht : P.underlying t = some (.slice e)) (hi : P.info? e = some i) (hz : i.zero = some (.string ByteArray.empty)) (hsize : i.size = 1) (hby : i.bytes = 16)
    (B : Nat) (A : Option Addr) (c n : Nat) (l : List ByteArray) (hs : a.eval s = .slice A n c) (hn : n = l.length) (hown : OS w e B A c l)
    (b : Nat) (z : ByteArray) (hx : a.eval x = .slice (some ⟨b, 0, none⟩) 1 1) (hc : w.cell? ⟨b, 0, none⟩ = some (.string z)) (hlen : n ≤ 1000000000000) (hB : B ≤ w.heap.size)
    (h : ∀ A' c' w', OS w' e B A' c' (l ++ [z]) → Below B w w' → w.grownBy w' (Value.slice A n c).ownBlock → wpList P ops Q rest (a.put o.dst (.slice A' (n + 1) c')) w') : wpList P ops Q (o :: rest) a w := by
  subst hn
  refine wpList_append_own w hgd s x t ho B e i (.string ByteArray.empty) 1 16 ht hi hz hsize hby rfl (by decide) _ l.length (l.map (Value.string)) hs hown ⟨b, 0, none⟩ 1 1 [(.string z)] hx rfl ?_ ?_ (by unfold maxLen; omega) (by omega) hB ?_
  · intro j u hj
    match j, hj with
    | 0, hj => simp at hj; subst hj; simpa [Addr.add] using hc
  · intro u hu; simp at hu; subst hu; rfl
  · intro v' w' hown' hgr _
    obtain ⟨A', c', rfl, hl, hol⟩ := OS.of_own (l := l ++ [z]) hown' (by simp)
    exact h A' c' w' hol ((Below.refl _ _).grown hgr hB (fun k hk => (hown.own_lt k hk).1)) hgr

/-- The first k numbers are those of l, the rest those of m. -/
def smix (l m : List ByteArray) (k : Nat) : List ByteArray := l.take k ++ m.drop k
theorem smix_zero (l m : List ByteArray) : smix l m 0 = m := by simp [smix]
theorem smix_all {l m : List ByteArray} (h : m.length = l.length) : smix l m l.length = l := by rw [smix, List.take_length, List.drop_eq_nil_of_le (by omega), List.append_nil]
theorem smix_len {l m : List ByteArray} (h : m.length = l.length) (k : Nat) : (smix l m k).length = l.length := by simp [smix]; omega
theorem smix_get {l m : List ByteArray} {k : Nat} (h : m.length = l.length) (hk : k < l.length) : sg (smix l m k) k = sg m k := by
  have e : k - min k l.length = 0 := by omega
  simp [sg, List.getD, smix, List.getElem?_append, e, Nat.not_lt.2 (Nat.min_le_left k l.length)]
theorem smix_step {l m : List ByteArray} {k : Nat} (h : m.length = l.length) (hk : k < l.length) : (smix l m k).set k (sg l k) = smix l m (k + 1) := by
  apply List.ext_getElem?
  intro j
  simp only [smix, List.getElem?_set, List.getElem?_append, List.length_append, List.length_take, List.length_drop, List.getElem?_take, List.getElem?_drop]
  by_cases hj : j = k
  · subst hj
    have e2 : j < min (j + 1) l.length := by omega
    have e3 : j < min j l.length + (m.length - j) := by omega
    simp [e2, e3, sg_get hk, show j < j + 1 from by omega]
  · by_cases hl : j < k
    · have e1 : j < min k l.length := by omega
      have e2 : j < min (k + 1) l.length := by omega
      simp [Ne.symm hj, e1, e2, hl, show j < k + 1 from by omega]
    · simp [Ne.symm hj, hl, show ¬ j < k + 1 from by omega, show min k l.length = k from by omega, show min (k + 1) l.length = k + 1 from by omega, show k + (j - k) = j from by omega, show k + 1 + (j - (k + 1)) = j from by omega]

theorem smix_put {l m : List ByteArray} {k : Nat} {z : ByteArray} (h : m.length = l.length) (hk : k < l.length) (hz : sg l k = z) : (smix l m k).set k z = smix l m (k + 1) := by rw [← hz]; exact smix_step h hk

theorem smix_done {l m : List ByteArray} {n : Nat} (h : m.length = l.length) (hn : l.length = n) : smix l m n = l := by rw [← hn]; exact smix_all h

theorem sg_snoc {l : List ByteArray} {z : ByteArray} {P : ByteArray → Prop} (hz : P z) (h : ∀ j, j < l.length → P (sg l j)) : ∀ j, j < (l ++ [z]).length → P (sg (l ++ [z]) j) := fun j hj => by
  rcases (by simp at hj; omega : j < l.length ∨ j = l.length) with e | e
  · have := h j e
    rwa [sg_lt (by simp; omega), List.getElem_append_left e, ← sg_lt e]
  · subst e
    rw [sg_lt (by simp)]
    simpa using hz
theorem sg_set {l : List ByteArray} {z : ByteArray} {i j : Nat} (hj : j < l.length) : sg (l.set i z) j = if i = j then z else sg l j := by
  rw [sg_lt (by simpa using hj), List.getElem_set, sg_lt hj]
theorem stake_next {l : List ByteArray} {k : Nat} {z : ByteArray} (h : k < l.length) (hz : sg l k = z) : l.take k ++ [z] = l.take (k + 1) := by
  rw [List.take_add_one, sg_get h, hz]; rfl
theorem stake_len {l : List ByteArray} {k : Nat} (h : k ≤ l.length) : (l.take k).length = k := by simp; omega
end Go.Proofs.Ytlfhfbeacleggab
