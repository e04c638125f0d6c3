/- Slices of integers as lists: what they read, what the call owns. They speak of no program. -/
import Derived.Test.YtlfhfbeacleggabBase
import Derived.Carry
namespace Go.Proofs.Ytlfhfbeacleggab
open Go.ChangeShapes Go.WideShapes Go.ChangeAt Go.RowKit
set_option linter.unusedSimpArgs false
set_option linter.unusedVariables false

/-- The k-th number. -/
def ng (l : List Int) (k : Nat) : Int := l.getD k 0
theorem ng_lt {l : List Int} {k : Nat} (h : k < l.length) : ng l k = l[k] := by simp [ng, List.getD, List.getElem?_eq_getElem h]
theorem ng_get {l : List Int} {k : Nat} (h : k < l.length) : l[k]? = some (ng l k) := by rw [ng_lt h, List.getElem?_eq_getElem h]
theorem ng_mem {l : List Int} {k : Nat} (h : k < l.length) : ng l k ∈ l := by rw [ng_lt h]; exact List.getElem_mem h
/-- Two lists agree in their first k numbers. -/
def Agr (l m : List Int) (k : Nat) : Prop := ∀ j, j < k → ng l j = ng m j
theorem Agr.zero (l m : List Int) : Agr l m 0 := fun j hj => by omega
theorem Agr.step {l m : List Int} {k : Nat} (h : Agr l m k) (hk : ng l k = ng m k) : Agr l m (k + 1) := fun j hj => by
  rcases (by omega : j < k ∨ j = k) with e | e
  · exact h j e
  · rw [e]; exact hk
theorem Agr.all {l m : List Int} (hl : l.length = m.length) (h : Agr l m l.length) : l = m :=
  List.ext_getElem hl fun j h1 h2 => by have := h j h1; rwa [ng_lt h1, ng_lt h2] at this

theorem on_set' {a w : World} {g : Nat} (h : a.grownBy w (some g)) {p : Addr} (hp : p.block = g ∨ a.heap.size ≤ p.block) (u : Value) : a.grownBy (w.setCell p u) (some g) :=
  ⟨h.os, h.tape, h.output, by simpa [World.setCell] using h.size, fun i hi hne => (Below.heap_setCell w p u i (by
    rintro rfl
    rcases hp with hp | hp
    · exact hne (by rw [hp])
    · omega)).trans (h.block i hi hne)⟩
theorem below_new {a w : World} (h : a.grownBy w none) : Below a.heap.size a w := ⟨h.os, h.tape, h.output, h.size, fun i hi => h.block i hi (fun e => by cases e)⟩
/-- A slice that reads as a list of numbers. -/
def IL (w : World) (A : Option Addr) (n : Nat) (l : List Int) : Prop :=
  n = l.length ∧ (0 < n → ∃ b o, A = some ⟨b, o, none⟩ ∧ b < w.heap.size ∧ ∀ i, i < n → w.cell? ⟨b, o + i, none⟩ = some (.int .i64 (ng l i)))
/-- A slice that the call made, of blocks from B on, which holds a list of numbers. -/
def OL (w : World) (e : TypeId) (B : Nat) (A : Option Addr) (c : Nat) (l : List Int) : Prop := w.ownsRow B e 1 (.slice A l.length c) l.length (l.map (Value.int .i64))

section
variable {w w' : World} {A : Option Addr} {n c B B' : Nat} {e : TypeId} {l : List Int}
theorem IL.at_ (h : IL w A n l) {i : Nat} (hi : i < n) : ∃ b o, A = some ⟨b, o, none⟩ ∧ b < w.heap.size ∧ w.cell? ⟨b, o + i, none⟩ = some (.int .i64 (ng l i)) := by
  obtain ⟨b, o, e, hb, hc⟩ := h.2 (by omega)
  exact ⟨b, o, e, hb, hc i hi⟩
theorem IL.nil (w : World) (A : Option Addr) : IL w A 0 [] := ⟨rfl, fun h => by omega⟩
theorem IL.below (h : IL w A n l) (hb : Below w.heap.size w w') : IL w' A n l :=
  ⟨h.1, fun h0 => by
    obtain ⟨b, o, e, hl, hc⟩ := h.2 h0
    exact ⟨b, o, e, Nat.lt_of_lt_of_le hl hb.size, fun i hi => keep_cell hb (hc i hi)⟩⟩
theorem IL.alloc (h : IL w A n l) (o : Obj) : IL (w.alloc o) A n l := h.below (bl_alloc (bl_refl _) _)
theorem IL.drewN (h : IL w A n l) (k : Nat) : IL (w.drewN k) A n l := h
theorem IL.drew (h : IL w A n l) : IL w.drew A n l := h
theorem OL.drewN (h : OL w e B A c l) (k : Nat) : OL (w.drewN k) e B A c l := h
theorem OL.drew (h : OL w e B A c l) : OL w.drew e B A c l := h
theorem OL.more (h : OL w e B A c l) (hB : B' ≤ B) : OL w e B' A c l := by
  refine ⟨h.1, ?_⟩
  rcases h.2 with h0 | ⟨g, cap, cur, h1, h2, h3⟩
  · exact .inl h0
  · exact .inr ⟨g, cap, cur, h1, by omega, h3⟩
theorem OL.own_lt (h : OL w e B A c l) : ∀ k, (Value.slice A l.length c).ownBlock = some k → B ≤ k ∧ k < w.heap.size := fun k hk => World.ownsRow.lt h k hk
theorem OL.below (h : OL w e B A c l) (hb : Below w.heap.size w w') : OL w' e B A c l := by
  refine ⟨h.1, ?_⟩
  rcases h.2 with h0 | ⟨g, cap, cur, h1, h2, h3, h4⟩
  · exact .inl h0
  · refine .inr ⟨g, cap, cur, h1, h2, ?_, h4⟩
    rw [hb.block g (Array.getElem?_eq_some_iff.1 h3).1]
    exact h3
theorem OL.alloc (h : OL w e B A c l) (o : Obj) : OL (w.alloc o) e B A c l := h.below (bl_alloc (bl_refl _) _)
theorem OL.kept {row : Option Nat} (h : OL w e B A c l) (hg : w.grownBy w' row) (hne : ∀ k, (Value.slice A l.length c).ownBlock = some k → row ≠ some k) : OL w' e B A c l := by
  refine World.ownsRow.kept h hg ?_
  cases hv : (Value.slice A l.length c).ownBlock with
  | none => exact .inl rfl
  | some k => exact .inr (fun e => hne k hv e.symm)
theorem OL.nil (w : World) (e : TypeId) (B : Nat) : OL w e B none 0 [] := World.ownsRow_nil _ _ _ _
theorem OL.form (h : OL w e B A c l) (h0 : 0 < l.length) : ∃ g, A = some ⟨g, 0, none⟩ ∧ B ≤ g ∧ g < w.heap.size ∧ l.length ≤ c ∧ c ≤ maxLen := by
  rcases h.2 with ⟨_, h1⟩ | ⟨g, cap, cur, h1, h2, h3, h4, h5, _⟩
  · omega
  · injection h1 with h1 _ h6
    subst h6
    exact ⟨g, h1, h2, (Array.getElem?_eq_some_iff.1 h3).1, h4, h5⟩
theorem OL.len (h : OL w e B A c l) : l.length ≤ maxLen := by
  rcases Nat.eq_zero_or_pos l.length with h0 | h0
  · omega
  · obtain ⟨_, _, _, _, h1, h2⟩ := h.form h0
    omega
theorem OL.reads (h : OL w e B A c l) : IL w A l.length l := by
  refine ⟨rfl, fun h0 => ?_⟩
  obtain ⟨g, rfl, _, hg, _⟩ := h.form h0
  refine ⟨g, 0, rfl, hg, fun i hi => ?_⟩
  have := World.ownsRow.cellAt h i (by omega)
  rw [Nat.zero_add, this]
  simp [ng_get hi]
theorem OL.frozen (h : OL w e B A c l) (h0 : 0 < l.length) : ∃ g, A = some ⟨g, 0, none⟩ ∧ B ≤ g ∧ g < w.heap.size ∧ ∀ i, w.frozen? ⟨g, i, none⟩ = false := by
  obtain ⟨g, rfl, h1, hg, _⟩ := h.form h0
  exact ⟨g, rfl, h1, hg, fun i => World.ownsRow.frozenAt h i⟩
/-- A store at place i. -/
theorem OL.set_ {g : Nat} (h : OL w e B (some ⟨g, 0, none⟩) c l) (i : Nat) (z : Int) : OL (w.setCell ⟨g, i, none⟩ (.int .i64 z)) e B (some ⟨g, 0, none⟩) c (l.set i z) ∧ w.grownBy (w.setCell ⟨g, i, none⟩ (.int .i64 z)) (some g) := by
  have := World.ownsRow.stored h i (.int .i64 z)
  refine ⟨?_, this.2⟩
  have h1 := this.1
  unfold OL
  rw [List.length_set, List.map_set]
  exact h1
end

theorem OL.of_own {w : World} {B n : Nat} {e : TypeId} {v : Value} {xs : List Value} {l : List Int} (h : w.ownsRow B e 1 v n xs) (hx : xs = l.map (Value.int .i64)) : ∃ A c, v = .slice A n c ∧ n = l.length ∧ OL w e B A c l := by
  subst hx
  have hn : n = l.length := by have := h.1; simpa using this.symm
  subst hn
  rcases h.2 with ⟨rfl, h1⟩ | ⟨g, cap, cur, rfl, h2⟩
  · have := List.eq_nil_of_length_eq_zero h1
    subst this
    exact ⟨none, 0, rfl, rfl, h⟩
  · exact ⟨_, _, rfl, rfl, h⟩
theorem OL.lit {w : World} {e : TypeId} {B : Nat} (hB : B ≤ w.heap.size) (l : List Int) (hl : l.length ≤ maxLen) : OL (w.alloc (.cells (l.map (Value.int .i64)).toArray e)) e B (some ⟨w.heap.size, 0, none⟩) l.length l := by
  have := World.ownsRow_lit (base := B) (e := e) (size := 1) w (l.map (Value.int .i64)).toArray l.length hB hl (by simp)
  unfold OL
  simpa using this

/-- What was made earlier lies in another block. -/
theorem OL.apart {w u : World} {e : TypeId} {B c d : Nat} {A A' : Option Addr} {l m : List Int} (h : OL w e B A c l) (h' : OL u e w.heap.size A' d m) : ∀ k, (Value.slice A l.length c).ownBlock = some k → (Value.slice A' m.length d).ownBlock ≠ some k := fun k hk hk' => by
  have h1 := (h.own_lt k hk).2
  have h2 := (h'.own_lt k hk').1
  omega
/-- What a call made, and what was then written into it alone. -/
theorem marked {u v x : World} {e : TypeId} {c j : Nat} {A : Option Addr} {l : List Int} (h : OL v e u.heap.size A c l) (hb : Below u.heap.size u v) (hg : (v.drewN j).grownBy x (Value.slice A l.length c).ownBlock) : Below u.heap.size u x :=
  (bl_drewN hb j).grown hg hb.size (fun k hk => (h.own_lt k hk).1)
/-- append of one number to a slice that the call made. -/
theorem wpList_append_int {P : Program} {ops : Array Oper} {rest : List Oper} {o : Oper} {a : Act} {Q : Exit → Act → World → Prop} {w : World} (hgd : o.guard = none) (s x : Operand) (t : TypeId)
    (ho : o.op = .call { callee := .builtin .append, args := #[s, x], argTypes := #[t, t] })
    (e : TypeId) (i : TypeInfo) (ht : P.underlying t = some (.slice e)) (hi : P.info? e = some i) (hz : i.zero = some (.int .i64 0)) (hsize : i.size = 1) (hby : i.bytes = 8)
    (B : Nat) (A : Option Addr) (c n : Nat) (l : List Int) (hs : a.eval s = .slice A n c) (hn : n = l.length) (hown : OL w e B A c l)
    (b : Nat) (z : Int) (hx : a.eval x = .slice (some ⟨b, 0, none⟩) 1 1) (hc : w.cell? ⟨b, 0, none⟩ = some (.int .i64 z)) (hlen : n ≤ 1000000000000) (hB : B ≤ w.heap.size)
    (h : ∀ A' c' w', OL w' e B A' c' (l ++ [z]) → Below B w w' → w.grownBy w' (Value.slice A n c).ownBlock → wpList P ops Q rest (a.put o.dst (.slice A' (n + 1) c')) w') : wpList P ops Q (o :: rest) a w := by
  subst hn
  refine wpList_append_own w hgd s x t ho B e i (.int .i64 0) 1 8 ht hi hz hsize hby rfl (by decide) _ l.length (l.map (Value.int .i64)) hs hown ⟨b, 0, none⟩ 1 1 [.int .i64 z] hx rfl ?_ ?_ (by unfold maxLen; omega) (by omega) hB ?_
  · intro j u hj
    match j, hj with
    | 0, hj => simp at hj; subst hj; simpa [Addr.add] using hc
  · intro u hu; simp at hu; subst hu; rfl
  · intro v' w' hown' hgr _
    obtain ⟨A', c', rfl, hl, hol⟩ := OL.of_own (l := l ++ [z]) hown' (by simp)
    exact h A' c' w' hol ((Below.refl _ _).grown hgr hB (fun k hk => (hown.own_lt k hk).1)) hgr

/-- The first k numbers are those of l, the rest those of m. -/
def mix (l m : List Int) (k : Nat) : List Int := l.take k ++ m.drop k
theorem mix_zero (l m : List Int) : mix l m 0 = m := by simp [mix]
theorem mix_all {l m : List Int} (h : m.length = l.length) : mix l m l.length = l := by rw [mix, List.take_length, List.drop_eq_nil_of_le (by omega), List.append_nil]
theorem mix_len {l m : List Int} (h : m.length = l.length) (k : Nat) : (mix l m k).length = l.length := by simp [mix]; omega
theorem mix_get {l m : List Int} {k : Nat} (h : m.length = l.length) (hk : k < l.length) : ng (mix l m k) k = ng m k := by
  have e : k - min k l.length = 0 := by omega
  simp [ng, List.getD, mix, List.getElem?_append, e, Nat.not_lt.2 (Nat.min_le_left k l.length)]
theorem mix_step {l m : List Int} {k : Nat} (h : m.length = l.length) (hk : k < l.length) : (mix l m k).set k (ng l k) = mix l m (k + 1) := by
  apply List.ext_getElem?
  intro j
  simp only [mix, List.getElem?_set, List.getElem?_append, List.length_append, List.length_take, List.length_drop, List.getElem?_take, List.getElem?_drop]
  by_cases hj : j = k
  · subst hj
    have e2 : j < min (j + 1) l.length := by omega
    have e3 : j < min j l.length + (m.length - j) := by omega
    simp [e2, e3, ng_get hk, show j < j + 1 from by omega]
  · by_cases hl : j < k
    · have e1 : j < min k l.length := by omega
      have e2 : j < min (k + 1) l.length := by omega
      simp [Ne.symm hj, e1, e2, hl, show j < k + 1 from by omega]
    · simp [Ne.symm hj, hl, show ¬ j < k + 1 from by omega, show min k l.length = k from by omega, show min (k + 1) l.length = k + 1 from by omega, show k + (j - k) = j from by omega, show k + 1 + (j - (k + 1)) = j from by omega]

theorem mix_put {l m : List Int} {k : Nat} {z : Int} (h : m.length = l.length) (hk : k < l.length) (hz : ng l k = z) : (mix l m k).set k z = mix l m (k + 1) := by rw [← hz]; exact mix_step h hk

theorem mix_done {l m : List Int} {n : Nat} (h : m.length = l.length) (hn : l.length = n) : mix l m n = l := by rw [← hn]; exact mix_all h

/-- n numbers from z on. -/
def upto (z : Int) (n : Nat) : List Int := (List.range n).map fun i : Nat => z + (i : Int)
theorem upto_len (z : Int) (n : Nat) : (upto z n).length = n := by simp [upto]
theorem upto_get {z : Int} {n k : Nat} (h : k < n) : ng (upto z n) k = z + (k : Int) := by simp [ng, upto, List.getD, h]
theorem results_tmp4 {fn : Func} {t u v x : Tmp} (h : fn.results = #[.tmp t, .tmp u, .tmp v, .tmp x]) (tmps : Array Value) (P : Program) (w : World) :
    (results fn tmps).run P w = .ok (.tuple #[tmps.getD t undef, tmps.getD u undef, tmps.getD v undef, tmps.getD x undef]) w := by simp [results, h]
theorem ng_snoc {l : List Int} {z : Int} {P : Int → Prop} (hz : P z) (h : ∀ j, j < l.length → P (ng l j)) : ∀ j, j < (l ++ [z]).length → P (ng (l ++ [z]) j) := fun j hj => by
  rcases (by simp at hj; omega : j < l.length ∨ j = l.length) with e | e
  · have := h j e
    rwa [ng_lt (by simp; omega), List.getElem_append_left e, ← ng_lt e]
  · subst e
    rw [ng_lt (by simp)]
    simpa using hz
theorem ng_set {l : List Int} {z : Int} {i j : Nat} (hj : j < l.length) : ng (l.set i z) j = if i = j then z else ng l j := by
  rw [ng_lt (by simpa using hj), List.getElem_set, ng_lt hj]
theorem take_next {l : List Int} {k : Nat} {z : Int} (h : k < l.length) (hz : ng l k = z) : l.take k ++ [z] = l.take (k + 1) := by
  rw [List.take_add_one, ng_get h, hz]; rfl
theorem take_len {l : List Int} {k : Nat} (h : k ≤ l.length) : (l.take k).length = k := by simp; omega
end Go.Proofs.Ytlfhfbeacleggab
