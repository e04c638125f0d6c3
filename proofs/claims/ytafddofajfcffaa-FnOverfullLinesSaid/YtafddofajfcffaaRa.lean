/- Several texts of one claim, one behind the other. -/
import Derived.Test.YtafddofajfcffaaRecA
import Derived.Test.YtafddofajfcffaaSp
import Derived.Deep.RegionLaw
import Derived.Test.YtafddofajfcffaaFrame
import Derived.Test.YtafddofajfcffaaGp
import Derived.Deep.CutRange
import Derived.RangeFuncWrites
import Derived.Deep.LoopGhost
import Derived.Test.YtafddofajfcffaaInts
import Derived.OwnWalkIn
/- append of one record at a step of a region that draws its order; records of four integers. It speaks of no program. -/
namespace Go.Proofs.Ytafddofajfcffaa
open Go.ChangeShapes Go.WideShapes Go.ChangeAt Go.RowKit
set_option linter.unusedVariables false

theorem step_append_rec {α : Type} [Rec α] {P : Program} {ops : Array Oper} {o : Oper} {a : Act} {K : Act → World → Prop} {Q : Exit → Act → World → Prop} {E : Prop} {w : World} (hgd : o.guard = none) (s x : Operand) (t : TypeId)
    (ho : o.op = .call { callee := .builtin .append, args := #[s, x], argTypes := #[t, t] })
    (e : TypeId) (i : TypeInfo) (zv : Value) (bytes : Nat) (ht : P.underlying t = some (.slice e)) (hi : P.info? e = some i) (hz : i.zero = some zv) (hsize : i.size = Rec.size α) (hby : i.bytes = bytes) (hzs : zv.cells.size = Rec.size α) (hbl : bytes ≤ 64)
    (B : Nat) (A : Option Addr) (c n : Nat) (L : List α) (hs : a.eval s = .slice A n c) (hn : n = L.length) (hown : TO w e B A c L)
    (b : Nat) (r : α) (hx : a.eval x = .slice (some ⟨b, 0, none⟩) 1 1) (h1 : ∀ u ∈ Rec.cells r, u.oneCell' = true) (hc : ∀ j, j < Rec.size α → w.cell? ⟨b, j, none⟩ = (Rec.cells r)[j]?) (hlen : n ≤ 1000000000000) (hB : B ≤ w.heap.size) (H : Nat) (hH : w.heap.size = H)
    (h : ∀ g' c' w', TO w' e B (some ⟨g', 0, none⟩) c' (L ++ [r]) → Below B w w' → w.grownBy w' (Value.slice A n c).ownBlock → ((Value.slice A n c).ownBlock = some g' ∨ g' = H) → g' < w'.heap.size → K (a.put o.dst (.slice (some ⟨g', 0, none⟩) (n + 1) c')) w') : if Region.wanted o (yielded ops a.tmps) = true then Oper.wp P o a w K Q else E := by
  subst hn
  refine step_append_lies w hgd s x t ho B e i zv (Rec.size α) bytes ht hi hz hsize hby hzs Rec.pos _ L.length (L.flatMap Rec.cells) hs hown ⟨b, 0, none⟩ 1 1 (Rec.cells r) hx (by rw [Rec.len, Nat.one_mul]) ?_ h1 (by decide) (by unfold maxLen; omega) ?_ hB H hH ?_
  · intro j u hj
    have hj2 : j < Rec.size α := by
      have := (List.getElem?_eq_some_iff.1 hj).1
      rwa [Rec.len] at this
    rw [← hj, ← hc j hj2]
    congr 1
    by_cases h0 : j = 0 <;> simp [Addr.add, h0]
  · have : (L.length + 1) * bytes ≤ (L.length + 1) * 64 := Nat.mul_le_mul_left _ hbl
    omega
  · intro g' cap w' hown' hgr hat hlt
    obtain ⟨A', c', he, hl, hol⟩ := TO.of_own (L := L ++ [r]) hown' (by simp)
    injection he with he _ he2
    subst he2
    subst he
    exact h g' _ w' hol ((Below.refl _ _).grown hgr hB (fun k hk => (hown.own_lt k hk).1)) hgr hat hlt
/-- A way: its place, its pieces, its cost, the way before it. -/
structure Wy where
  a : Int
  p : Int
  c : Int
  b : Int
instance : Rec Wy := ⟨4, by decide, fun x => [.int .i64 x.a, .int .i64 x.p, .int .i64 x.c, .int .i64 x.b], fun _ => rfl, ⟨0, 0, 0, 0⟩⟩
abbrev wyv (x : Wy) : Value := .agg #[.int .i64 x.a, .int .i64 x.p, .int .i64 x.c, .int .i64 x.b]
theorem TL.at4 {w : World} {A : Option Addr} {n : Nat} {L : List Wy} (h : TL w A n L) {i : Nat} (hi : i < n) : ∃ b o, A = some ⟨b, o, none⟩ ∧ b < w.heap.size ∧ w.cell? ⟨b, o + i * 4, none⟩ = some (.int .i64 (tg L i).a) ∧ w.cell? ⟨b, o + i * 4 + 1, none⟩ = some (.int .i64 (tg L i).p) ∧ w.cell? ⟨b, o + i * 4 + 2, none⟩ = some (.int .i64 (tg L i).c) ∧ w.cell? ⟨b, o + i * 4 + 3, none⟩ = some (.int .i64 (tg L i).b) := by
  obtain ⟨b, o, e, hb, hc⟩ := h.at_ hi
  exact ⟨b, o, e, hb, hc 0 (by decide), hc 1 (by decide), hc 2 (by decide), hc 3 (by decide)⟩
theorem ones4 (x : Wy) : ∀ u ∈ Rec.cells x, u.oneCell' = true := by
  intro u hu
  simp [Rec.cells] at hu
  rcases hu with rfl | rfl | rfl | rfl <;> rfl
theorem tgW_set {L : List Wy} {i j : Nat} {x : Wy} (hj : j < L.length) : tg (L.set i x) j = if i = j then x else tg L j := by
  rw [tg_lt (by simpa using hj), List.getElem_set, tg_lt hj]
theorem flat_set4 {L : List Wy} {i j : Nat} {x : Wy} {v : Value} (hi : i < L.length) (hj : j < 4) (hx : Rec.cells x = (Rec.cells (tg L i)).set j v) : (L.flatMap Rec.cells).set (i * 4 + j) v = (L.set i x).flatMap Rec.cells := by
  have hl : (L.flatMap Rec.cells).length = L.length * 4 := flat_len L
  have hl2 : ((L.set i x).flatMap Rec.cells).length = L.length * 4 := by have := flat_len (L.set i x); rw [List.length_set] at this; exact this
  apply List.ext_getElem?
  intro m
  by_cases hm : m < L.length * 4
  · obtain ⟨q, r, hr, rfl⟩ : ∃ q r, r < 4 ∧ m = q * 4 + r := ⟨m / 4, m % 4, Nat.mod_lt _ (by omega), by omega⟩
    have hq : q < L.length := by omega
    have e1 := flat_get (L.set i x) (i := q) (j := r) (by rw [List.length_set]; exact hq) (show r < Rec.size Wy from hr)
    have e2 := flat_get L (i := q) (j := r) hq (show r < Rec.size Wy from hr)
    rw [tgW_set hq] at e1
    change (List.flatMap Rec.cells (L.set i x))[q * 4 + r]? = _ at e1
    change (List.flatMap Rec.cells L)[q * 4 + r]? = _ at e2
    rw [e1, List.getElem?_set, hl]
    by_cases e : i = q
    · subst e
      rw [if_pos rfl, hx, List.getElem?_set]
      have hcl : (Rec.cells (tg L i)).length = 4 := Rec.len _
      by_cases e3 : j = r
      · subst e3
        rw [if_pos rfl, if_pos (by omega), if_pos rfl, if_pos (by omega)]
      · rw [if_neg (by omega), if_neg e3, e2]
    · rw [if_neg (by omega), if_neg e, e2]
  · rw [List.getElem?_eq_none (by rw [List.length_set]; omega), List.getElem?_eq_none (by omega)]
theorem TO.set4 {w : World} {e : TypeId} {B g c : Nat} {L : List Wy} (h : TO w e B (some ⟨g, 0, none⟩) c L) {i j : Nat} {x : Wy} {v : Value} (hi : i < L.length) (hj : j < 4) (hx : Rec.cells x = (Rec.cells (tg L i)).set j v) : TO (w.setCell ⟨g, i * 4 + j, none⟩ v) e B (some ⟨g, 0, none⟩) c (L.set i x) := by
  have s0 := (World.ownsRow.stored h (i * 4 + j) v).1
  rw [flat_set4 hi hj hx] at s0
  unfold TO
  rw [List.length_set]
  exact s0
/-- A store of a whole way. -/
theorem TO.put4 {w : World} {e : TypeId} {B g c : Nat} {L : List Wy} (h : TO w e B (some ⟨g, 0, none⟩) c L) {i : Nat} (x : Wy) (hi : i < L.length) :
    TO ((((w.setCell ⟨g, i * 4, none⟩ (.int .i64 x.a)).setCell ⟨g, i * 4 + 1, none⟩ (.int .i64 x.p)).setCell ⟨g, i * 4 + 2, none⟩ (.int .i64 x.c)).setCell ⟨g, i * 4 + 3, none⟩ (.int .i64 x.b)) e B (some ⟨g, 0, none⟩) c (L.set i x) := by
  obtain ⟨y, hy⟩ : ∃ y, y = tg L i := ⟨_, rfl⟩
  have h1 := h.set4 (j := 0) (x := ⟨x.a, y.p, y.c, y.b⟩) (v := .int .i64 x.a) hi (by decide) (by rw [← hy]; rfl)
  have h2 := h1.set4 (i := i) (j := 1) (x := ⟨x.a, x.p, y.c, y.b⟩) (v := .int .i64 x.p) (by rw [List.length_set]; exact hi) (by decide) (by rw [tgW_set hi, if_pos rfl]; rfl)
  rw [List.set_set] at h2
  have h3 := h2.set4 (i := i) (j := 2) (x := ⟨x.a, x.p, x.c, y.b⟩) (v := .int .i64 x.c) (by rw [List.length_set]; exact hi) (by decide) (by rw [tgW_set hi, if_pos rfl]; rfl)
  rw [List.set_set] at h3
  have h4 := h3.set4 (i := i) (j := 3) (x := x) (v := .int .i64 x.b) (by rw [List.length_set]; exact hi) (by decide) (by rw [tgW_set hi, if_pos rfl]; rfl)
  rw [List.set_set] at h4
  exact h4
end Go.Proofs.Ytafddofajfcffaa

/- The search for the least way: a way is offered. -/
namespace Go.Proofs.Ytafddofajfcffaa
open Go.ChangeShapes Go.WideShapes Go.ChangeAt Go.RowKit
set_option linter.unusedVariables false
set_option maxRecDepth 4000

/-- What a way that is offered does to the ways with the same end. -/
def offT (cnt : Bool) (x : Wy) : List Wy → List Wy
  | [] => [x]
  | y :: ys => if cnt = true ∧ y.p ≠ x.p then y :: offT cnt x ys else if x.c < y.c then x :: ys else y :: ys
/-- The first k ways have other numbers of pieces. -/
def Skp (cnt : Bool) (x : Wy) (l : List Wy) (k : Nat) : Prop := ∀ j, j < k → cnt = true ∧ (tg l j).p ≠ x.p
theorem tg_consW {y : Wy} {l : List Wy} (j : Nat) : tg (y :: l) (j + 1) = tg l j := rfl
theorem offT_skip {cnt : Bool} {x : Wy} : ∀ {l : List Wy} {k : Nat}, k ≤ l.length → Skp cnt x l k → offT cnt x l = l.take k ++ offT cnt x (l.drop k)
  | l, 0, _, _ => by simp
  | [], k + 1, h, _ => by simp at h
  | y :: l, k + 1, h, hs => by
    have h0 := hs 0 (by omega)
    have ih := offT_skip (cnt := cnt) (x := x) (l := l) (k := k) (by simpa using h) (fun j hj => hs (j + 1) (by omega))
    have h0' : cnt = true ∧ y.p ≠ x.p := h0
    simp only [offT]
    rw [if_pos h0', ih]
    rfl
theorem drop_tgW {l : List Wy} {k : Nat} (h : k < l.length) : l.drop k = tg l k :: l.drop (k + 1) := by
  rw [tg_lt h]; exact List.drop_eq_getElem_cons h
theorem offT_set {cnt : Bool} {x : Wy} {l : List Wy} {k : Nat} (hk : k < l.length) (hs : Skp cnt x l k) (hn : ¬ (cnt = true ∧ (tg l k).p ≠ x.p)) (hc : x.c < (tg l k).c) : offT cnt x l = l.set k x := by
  rw [offT_skip (Nat.le_of_lt hk) hs, drop_tgW hk]
  simp only [offT]
  rw [if_neg hn, if_pos hc, List.set_eq_take_append_cons_drop, if_pos hk]
theorem offT_stay {cnt : Bool} {x : Wy} {l : List Wy} {k : Nat} (hk : k < l.length) (hs : Skp cnt x l k) (hn : ¬ (cnt = true ∧ (tg l k).p ≠ x.p)) (hc : (tg l k).c ≤ x.c) : offT cnt x l = l := by
  rw [offT_skip (Nat.le_of_lt hk) hs, drop_tgW hk]
  simp only [offT]
  rw [if_neg hn, if_neg (by omega), ← drop_tgW hk, List.take_append_drop]
theorem offT_end {cnt : Bool} {x : Wy} {l : List Wy} (hs : Skp cnt x l l.length) : offT cnt x l = l ++ [x] := by
  rw [offT_skip (Nat.le_refl _) hs, List.take_length, List.drop_length]
  rfl
theorem offT_len {cnt : Bool} {x : Wy} : ∀ {l : List Wy}, l.length ≤ (offT cnt x l).length ∧ (offT cnt x l).length ≤ l.length + 1
  | [] => by simp [offT]
  | y :: l => by
    have := offT_len (cnt := cnt) (x := x) (l := l)
    simp only [offT]
    split
    · simp; omega
    · split <;> simp
/-- The search at block S: its ways, the first active one, whether they are counted. -/
structure WSt (u : World) (B S : Nat) (ws : List Wy) (act : Nat) (cnt : Bool) : Prop where
  hB : B ≤ S
  hS : S < u.heap.size
  c1 : u.cell? ⟨S, 1, none⟩ = some (.int .i64 act)
  f1 : u.frozen? ⟨S, 1, none⟩ = false
  c2 : u.cell? ⟨S, 2, none⟩ = some (.bool cnt)
  f0 : u.frozen? ⟨S, 0, none⟩ = false
  own : ∃ g c, u.cell? ⟨S, 0, none⟩ = some (.slice (some ⟨g, 0, none⟩) ws.length c) ∧ g ≠ S ∧ TO u 152 B (some ⟨g, 0, none⟩) c ws
section
variable {u u' : World} {B S act n : Nat} {ws : List Wy} {cnt : Bool}
theorem WSt.below (h : WSt u B S ws act cnt) (hb : Below n u u') (hn : u.heap.size ≤ n) : WSt u' B S ws act cnt := by
  have hb := hb.mono hn
  obtain ⟨g, c, h1, h2, h3⟩ := h.own
  exact ⟨h.hB, Nat.lt_of_lt_of_le h.hS hb.size, keep_cell hb h.c1, (hb.frozen (p := ⟨S, 1, none⟩) h.hS).trans h.f1, keep_cell hb h.c2, (hb.frozen (p := ⟨S, 0, none⟩) h.hS).trans h.f0, g, c, keep_cell hb h1, h2, h3.below hb⟩
theorem WSt.drewN (h : WSt u B S ws act cnt) (k : Nat) : WSt (u.drewN k) B S ws act cnt := h.below (bl_drewN (bl_refl u) k) (Nat.le_refl _)
theorem WSt.drew (h : WSt u B S ws act cnt) : WSt u.drew B S ws act cnt := h.below (bl_drew (bl_refl u)) (Nat.le_refl _)
theorem WSt.alloc (h : WSt u B S ws act cnt) (o : Obj) : WSt (u.alloc o) B S ws act cnt := h.below (bl_alloc (bl_refl u) o) (Nat.le_refl _)
end
theorem on_setW (v : World) (S : Nat) (x : Value) : v.grownBy (v.setCell ⟨S, 0, none⟩ x) (some S) :=
  on_set' (World.grownBy.refl v (some S)) (.inl rfl) x
theorem WSt.put {u : World} {B S act n c g i : Nat} {ws : List Wy} {cnt : Bool} (h : WSt u B S ws act cnt) (hc : u.cell? ⟨S, 0, none⟩ = some (.slice (some ⟨g, 0, none⟩) n c)) (hi : i < ws.length) (x : Wy) :
    WSt ((((u.setCell ⟨g, i * 4, none⟩ (.int .i64 x.a)).setCell ⟨g, i * 4 + 1, none⟩ (.int .i64 x.p)).setCell ⟨g, i * 4 + 2, none⟩ (.int .i64 x.c)).setCell ⟨g, i * 4 + 3, none⟩ (.int .i64 x.b)) B S (ws.set i x) act cnt ∧
    Below B u ((((u.setCell ⟨g, i * 4, none⟩ (.int .i64 x.a)).setCell ⟨g, i * 4 + 1, none⟩ (.int .i64 x.p)).setCell ⟨g, i * 4 + 2, none⟩ (.int .i64 x.c)).setCell ⟨g, i * 4 + 3, none⟩ (.int .i64 x.b)) := by
  obtain ⟨g', c', h1, h2, h3⟩ := h.own
  rw [hc] at h1
  injection h1 with h1
  injection h1 with h1 h4 h5
  injection h1 with h1
  injection h1 with h1
  subst h1
  subst h5
  subst h4
  obtain ⟨g', e, hBg, _⟩ := h3.form (by omega)
  cases e
  have hne : ∀ (o1 o2 : Nat), (⟨g, o1, none⟩ : Addr) ≠ ⟨S, o2, none⟩ := fun o1 o2 e => by cases e; exact h2 rfl
  refine ⟨⟨h.hB, by simpa [World.setCell] using h.hS, ?_, ?_, ?_, ?_, g, c, ?_, h2, ?_⟩, ?_⟩
  · exact keep_set (keep_set (keep_set (keep_set h.c1 (hne _ _).symm _) (hne _ _).symm _) (hne _ _).symm _) (hne _ _).symm _
  · simp only [World.frozen?_setCell]; exact h.f1
  · exact keep_set (keep_set (keep_set (keep_set h.c2 (hne _ _).symm _) (hne _ _).symm _) (hne _ _).symm _) (hne _ _).symm _
  · simp only [World.frozen?_setCell]; exact h.f0
  · rw [List.length_set]
    exact keep_set (keep_set (keep_set (keep_set hc (hne _ _).symm _) (hne _ _).symm _) (hne _ _).symm _) (hne _ _).symm _
  · exact h3.put4 x hi
  · exact ((((Below.refl _ _).setCell (p := ⟨g, i * 4, none⟩) hBg _).setCell (p := ⟨g, i * 4 + 1, none⟩) hBg _).setCell (p := ⟨g, i * 4 + 2, none⟩) hBg _).setCell (p := ⟨g, i * 4 + 3, none⟩) hBg _
/-- A slice of ways that has grown, stored into the search. -/
theorem WSt.app {u v : World} {B S act c g c' g' : Nat} {ws : List Wy} {cnt : Bool} {o : Obj} {x : Wy} {n : Nat} (h : WSt u B S ws act cnt) (hc : u.cell? ⟨S, 0, none⟩ = some (.slice (some ⟨g, 0, none⟩) n c))
    (ho : TO v 152 B (some ⟨g', 0, none⟩) c' (ws ++ [x])) (hb : Below B (u.alloc o) v) (hg : (u.alloc o).grownBy v (Value.slice (some ⟨g, 0, none⟩) n c).ownBlock) (hat : (Value.slice (some ⟨g, 0, none⟩) n c).ownBlock = some g' ∨ g' = (u.alloc o).heap.size) :
    WSt (v.setCell ⟨S, 0, none⟩ (.slice (some ⟨g', 0, none⟩) (n + 1) c')) B S (ws ++ [x]) act cnt ∧ Below B (u.alloc o) (v.setCell ⟨S, 0, none⟩ (.slice (some ⟨g', 0, none⟩) (n + 1) c')) := by
  obtain ⟨g0, c0, h1, h2, h3⟩ := h.own
  rw [hc] at h1
  injection h1 with h1
  injection h1 with h1 h4 h5
  injection h1 with h1
  injection h1 with h1
  subst h1
  subst h5
  subst h4
  have hS := h.hS
  have hz := hg.size
  simp at hz
  have hgS : g' ≠ S := by
    rcases hat with e | e
    · have : (Value.slice (some ⟨g, 0, none⟩) ws.length c).ownBlock = some g := rfl
      rw [this] at e
      cases e
      exact h2
    · simp at e; omega
  have hA := h.alloc o
  have hne : some S ≠ (Value.slice (some ⟨g, 0, none⟩) ws.length c).ownBlock := by
    have : (Value.slice (some ⟨g, 0, none⟩) ws.length c).ownBlock = some g := rfl
    rw [this]
    intro e
    cases e
    exact h2 rfl
  have hk : ∀ j, v.cell? ⟨S, j, none⟩ = (u.alloc o).cell? ⟨S, j, none⟩ := fun j => hg.cell_far ⟨S, j, none⟩ (by show S < _; simp; omega) hne
  have hf : ∀ j, v.frozen? ⟨S, j, none⟩ = (u.alloc o).frozen? ⟨S, j, none⟩ := fun j => hg.frozen_far ⟨S, j, none⟩ (by show S < _; simp; omega) hne
  have hlen : (ws ++ [x]).length = ws.length + 1 := by simp
  refine ⟨⟨h.hB, by simp; omega, ?_, ?_, ?_, ?_, g', c', ?_, hgS, ?_⟩, hb.setCell h.hB _⟩
  · exact keep_set ((hk 1).trans hA.c1) (by intro e; cases e) _
  · rw [World.frozen?_setCell, hf]; exact hA.f1
  · exact keep_set ((hk 2).trans hA.c2) (by intro e; cases e) _
  · rw [World.frozen?_setCell, hf]; exact hA.f0
  · rw [hlen]
    exact World.cell?_setCell_same' _ _ _ (by rw [hk 0, keep_alloc hc o]; rfl)
  · have hbs : Below B v (v.setCell ⟨S, 0, none⟩ (.slice (some ⟨g', 0, none⟩) (ws.length + 1) c')) := (Below.refl _ _).setCell h.hB _
    exact ho.kept (on_setW v S _) (fun k hk e => by
      have : (Value.slice (some ⟨g', 0, none⟩) (ws ++ [x]).length c').ownBlock = some g' := rfl
      rw [this] at hk
      cases hk
      cases e
      exact hgS rfl)
theorem tg_appW {hd tl : List Wy} {k : Nat} : tg (hd ++ tl) (hd.length + k) = tg tl k := by
  have h : ¬ hd.length + k < hd.length := by omega
  simp [tg, List.getD, List.getElem?_append, h]
theorem set_appW {hd tl : List Wy} {k : Nat} {x : Wy} : (hd ++ tl).set (hd.length + k) x = hd ++ tl.set k x := by simp
theorem ko_below {W W' : World} (h : Below W.heap.size W W') : KeepsOthers W W' := ⟨h.size, fun k o hk _ => (h.block k (Array.getElem?_eq_some_iff.1 hk).1).trans hk⟩
section
variable {w W W' : World}
theorem ko_refl (w : World) : KeepsOthers w w := KeepsOthers.refl w
theorem ko_alloc (h : KeepsOthers w W) (o : Obj) : KeepsOthers w (W.alloc o) := h.trans (ko_below (bl_alloc (bl_refl W) o))
theorem ko_drewN (h : KeepsOthers w W) (n : Nat) : KeepsOthers w (W.drewN n) := h.trans (ko_below (bl_drewN (bl_refl W) n))
theorem ko_drew (h : KeepsOthers w W) : KeepsOthers w W.drew := h.trans (ko_below (bl_drew (bl_refl W)))
theorem ko_set (h : KeepsOthers w W) (p : Addr) (v : Value) : KeepsOthers w (W.setCell p v) := h.trans (KeepsOthers.setCell _ _ _)
theorem ko_grown {α : Type} [Rec α] {e : TypeId} {B c : Nat} {A : Option Addr} {L : List α} (ho : TO w e B A c L) (hg : w.grownBy W (Value.slice A L.length c).ownBlock) : KeepsOthers w W :=
  ⟨hg.size, fun k o hk hc => by
    refine (hg.block k (Array.getElem?_eq_some_iff.1 hk).1 (fun e => ?_)).trans hk
    rcases ho.2 with ⟨h0, _⟩ | ⟨g, cap, cur, h1, h2, h3, _⟩
    · rw [h0] at e; cases e
    · rw [h1] at e
      cases e
      rw [h3] at hk
      cases hk
      cases hc⟩
end
theorem way_info : (Try.prog.info? 152).map (fun i => (i.zero, i.size, i.bytes)) = some (some (.agg #[.int .i64 0, .int .i64 0, .int .i64 0, .int .i64 0]), 4, 32) := by kernel_rfl
set_option maxHeartbeats 4000000 in
theorem offer_i (w : World) (B S : Nat) (hd tl : List Wy) (act : Nat) (cnt : Bool) (x : Wy) (hs : WSt w B S (hd ++ tl) act cnt) (h0 : 0 < hd.length) (hl : (hd ++ tl).length ≤ 1000000) :
    Calls Try.prog 160 #[.pointer (some ⟨S, 0, none⟩), wyv x, .int .i64 hd.length] w fun e w' => (∃ v, e = .returned v) ∧ WSt w' B S (hd ++ offT cnt x tl) act cnt ∧ Below B w w' ∧ KeepsOthers w w' := by
  obtain ⟨i0, hi0, jz0, jz1, jz2⟩ := info_parts way_info
  obtain ⟨xa, xp, xc, xb⟩ := x
  have hS := hs.hS
  have hB := hs.hB
  have c1 := keep_alloc hs.c1 (.cells #[.int .i64 xa, .int .i64 xp, .int .i64 xc, .int .i64 xb] 152)
  have c2 := keep_alloc hs.c2 (.cells #[.int .i64 xa, .int .i64 xp, .int .i64 xc, .int .i64 xb] 152)
  have f0 : (w.alloc (.cells #[.int .i64 xa, .int .i64 xp, .int .i64 xc, .int .i64 xb] 152)).frozen? ⟨S, 0, none⟩ = false := ((bcell (bl_alloc (bl_refl w) (.cells #[.int .i64 xa, .int .i64 xp, .int .i64 xc, .int .i64 xb] 152))).2 S 0 hS).trans hs.f0
  obtain ⟨g, c, c0', hgS, hto'⟩ := hs.own
  have c0 := keep_alloc c0' (.cells #[.int .i64 xa, .int .i64 xp, .int .i64 xc, .int .i64 xb] 152)
  have hto := hide (hto'.alloc (.cells #[.int .i64 xa, .int .i64 xp, .int .i64 xc, .int .i64 xb] 152))
  have hgw : g < w.heap.size := by
    obtain ⟨g', e, _, h2, _⟩ := hto'.form (by simp; omega)
    cases e
    exact h2
  have hgB : B ≤ g := by
    obtain ⟨g', e, h2, _⟩ := hto'.form (by simp; omega)
    cases e
    exact h2
  have HS := hide (hs.alloc (.cells #[.int .i64 xa, .int .i64 xp, .int .i64 xc, .int .i64 xb] 152))
  clear c0' hto' hs
  obtain ⟨N, hN⟩ : ∃ N, N = (hd ++ tl).length := ⟨_, rfl⟩
  have hNl : N = hd.length + tl.length := by rw [hN]; simp
  rw [← hN] at hl c0
  have HN := hide hNl
  clear hN hNl
  have E0 : (w.alloc (.cells #[.int .i64 xa, .int .i64 xp, .int .i64 xc, .int .i64 xb] 152)).cell? ⟨w.heap.size, 0, none⟩ = some (.int .i64 xa) := by simp [go_sem]
  have E1 : (w.alloc (.cells #[.int .i64 xa, .int .i64 xp, .int .i64 xc, .int .i64 xb] 152)).cell? ⟨w.heap.size, 1, none⟩ = some (.int .i64 xp) := by simp [go_sem]
  have E2 : (w.alloc (.cells #[.int .i64 xa, .int .i64 xp, .int .i64 xc, .int .i64 xb] 152)).cell? ⟨w.heap.size, 2, none⟩ = some (.int .i64 xc) := by simp [go_sem]
  have E3 : (w.alloc (.cells #[.int .i64 xa, .int .i64 xp, .int .i64 xc, .int .i64 xb] 152)).cell? ⟨w.heap.size, 3, none⟩ = some (.int .i64 xb) := by simp [go_sem]
  go_enter Try.func160, Try.ntmps160
  go_wp2
  go_loopw [6] (fun i u => ∃ (k n : Nat), k ≤ tl.length ∧ i = .int .i64 ((hd.length + k : Nat) : Int) ∧ Skp cnt ⟨xa, xp, xc, xb⟩ tl k ∧ (w.alloc (.cells #[.int .i64 xa, .int .i64 xp, .int .i64 xc, .int .i64 xb] 152)).drewN n = u) (fun i _ => N - (intOf i).toNat)
  case atStart => exact ⟨0, 0, by omega, by simp, fun j hj => by omega, rfl⟩
  case round =>
    obtain ⟨k, n, hk, rfl, hsk, rfl⟩ := hrel
    have SK := hide hsk
    clear hsk
    by_cases hlt : k < tl.length
    · obtain ⟨b, o, he, hbl, d0, d1, d2, d3⟩ := hto.out.reads.at4 (i := hd.length + k) (by simp; omega)
      injection he with he
      cases he
      rw [tg_appW] at d0 d1 d2 d3
      have ST := hide (fun h => offT_set (cnt := cnt) (x := ⟨xa, xp, xc, xb⟩) hlt SK.out h)
      have SY := hide (fun h => offT_stay (cnt := cnt) (x := ⟨xa, xp, xc, xb⟩) hlt SK.out h)
      have SN := hide (fun (h : cnt = true ∧ (tg tl k).p ≠ xp) => show Skp cnt ⟨xa, xp, xc, xb⟩ tl (k + 1) from fun j hj => by
        rcases (by omega : j < k ∨ j = k) with e | e
        · exact SK.out j e
        · rw [e]; exact h)
      obtain ⟨y, hy⟩ : ∃ y, y = tg tl k := ⟨_, rfl⟩
      rw [← hy] at d0 d1 d2 d3 ST SY SN
      clear hy
      obtain ⟨ya, yp, yc, yb⟩ := y
      rw [Nat.zero_add] at d0 d1 d2 d3
      obtain ⟨m, hm⟩ : ∃ m, m = hd.length + k := ⟨_, rfl⟩
      rw [← hm] at d0 d1 d2 d3 ⊢
      have hfz : ∀ i, (w.alloc (.cells #[.int .i64 xa, .int .i64 xp, .int .i64 xc, .int .i64 xb] 152)).frozen? ⟨g, i, none⟩ = false := by
        obtain ⟨g', e, _, _, hfz⟩ := hto.out.frozen (by simp; omega)
        cases e
        exact hfz
      have hmN : m < N := by have := HN.out; omega
      have HM := hide hm
      clear hm
      by_cases hskip : cnt = true ∧ yp ≠ xp
      · obtain ⟨rfl, hne⟩ := hskip
        have M := hide (SN.out ⟨rfl, hne⟩)
        have q0 : (yp != xp) = true := by simp [hne]
        clear ST SY SN hne
        go_wp2
        go_quiet (fail)
        go_wp2
        go_roundw
        case rel => exact ⟨k + 1, _, by omega, by rw [HM.out]; go_num, M.out, rfl⟩
        case measure => simp [intOf]; omega
      rcases (by cases cnt
                 · exact .inl rfl
                 · right; refine ⟨rfl, ?_⟩; false_or_by_contra; rename_i h; exact hskip ⟨rfl, h⟩ : cnt = false ∨ cnt = true ∧ yp = xp) with rfl | ⟨rfl, hyp⟩
      · have NS := hide hskip
        clear hskip
        rcases (by omega : xc < yc ∨ yc ≤ xc) with q | q
        · have d0 : decide (xc < yc) = true := decide_eq_true q
          go_wp2
          go_quiet (fail)
          go_wp2
          go_quiet (fail)
          go_wp2
          go_region_with (fail)
          all_goals
            go_wp2
            refine bodyPost_ret (results_none rfl _ _ _) rfl ?_
            refine ⟨⟨_, rfl⟩, ?_, ?_, by repeat (first | with_reducible exact ko_refl _ | with_reducible refine ko_set ?_ _ _ | with_reducible refine ko_alloc ?_ _ | with_reducible refine ko_drewN ?_ _ | with_reducible refine ko_drew ?_)⟩
            · rw [ST.out NS.out q, ← set_appW, ← HM.out]
              refine (WSt.put ?_ (by simpa [go_sem] using c0) (by simp; have := HN.out; omega) ⟨xa, xp, xc, xb⟩).1
              repeat (first | exact HS.out | with_reducible refine WSt.drewN ?_ _ | with_reducible refine WSt.drew ?_)
            · refine Below.trans ?_ (WSt.put (act := act) (cnt := false) (ws := hd ++ tl) ?_ (by simpa [go_sem] using c0) (by simp; have := HN.out; omega) ⟨xa, xp, xc, xb⟩).2
              · refine Below.mono (B := w.heap.size) ?_ (by omega); (repeat' (first | with_reducible exact bl_refl _ | with_reducible assumption | with_reducible refine bl_alloc ?_ _ | with_reducible refine bl_set ?_ ?_ _ | with_reducible refine bl_drewN ?_ _ | with_reducible refine bl_drew ?_ | with_reducible refine bl_call (by assumption) ?_))
              · repeat (first | exact HS.out | with_reducible refine WSt.drewN ?_ _ | with_reducible refine WSt.drew ?_)
        · have d0 : decide (xc < yc) = false := decide_eq_false (by omega)
          have E := hide (SY.out NS.out q)
          go_wp2
          go_quiet (fail)
          go_wp2
          go_quiet (fail)
          go_wp2
          refine bodyPost_ret (results_none rfl _ _ _) rfl ?_
          rw [E.out]
          refine ⟨⟨_, rfl⟩, ?_, ?_, by repeat (first | with_reducible exact ko_refl _ | with_reducible refine ko_set ?_ _ _ | with_reducible refine ko_alloc ?_ _ | with_reducible refine ko_drewN ?_ _ | with_reducible refine ko_drew ?_)⟩
          · repeat (first | exact HS.out | with_reducible refine WSt.drewN ?_ _ | with_reducible refine WSt.drew ?_)
          · refine Below.mono (B := w.heap.size) ?_ (by omega); (repeat' (first | with_reducible exact bl_refl _ | with_reducible assumption | with_reducible refine bl_alloc ?_ _ | with_reducible refine bl_set ?_ ?_ _ | with_reducible refine bl_drewN ?_ _ | with_reducible refine bl_drew ?_ | with_reducible refine bl_call (by assumption) ?_))
      · subst hyp
        have NS := hide hskip
        have q0 : (yp != yp) = false := by simp
        clear hskip
        rcases (by omega : xc < yc ∨ yc ≤ xc) with q | q
        · have d0 : decide (xc < yc) = true := decide_eq_true q
          go_wp2
          go_quiet (fail)
          go_wp2
          go_quiet (fail)
          go_wp2
          go_region_with (fail)
          all_goals
            go_wp2
            refine bodyPost_ret (results_none rfl _ _ _) rfl ?_
            refine ⟨⟨_, rfl⟩, ?_, ?_, by repeat (first | with_reducible exact ko_refl _ | with_reducible refine ko_set ?_ _ _ | with_reducible refine ko_alloc ?_ _ | with_reducible refine ko_drewN ?_ _ | with_reducible refine ko_drew ?_)⟩
            · rw [ST.out NS.out q, ← set_appW, ← HM.out]
              refine (WSt.put ?_ (by simpa [go_sem] using c0) (by simp; have := HN.out; omega) ⟨xa, yp, xc, xb⟩).1
              repeat (first | exact HS.out | with_reducible refine WSt.drewN ?_ _ | with_reducible refine WSt.drew ?_)
            · refine Below.trans ?_ (WSt.put (act := act) (cnt := true) (ws := hd ++ tl) ?_ (by simpa [go_sem] using c0) (by simp; have := HN.out; omega) ⟨xa, yp, xc, xb⟩).2
              · refine Below.mono (B := w.heap.size) ?_ (by omega); (repeat' (first | with_reducible exact bl_refl _ | with_reducible assumption | with_reducible refine bl_alloc ?_ _ | with_reducible refine bl_set ?_ ?_ _ | with_reducible refine bl_drewN ?_ _ | with_reducible refine bl_drew ?_ | with_reducible refine bl_call (by assumption) ?_))
              · repeat (first | exact HS.out | with_reducible refine WSt.drewN ?_ _ | with_reducible refine WSt.drew ?_)
        · have d0 : decide (xc < yc) = false := decide_eq_false (by omega)
          have E := hide (SY.out NS.out q)
          go_wp2
          go_quiet (fail)
          go_wp2
          go_quiet (fail)
          go_wp2
          refine bodyPost_ret (results_none rfl _ _ _) rfl ?_
          rw [E.out]
          refine ⟨⟨_, rfl⟩, ?_, ?_, by repeat (first | with_reducible exact ko_refl _ | with_reducible refine ko_set ?_ _ _ | with_reducible refine ko_alloc ?_ _ | with_reducible refine ko_drewN ?_ _ | with_reducible refine ko_drew ?_)⟩
          · repeat (first | exact HS.out | with_reducible refine WSt.drewN ?_ _ | with_reducible refine WSt.drew ?_)
          · refine Below.mono (B := w.heap.size) ?_ (by omega); (repeat' (first | with_reducible exact bl_refl _ | with_reducible assumption | with_reducible refine bl_alloc ?_ _ | with_reducible refine bl_set ?_ ?_ _ | with_reducible refine bl_drewN ?_ _ | with_reducible refine bl_drew ?_ | with_reducible refine bl_call (by assumption) ?_))
    · have hkl : k = tl.length := by omega
      have OE := hide (offT_end (cnt := cnt) (x := ⟨xa, xp, xc, xb⟩) (l := tl) (by rw [← hkl]; exact SK.out))
      have hmn : hd.length + k = N := by have := HN.out; omega
      have HL := hide (show N = (hd ++ tl).length by rw [List.length_append]; exact HN.out)
      rw [hmn]
      clear hkl hmn hk hlt SK
      have W0 := hide (show WSt ((w.alloc (.cells #[.int .i64 xa, .int .i64 xp, .int .i64 xc, .int .i64 xb] 152)).drewN n) B S (hd ++ tl) act cnt from HS.out.drewN n)
      have B0 := hide (show Below w.heap.size w ((w.alloc (.cells #[.int .i64 xa, .int .i64 xp, .int .i64 xc, .int .i64 xb] 152)).drewN n) from (by (repeat' (first | with_reducible exact bl_refl _ | with_reducible assumption | with_reducible refine bl_alloc ?_ _ | with_reducible refine bl_set ?_ ?_ _ | with_reducible refine bl_drewN ?_ _ | with_reducible refine bl_drew ?_ | with_reducible refine bl_call (by assumption) ?_)); (all_goals (first | omega | (simp; done) | (simp; omega)))))
      have K0 := hide (show KeepsOthers w ((w.alloc (.cells #[.int .i64 xa, .int .i64 xp, .int .i64 xc, .int .i64 xb] 152)).drewN n) from ko_drewN (ko_alloc (ko_refl w) _) n)
      have T0 := hide (show TO ((w.alloc (.cells #[.int .i64 xa, .int .i64 xp, .int .i64 xc, .int .i64 xb] 152)).drewN n) 152 B (some ⟨g, 0, none⟩) c (hd ++ tl) from hto.out)
      have hz : ((w.alloc (.cells #[.int .i64 xa, .int .i64 xp, .int .i64 xc, .int .i64 xb] 152)).drewN n).heap.size = w.heap.size + 1 := by simp
      obtain ⟨V, hV⟩ : ∃ V, V = (w.alloc (.cells #[.int .i64 xa, .int .i64 xp, .int .i64 xc, .int .i64 xb] 152)).drewN n := ⟨_, rfl⟩
      replace c0 : V.cell? ⟨S, 0, none⟩ = some (.slice (some ⟨g, 0, none⟩) N c) := by rw [hV]; exact c0
      replace f0 : V.frozen? ⟨S, 0, none⟩ = false := by rw [hV]; exact f0
      replace E0 : V.cell? ⟨w.heap.size, 0, none⟩ = some (.int .i64 xa) := by rw [hV]; exact E0
      replace E1 : V.cell? ⟨w.heap.size, 1, none⟩ = some (.int .i64 xp) := by rw [hV]; exact E1
      replace E2 : V.cell? ⟨w.heap.size, 2, none⟩ = some (.int .i64 xc) := by rw [hV]; exact E2
      replace E3 : V.cell? ⟨w.heap.size, 3, none⟩ = some (.int .i64 xb) := by rw [hV]; exact E3
      rw [← hV] at W0 B0 T0 K0 hz ⊢
      have hSV : S < V.heap.size := by omega
      have hgV : g < V.heap.size := by omega
      have hne : some S ≠ (Value.slice (some ⟨g, 0, none⟩) N c).ownBlock := by
        have : (Value.slice (some ⟨g, 0, none⟩) N c).ownBlock = some g := rfl
        rw [this]
        intro e
        cases e
        exact hgS rfl
      clear hV c1 c2 HS hto hz
      go_wp2
      go_region_law (refine step_append_rec (r := ⟨xa, xp, xc, xb⟩) rfl (.tmp 56) (.tmp 58) _ rfl 152 i0 _ 32 Try.underlying153 hi0 jz0 jz1 jz2 rfl (by decide) B (some ⟨g, 0, none⟩) c N (hd ++ tl) rfl HL.out (T0.out.drew.alloc _) V.heap.size rfl (ones4 _) (by intro j hj; have hj' : j < 4 := hj; rcases (by omega : j = 0 ∨ j = 1 ∨ j = 2 ∨ j = 3) with rfl | rfl | rfl | rfl <;> simp [go_sem, Rec.cells]) (by omega) (by simp; omega) _ rfl ?_; intro g' c' w1 hol' hb' hg' hat' hlt'; have k0 := (hg'.cell_far ⟨S, 0, none⟩ (by show S < _; simp; omega) hne).trans (keep_alloc (W := V.drew) c0 _); have kf := (hg'.frozen_far ⟨S, 0, none⟩ (by show S < _; simp; omega) hne).trans (((bcell (bl_alloc (bl_refl V.drew) (.cells #[.int .i64 xa, .int .i64 xp, .int .i64 xc, .int .i64 xb] 152))).2 S 0 hSV).trans f0))
      all_goals
        go_wp2
        go_end0
        have P := WSt.app (W0.out.drew) c0 hol' hb' hg' hat'
        rw [OE.out, ← List.append_assoc]
        exact ⟨⟨_, rfl⟩, P.1, ((Below.mono (bl_alloc (bl_drew B0.out) _) (by omega)).trans P.2), ko_set (KeepsOthers.trans (ko_alloc (ko_drew K0.out) _) (ko_grown (T0.out.drew.alloc _) (by rw [← HL.out]; exact hg'))) _ _⟩
end Go.Proofs.Ytafddofajfcffaa

/- The search for the least way: all ways are extended to a place. -/
namespace Go.Proofs.Ytafddofajfcffaa
open Go.ChangeShapes Go.WideShapes Go.ChangeAt Go.RowKit
set_option linter.unusedVariables false
set_option maxRecDepth 4000

/-- The way that goes on from the i-th to a place. -/
def nxW (C : Int → Int → Int → Int × Bool) (tt : Int) (hd : List Wy) (i : Nat) : Wy := ⟨tt, (tg hd i).p + 1, (tg hd i).c + (C (tg hd i).p (tg hd i).a tt).1, i⟩
def stW (C : Int → Int → Int → Int × Bool) (cnt : Bool) (tt : Int) (hd : List Wy) (i : Nat) (tl : List Wy) : List Wy :=
  if (C (tg hd i).p (tg hd i).a tt).2 = true then offT cnt (nxW C tt hd i) tl else tl
/-- What k ways from the i-th on add. -/
def extT (C : Int → Int → Int → Int × Bool) (cnt : Bool) (tt : Int) (hd : List Wy) : Nat → Nat → List Wy → List Wy
  | 0, _, tl => tl
  | k + 1, i, tl => extT C cnt tt hd k (i + 1) (stW C cnt tt hd i tl)
def extR (C : Int → Int → Int → Int × Bool) (cnt : Bool) (tt : Int) (hd : List Wy) (act : Nat) : List Wy := extT C cnt tt hd (hd.length - act) act []
theorem stW_len {C : Int → Int → Int → Int × Bool} {cnt : Bool} {tt : Int} {hd : List Wy} {i : Nat} {tl : List Wy} : tl.length ≤ (stW C cnt tt hd i tl).length ∧ (stW C cnt tt hd i tl).length ≤ tl.length + 1 := by
  unfold stW
  split
  · exact offT_len
  · omega
theorem extT_len {C : Int → Int → Int → Int × Bool} {cnt : Bool} {tt : Int} {hd : List Wy} : ∀ {k i : Nat} {tl : List Wy}, tl.length ≤ (extT C cnt tt hd k i tl).length ∧ (extT C cnt tt hd k i tl).length ≤ tl.length + k
  | 0, i, tl => by simp [extT]
  | k + 1, i, tl => by
    have h1 := stW_len (C := C) (cnt := cnt) (tt := tt) (hd := hd) (i := i) (tl := tl)
    have h2 := extT_len (C := C) (cnt := cnt) (tt := tt) (hd := hd) (k := k) (i := i + 1) (tl := stW C cnt tt hd i tl)
    simp only [extT]
    omega
theorem tg_left {l m : List Wy} {k : Nat} (h : k < l.length) : tg (l ++ m) k = tg l k := by
  rw [tg_lt (by simp; omega), tg_lt h, List.getElem_append_left h]
end Go.Proofs.Ytafddofajfcffaa

/- The least way among several, and its ends. -/
namespace Go.Proofs.Ytafddofajfcffaa
open Go.ChangeShapes Go.WideShapes Go.ChangeAt Go.RowKit
set_option linter.unusedVariables false
set_option linter.unusedSimpArgs false
set_option maxRecDepth 4000

/-- The order of numbers. -/
def cmpI (x y : Int) : Int := if x < y then -1 else if y < x then 1 else 0
def orI (x y : Int) : Int := if x ≠ 0 then x else y
def cmW (x y : Wy) : Int := orI (cmpI x.c y.c) (cmpI x.p y.p)
/-- The first least way. -/
def minW (m : Wy) : List Wy → Wy
  | [] => m
  | x :: l => minW (if cmW x m < 0 then x else m) l
theorem isNaN_i (x : Int) (w : World) : Calls Try.prog 161 #[.int .i64 x] w fun e w' => e = .returned (.bool false) ∧ w' = w := by
  go_enter Try.func161, Try.ntmps161
  go_wp2
  go_ret
  exact ⟨by simp, rfl⟩
theorem Compare_i (x y : Int) (w : World) : Calls Try.prog 142 #[.int .i64 x, .int .i64 y] w fun e w' => e = .returned (.int .i64 (cmpI x y)) ∧ w' = w := by
  have N := fun (x : Int) => isNaN_i x w
  rcases (by omega : x < y ∨ y < x ∨ x = y) with h | h | h
  · have E := hide (show cmpI x y = -1 by unfold cmpI; rw [if_pos h])
    go_enter Try.func142, Try.ntmps142
    go_wp2_with (go_at_call 161; (with_reducible refine (N _).mono ?_); rintro e w' ⟨rfl, rfl⟩)
    go_ret
    exact ⟨int_ret E.out.symm, rfl⟩
  · have E := hide (show cmpI x y = 1 by unfold cmpI; rw [if_neg (by omega), if_pos h])
    go_enter Try.func142, Try.ntmps142
    go_wp2_with (go_at_call 161; (with_reducible refine (N _).mono ?_); rintro e w' ⟨rfl, rfl⟩)
    go_ret
    exact ⟨int_ret E.out.symm, rfl⟩
  · subst h
    have E := hide (show cmpI x x = 0 by unfold cmpI; rw [if_neg (by omega), if_neg (by omega)])
    go_enter Try.func142, Try.ntmps142
    go_wp2_with (go_at_call 161; (with_reducible refine (N _).mono ?_); rintro e w' ⟨rfl, rfl⟩)
    go_ret
    exact ⟨int_ret E.out.symm, rfl⟩
theorem Or_i (x y : Int) (b : Nat) (w : World) (h0 : w.cell? ⟨b, 0, none⟩ = some (.int .i64 x)) (h1 : w.cell? ⟨b, 1, none⟩ = some (.int .i64 y)) : Calls Try.prog 141 #[.slice (some ⟨b, 0, none⟩) 2 2] w fun e w' => e = .returned (.int .i64 (orI x y)) ∧ w' = w := by
  have E1 := hide (fun (h : x ≠ 0) => show orI x y = x from if_pos h)
  have E2 := hide (fun (h : x = 0) => show orI x y = y from if_neg (by omega))
  obtain ⟨z, hz⟩ : ∃ z, z = orI x y := ⟨_, rfl⟩
  rw [← hz] at E1 E2 ⊢
  clear hz
  go_enter Try.func141, Try.ntmps141
  go_wp2
  go_loop [8] (fun i => ∃ p : Nat, p ≤ 2 ∧ i = .int .i64 p ∧ (1 ≤ p → x = 0) ∧ (2 ≤ p → y = 0)) (fun i => 2 - (intOf i).toNat)
  case atStart => exact ⟨0, by omega, rfl, fun h => by omega, fun h => by omega⟩
  case round =>
    obtain ⟨p, hp, rfl, hx, hy⟩ := hrel
    rcases (by omega : p = 0 ∨ p = 1 ∨ p = 2) with rfl | rfl | rfl
    · by_cases q : x = 0
      · have q0 : (x != 0) = false := by simp [q]
        have Q := hide q
        clear q E1 E2 hx hy
        go_wp2
        go_round
        case rel => exact ⟨1, by omega, rfl, fun _ => Q.out, fun h => by omega⟩
        case measure => simp [intOf]
      · have q0 : (x != 0) = true := by simp [q]
        have E := hide (E1.out q)
        clear q E1 E2 hx hy
        go_wp2
        go_ret
        exact ⟨int_ret E.out.symm, rfl⟩
    · have X := hide (hx (by omega))
      have E := hide (E2.out X.out)
      by_cases q : y = 0
      · have q0 : (y != 0) = false := by simp [q]
        have Q := hide q
        clear q E1 E2 hx hy
        go_wp2
        go_round
        case rel => exact ⟨2, by omega, rfl, fun _ => X.out, fun h => Q.out⟩
        case measure => simp [intOf]
      · have q0 : (y != 0) = true := by simp [q]
        clear q E1 E2 hx hy
        go_wp2
        go_ret
        exact ⟨int_ret E.out.symm, rfl⟩
    · have E := hide (show z = 0 by rw [E2.out (hx (by omega))]; exact hy (by omega))
      clear E1 E2 hx hy
      go_wp2
      go_ret
      exact ⟨int_ret E.out.symm, rfl⟩
set_option maxHeartbeats 2000000 in
theorem cmpWay_i (x y : Wy) (w : World) : Calls Try.prog 140 #[wyv x, wyv y] w fun e w' => e = .returned (.int .i64 (cmW x y)) ∧ Below w.heap.size w w' := by
  obtain ⟨x1, x2, x3, x4⟩ := x
  obtain ⟨y1, y2, y3, y4⟩ := y
  have E := hide (show cmW ⟨x1, x2, x3, x4⟩ ⟨y1, y2, y3, y4⟩ = orI (cmpI x3 y3) (cmpI x2 y2) from rfl)
  have C1 := hide (fun (u : World) => Compare_i x3 y3 u)
  have C2 := hide (fun (u : World) => Compare_i x2 y2 u)
  obtain ⟨a, ha⟩ : ∃ a, a = cmpI x3 y3 := ⟨_, rfl⟩
  obtain ⟨b, hb⟩ : ∃ a, a = cmpI x2 y2 := ⟨_, rfl⟩
  rw [← ha] at C1 E
  rw [← hb] at C2 E
  rw [E.out]
  clear E ha hb
  obtain ⟨V, hV⟩ : ∃ V, V = (w.alloc (.cells #[.int .i64 x1, .int .i64 x2, .int .i64 x3, .int .i64 x4] 152)).alloc (.cells #[.int .i64 y1, .int .i64 y2, .int .i64 y3, .int .i64 y4] 152) := ⟨_, rfl⟩
  have hBV : Below w.heap.size w V := by rw [hV]; exact bl_alloc (bl_alloc (bl_refl _) _) _
  have e2 : V.cell? ⟨w.heap.size, 1, none⟩ = some (.int .i64 x2) := by rw [hV]; simp [go_sem]
  have e3 : V.cell? ⟨w.heap.size, 2, none⟩ = some (.int .i64 x3) := by rw [hV]; simp [go_sem]
  have f2 : V.cell? ⟨w.heap.size + 1, 1, none⟩ = some (.int .i64 y2) := by rw [hV]; simp [go_sem]
  have f3 : V.cell? ⟨w.heap.size + 1, 2, none⟩ = some (.int .i64 y3) := by rw [hV]; simp [go_sem]
  go_enter Try.func140, Try.ntmps140
  go_wp2_with fail
  rw [← hV]
  clear hV
  have hB := bl_drew (bl_refl V)
  refine wp_region_held_drew (S := fun u : World => Below V.heap.size V u) (by kernel_rfl) (hB) (fun hHeld => ?_)
  (first | (refine tkY (i := 0) (oi := ?_) (v := ?_) ?_ (by kernel_rfl) ?_ ?_ ?_ (by assumption) ?_; rotate_left 2; (next => simp only [tka, tkb, tkc]; rfl); (next => exact fun _ _ _ h => h); (next => rfl); (next => intro w hSw; (try dsimp only at hSw); go_simp; (try (with_reducible rfl)))) | (refine tkN (i := 0) (oi := ?_) ?_ (by kernel_rfl) ?_ ?_ (by assumption) ?_; rotate_left 1; (next => simp only [tka, tkb, tkc]; rfl); (next => exact fun _ _ _ h => h); (next => rfl))); (try simp only [Act.put, tkd, tke, tkf])
  refine tkY (i := 1) (oi := ?_) (v := ?_) ?_ (by kernel_rfl) ?_ ?_ ?_ (by assumption) ?_; rotate_left 2; (next => simp only [tka, tkb, tkc]; rfl); (next => exact fun _ _ _ h => h); (next => rfl); (next => intro w_ hSw; (try dsimp only at hSw); have e3 := keep_cell hSw e3; go_simp; (try (with_reducible rfl))); (try simp only [Act.put, tkd, tke, tkf])
  (first | (refine tkY (i := 2) (oi := ?_) (v := ?_) ?_ (by kernel_rfl) ?_ ?_ ?_ (by assumption) ?_; rotate_left 2; (next => simp only [tka, tkb, tkc]; rfl); (next => exact fun _ _ _ h => h); (next => rfl); (next => intro w hSw; (try dsimp only at hSw); go_simp; (try (with_reducible rfl)))) | (refine tkN (i := 2) (oi := ?_) ?_ (by kernel_rfl) ?_ ?_ (by assumption) ?_; rotate_left 1; (next => simp only [tka, tkb, tkc]; rfl); (next => exact fun _ _ _ h => h); (next => rfl))); (try simp only [Act.put, tkd, tke, tkf])
  refine tkY (i := 3) (oi := ?_) (v := ?_) ?_ (by kernel_rfl) ?_ ?_ ?_ (by assumption) ?_; rotate_left 2; (next => simp only [tka, tkb, tkc]; rfl); (next => exact fun _ _ _ h => h); (next => rfl); (next => intro w_ hSw; (try dsimp only at hSw); have f3 := keep_cell hSw f3; go_simp; (try (with_reducible rfl))); (try simp only [Act.put, tkd, tke, tkf])
  (first | (refine tkY (i := 5) (oi := ?_) (v := ?_) ?_ (by kernel_rfl) ?_ ?_ ?_ (by assumption) ?_; rotate_left 2; (next => simp only [tka, tkb, tkc]; rfl); (next => exact fun _ _ _ h => h); (next => rfl); (next => intro w hSw; (try dsimp only at hSw); go_simp; (try (with_reducible rfl)))) | (refine tkN (i := 5) (oi := ?_) ?_ (by kernel_rfl) ?_ ?_ (by assumption) ?_; rotate_left 1; (next => simp only [tka, tkb, tkc]; rfl); (next => exact fun _ _ _ h => h); (next => rfl))); (try simp only [Act.put, tkd, tke, tkf])
  refine tkY (i := 6) (oi := ?_) (v := ?_) ?_ (by kernel_rfl) ?_ ?_ ?_ (by assumption) ?_; rotate_left 2; (next => simp only [tka, tkb, tkc]; rfl); (next => exact fun _ _ _ h => h); (next => rfl); (next => intro w_ hSw; (try dsimp only at hSw); have e2 := keep_cell hSw e2; go_simp; (try (with_reducible rfl))); (try simp only [Act.put, tkd, tke, tkf])
  (first | (refine tkY (i := 7) (oi := ?_) (v := ?_) ?_ (by kernel_rfl) ?_ ?_ ?_ (by assumption) ?_; rotate_left 2; (next => simp only [tka, tkb, tkc]; rfl); (next => exact fun _ _ _ h => h); (next => rfl); (next => intro w hSw; (try dsimp only at hSw); go_simp; (try (with_reducible rfl)))) | (refine tkN (i := 7) (oi := ?_) ?_ (by kernel_rfl) ?_ ?_ (by assumption) ?_; rotate_left 1; (next => simp only [tka, tkb, tkc]; rfl); (next => exact fun _ _ _ h => h); (next => rfl))); (try simp only [Act.put, tkd, tke, tkf])
  refine tkY (i := 8) (oi := ?_) (v := ?_) ?_ (by kernel_rfl) ?_ ?_ ?_ (by assumption) ?_; rotate_left 2; (next => simp only [tka, tkb, tkc]; rfl); (next => exact fun _ _ _ h => h); (next => rfl); (next => intro w_ hSw; (try dsimp only at hSw); have f2 := keep_cell hSw f2; go_simp; (try (with_reducible rfl))); (try simp only [Act.put, tkd, tke, tkf])
  refine wpAnyH_ready (rs := [4]) (by kernel_rfl) (by simp) ?_; refine AllReadyH.cons (o := ?_) ?_ (fun K hK => ?_) AllReadyH.nil; rotate_left 1; (next => simp only [List.getElem?_toArray, List.getElem?_cons_succ, List.getElem?_cons_zero]; rfl); go_simp
  go_at_call 142
  (with_reducible refine (C1.out _).mono ?_)
  rintro e w' ⟨rfl, rfl⟩
  (try go_wp2_with fail); refine hK.out _ _ (hB) (fun hHeld => ?_); clear hK K; (try simp only [Act.put, List.setIfInBounds_toArray, List.set_cons_zero, List.set_cons_succ])
  refine wpAnyH_ready (rs := [9]) (by kernel_rfl) (by simp) ?_; refine AllReadyH.cons (o := ?_) ?_ (fun K hK => ?_) AllReadyH.nil; rotate_left 1; (next => simp only [List.getElem?_toArray, List.getElem?_cons_succ, List.getElem?_cons_zero]; rfl); go_simp
  go_at_call 142
  (with_reducible refine (C2.out _).mono ?_)
  rintro e w' ⟨rfl, rfl⟩
  (try go_wp2_with fail); refine hK.out _ _ (hB) (fun hHeld => ?_); clear hK K; (try simp only [Act.put, List.setIfInBounds_toArray, List.set_cons_zero, List.set_cons_succ])
  refine wpAnyH_ready (rs := [10]) (by kernel_rfl) (by simp) ?_; refine AllReadyH.cons (o := ?_) ?_ (fun K hK => ?_) AllReadyH.nil; rotate_left 1; (next => simp only [List.getElem?_toArray, List.getElem?_cons_succ, List.getElem?_cons_zero]; rfl); go_simp
  (try go_wp2_with fail); refine hK.out _ _ (bl_alloc hB _) (fun hHeld => ?_); clear hK K; (try simp only [Act.put, List.setIfInBounds_toArray, List.set_cons_zero, List.set_cons_succ])
  refine wpAnyH_ready (rs := [11]) (by kernel_rfl) (by simp) ?_; refine AllReadyH.cons (o := ?_) ?_ (fun K hK => ?_) AllReadyH.nil; rotate_left 1; (next => simp only [List.getElem?_toArray, List.getElem?_cons_succ, List.getElem?_cons_zero]; rfl); go_simp
  go_at_call 141
  (with_reducible refine (Or_i a b _ _ ?_ ?_).mono ?_)
  · simp [go_sem]
  · simp [go_sem]
  rintro e w' ⟨rfl, rfl⟩
  (try go_wp2_with fail); refine hK.out _ _ (bl_alloc hB _) (fun hHeld => ?_); clear hK K; (try simp only [Act.put, List.setIfInBounds_toArray, List.set_cons_zero, List.set_cons_succ])
  (first | (refine tkY (i := 12) (oi := ?_) (v := ?_) ?_ (by kernel_rfl) ?_ ?_ ?_ (by assumption) ?_; rotate_left 2; (next => simp only [tka, tkb, tkc]; rfl); (next => exact fun _ _ _ h => h); (next => rfl); (next => intro w hSw; (try dsimp only at hSw); go_simp; (try (with_reducible rfl)))) | (refine tkN (i := 12) (oi := ?_) ?_ (by kernel_rfl) ?_ ?_ (by assumption) ?_; rotate_left 1; (next => simp only [tka, tkb, tkc]; rfl); (next => exact fun _ _ _ h => h); (next => rfl))); (try simp only [Act.put, tkd, tke, tkf])
  refine wpAnyH_done (by kernel_rfl) ?_ _
  go_wp2
  go_ret
  exact ⟨rfl, bl_call (bl_alloc hB _) hBV⟩
/-- A way in a block of its own. -/
structure WyC (u : World) (b : Nat) (m : Wy) : Prop where
  k1 : u.cell? ⟨b, 0, none⟩ = some (.int .i64 m.a)
  k2 : u.cell? ⟨b, 1, none⟩ = some (.int .i64 m.p)
  k3 : u.cell? ⟨b, 2, none⟩ = some (.int .i64 m.c)
  k4 : u.cell? ⟨b, 3, none⟩ = some (.int .i64 m.b)
  fz : ∀ j, j < 4 → u.frozen? ⟨b, j, none⟩ = false
theorem WyC.below {u u' : World} {b n : Nat} {m : Wy} (h : WyC u b m) (hb : Below n u u') (hn : u.heap.size ≤ n) : WyC u' b m := by
  have hb := hb.mono hn
  have hl := World.block_lt_of_cell? u _ h.k1
  exact ⟨keep_cell hb h.k1, keep_cell hb h.k2, keep_cell hb h.k3, keep_cell hb h.k4, fun j hj => (hb.frozen (p := ⟨b, j, none⟩) hl).trans (h.fz j hj)⟩
theorem WyC.put {u : World} {b : Nat} {m : Wy} (h : WyC u b m) (x : Wy) : WyC ((((u.setCell ⟨b, 0, none⟩ (.int .i64 x.a)).setCell ⟨b, 1, none⟩ (.int .i64 x.p)).setCell ⟨b, 2, none⟩ (.int .i64 x.c)).setCell ⟨b, 3, none⟩ (.int .i64 x.b)) b x := by
  obtain ⟨k1, k2, k3, k4, kf⟩ := h
  refine ⟨?_, ?_, ?_, ?_, fun j hj => by simp only [World.frozen?_setCell]; exact kf j hj⟩
  · simp [go_sem, k1, k2, k3, k4]
  · simp [go_sem, k1, k2, k3, k4]
  · simp [go_sem, k1, k2, k3, k4]
  · simp [go_sem, k1, k2, k3, k4]
set_option maxHeartbeats 4000000 in
theorem MinFunc_i (w : World) (A : Option Addr) (n c : Nat) (E : List Wy) (hE : TL w A n E) (hn : 1 ≤ n) (hn2 : n ≤ 1000000) :
    Calls Try.prog 139 #[.slice A n c, .func (.func 140) #[] #[]] w fun e w' => e = .returned (wyv (minW (tg E 0) (E.drop 1))) ∧ Below w.heap.size w w' := by
  obtain rfl : n = E.length := hE.1
  obtain ⟨b, o, rfl, hbl, d0, d1, d2, d3⟩ := hE.at4 (i := 0) (by omega)
  have HE := hide hE
  have G0 := hide (show minW (tg E 0) (E.drop 1) = minW (tg E 0) (E.drop 1) from rfl)
  obtain ⟨R, hR⟩ : ∃ R, R = minW (tg E 0) (E.drop 1) := ⟨_, rfl⟩
  rw [← hR]
  have HR := hide hR
  clear hR hE
  have hm : tg E 0 = tg E 0 := rfl
  obtain ⟨m, hm⟩ : ∃ m, m = tg E 0 := ⟨_, rfl⟩
  rw [← hm] at HR d0 d1 d2 d3
  clear hm
  obtain ⟨m1, m2, m3, m4⟩ := m
  simp only [Nat.zero_mul, Nat.add_zero] at d0 d1 d2 d3
  go_enter Try.func139, Try.ntmps139
  go_wp2
  have hz0 : ((w.alloc (.cells #[.int .i64 0, .int .i64 0, .int .i64 0, .int .i64 0] 152)).alloc (.cells #[.int .i64 m1, .int .i64 m2, .int .i64 m3, .int .i64 m4] 152)).heap.size = w.heap.size + 2 := by simp
  have B0 : Below w.heap.size w ((w.alloc (.cells #[.int .i64 0, .int .i64 0, .int .i64 0, .int .i64 0] 152)).alloc (.cells #[.int .i64 m1, .int .i64 m2, .int .i64 m3, .int .i64 m4] 152)) := bl_alloc (bl_alloc (bl_refl _) _) _
  have z0 : ∀ j, j < 4 → ((w.alloc (.cells #[.int .i64 0, .int .i64 0, .int .i64 0, .int .i64 0] 152)).alloc (.cells #[.int .i64 m1, .int .i64 m2, .int .i64 m3, .int .i64 m4] 152)).cell? ⟨w.heap.size, j, none⟩ = some (.int .i64 0) ∧ ((w.alloc (.cells #[.int .i64 0, .int .i64 0, .int .i64 0, .int .i64 0] 152)).alloc (.cells #[.int .i64 m1, .int .i64 m2, .int .i64 m3, .int .i64 m4] 152)).frozen? ⟨w.heap.size, j, none⟩ = false := fun j hj => by
    rcases (by omega : j = 0 ∨ j = 1 ∨ j = 2 ∨ j = 3) with rfl | rfl | rfl | rfl <;> simp [go_sem]
  have m0 : WyC ((w.alloc (.cells #[.int .i64 0, .int .i64 0, .int .i64 0, .int .i64 0] 152)).alloc (.cells #[.int .i64 m1, .int .i64 m2, .int .i64 m3, .int .i64 m4] 152)) (w.heap.size + 1) ⟨m1, m2, m3, m4⟩ := by
    refine ⟨?_, ?_, ?_, ?_, fun j hj => ?_⟩
    · simp [go_sem]
    · simp [go_sem]
    · simp [go_sem]
    · simp [go_sem]
    · rcases (by omega : j = 0 ∨ j = 1 ∨ j = 2 ∨ j = 3) with rfl | rfl | rfl | rfl <;> simp [go_sem]
  obtain ⟨V, hV⟩ : ∃ V, V = (w.alloc (.cells #[.int .i64 0, .int .i64 0, .int .i64 0, .int .i64 0] 152)).alloc (.cells #[.int .i64 m1, .int .i64 m2, .int .i64 m3, .int .i64 m4] 152) := ⟨_, rfl⟩
  rw [← hV] at hz0 B0 z0 m0 ⊢
  have Z0 := hide z0
  have M0 := hide m0
  clear hV z0 m0 d0 d1 d2 d3
  go_loopw [6] (fun i u => ∃ (p : Nat) (m : Wy), 1 ≤ p ∧ p ≤ E.length ∧ i = .int .i64 p ∧ R = minW m (E.drop p) ∧ WyC u (w.heap.size + 1) m ∧ (∀ j, j < 4 → u.cell? ⟨w.heap.size, j, none⟩ = some (.int .i64 0) ∧ u.frozen? ⟨w.heap.size, j, none⟩ = false) ∧ w.heap.size + 2 ≤ u.heap.size ∧ Below w.heap.size w u) (fun i _ => E.length - (intOf i).toNat)
  case atStart => exact ⟨1, ⟨m1, m2, m3, m4⟩, by omega, hn, rfl, HR.out, M0.out, Z0.out, by omega, B0⟩
  case round =>
    obtain ⟨p, m, hp1, hp, rfl, hr, hm, hz, hzu, hbl⟩ := hrel
    have HRR := hide hr
    have HM := hide hm
    have HZ := hide hz
    have HBL := hide hbl
    obtain ⟨m1, m2, m3, m4⟩ := m
    obtain ⟨k1, k2, k3, k4, kf⟩ := hm
    simp only at k1 k2 k3 k4
    clear hr hz hbl
    by_cases hlt : p < E.length
    · obtain ⟨b', o', he, _, d0, d1, d2, d3⟩ := (HE.out.below HBL.out).at4 hlt
      injection he with he
      cases he
      have hbw : b < wr.heap.size := by have := HBL.out.size; omega
      have ex := drop_tgW hlt
      rw [ex] at HRR
      have CM := hide (fun (u : World) => cmpWay_i (tg E p) ⟨m1, m2, m3, m4⟩ u)
      have RL := hide (fun (h : cmW (tg E p) ⟨m1, m2, m3, m4⟩ < 0) => show minW ⟨m1, m2, m3, m4⟩ (tg E p :: E.drop (p + 1)) = minW (tg E p) (E.drop (p + 1)) by simp only [minW]; rw [if_pos h])
      have RG := hide (fun (h : 0 ≤ cmW (tg E p) ⟨m1, m2, m3, m4⟩) => show minW ⟨m1, m2, m3, m4⟩ (tg E p :: E.drop (p + 1)) = minW ⟨m1, m2, m3, m4⟩ (E.drop (p + 1)) by simp only [minW]; rw [if_neg (by omega)])
      obtain ⟨y, hy⟩ : ∃ y, y = tg E p := ⟨_, rfl⟩
      rw [← hy] at d0 d1 d2 d3 HRR CM RL RG
      clear hy ex
      obtain ⟨y1, y2, y3, y4⟩ := y
      simp only at d0 d1 d2 d3
      obtain ⟨z, hz⟩ : ∃ z, z = cmW ⟨y1, y2, y3, y4⟩ ⟨m1, m2, m3, m4⟩ := ⟨_, rfl⟩
      rw [← hz] at CM RL RG
      clear hz
      have hB := bl_drew (bl_refl wr)
      rcases (by omega : z < 0 ∨ 0 ≤ z) with q | q
      · have q0 : decide (z < 0) = true := decide_eq_true q
        have R1 := hide (HRR.out.trans (RL.out q))
        clear RL RG
        go_upto_region 7 with fail
        refine wp_region_held_drew (S := fun u : World => Below wr.heap.size wr u) (by kernel_rfl) (hB) (fun hHeld => ?_); (first | (refine tkY (i := 0) (oi := ?_) (v := ?_) ?_ (by kernel_rfl) ?_ ?_ ?_ (by assumption) ?_; rotate_left 2; (next => simp only [tka, tkb, tkc]; rfl); (next => exact fun _ _ _ h => h); (next => rfl); (next => intro w hSw; (try dsimp only at hSw); go_simp; (try (with_reducible rfl)))) | (refine tkN (i := 0) (oi := ?_) ?_ (by kernel_rfl) ?_ ?_ (by assumption) ?_; rotate_left 1; (next => simp only [tka, tkb, tkc]; rfl); (next => exact fun _ _ _ h => h); (next => rfl))); (try simp only [Act.put, tkd, tke, tkf]); (first | (refine tkY (i := 1) (oi := ?_) (v := ?_) ?_ (by kernel_rfl) ?_ ?_ ?_ (by assumption) ?_; rotate_left 2; (next => simp only [tka, tkb, tkc]; rfl); (next => exact fun _ _ _ h => h); (next => rfl); (next => intro w hSw; (try dsimp only at hSw); go_simp; (try (with_reducible rfl)))) | (refine tkN (i := 1) (oi := ?_) ?_ (by kernel_rfl) ?_ ?_ (by assumption) ?_; rotate_left 1; (next => simp only [tka, tkb, tkc]; rfl); (next => exact fun _ _ _ h => h); (next => rfl))); (try simp only [Act.put, tkd, tke, tkf]); (first | (refine tkY (i := 2) (oi := ?_) (v := ?_) ?_ (by kernel_rfl) ?_ ?_ ?_ (by assumption) ?_; rotate_left 2; (next => simp only [tka, tkb, tkc]; rfl); (next => exact fun _ _ _ h => h); (next => rfl); (next => intro w hSw; (try dsimp only at hSw); go_simp; (try (with_reducible rfl)))) | (refine tkN (i := 2) (oi := ?_) ?_ (by kernel_rfl) ?_ ?_ (by assumption) ?_; rotate_left 1; (next => simp only [tka, tkb, tkc]; rfl); (next => exact fun _ _ _ h => h); (next => rfl))); (try simp only [Act.put, tkd, tke, tkf]); (first | (refine tkY (i := 3) (oi := ?_) (v := ?_) ?_ (by kernel_rfl) ?_ ?_ ?_ (by assumption) ?_; rotate_left 2; (next => simp only [tka, tkb, tkc]; rfl); (next => exact fun _ _ _ h => h); (next => rfl); (next => intro w hSw; (try dsimp only at hSw); go_simp; (try (with_reducible rfl)))) | (refine tkN (i := 3) (oi := ?_) ?_ (by kernel_rfl) ?_ ?_ (by assumption) ?_; rotate_left 1; (next => simp only [tka, tkb, tkc]; rfl); (next => exact fun _ _ _ h => h); (next => rfl))); (try simp only [Act.put, tkd, tke, tkf]); refine tkY (i := 4) (oi := ?_) (v := ?_) ?_ (by kernel_rfl) ?_ ?_ ?_ (by assumption) ?_; rotate_left 2; (next => simp only [tka, tkb, tkc]; rfl); (next => exact fun _ _ _ h => h); (next => rfl); (next => intro w_ hSw; (try dsimp only at hSw); obtain ⟨d0, d1, d2, d3⟩ := (⟨keep_cell hSw d0, keep_cell hSw d1, keep_cell hSw d2, keep_cell hSw d3⟩ : _ ∧ _ ∧ _ ∧ _); go_simp; (try (with_reducible rfl))); (try simp only [Act.put, tkd, tke, tkf]); refine tkY (i := 5) (oi := ?_) (v := ?_) ?_ (by kernel_rfl) ?_ ?_ ?_ (by assumption) ?_; rotate_left 2; (next => simp only [tka, tkb, tkc]; rfl); (next => exact fun _ _ _ h => h); (next => rfl); (next => intro w_ hSw; (try dsimp only at hSw); obtain ⟨k1, k2, k3, k4⟩ := (⟨keep_cell hSw k1, keep_cell hSw k2, keep_cell hSw k3, keep_cell hSw k4⟩ : _ ∧ _ ∧ _ ∧ _); go_simp; (try (with_reducible rfl))); (try simp only [Act.put, tkd, tke, tkf]); refine wpAnyH_ready (rs := [6]) (by kernel_rfl) (by simp) ?_; refine AllReadyH.cons (o := ?_) ?_ (fun K hK => ?_) AllReadyH.nil; rotate_left 1; (next => simp only [List.getElem?_toArray, List.getElem?_cons_succ, List.getElem?_cons_zero]; rfl); go_simp; go_at_call 140; (with_reducible refine (CM.out _).mono ?_); rintro e u1 ⟨rfl, hb⟩; have hb1 := bl_undrew hb; have hz1 := hb1.size; (try go_wp2_with fail); refine hK.out _ _ (hb1) (fun hHeld => ?_); clear hK K; (try simp only [Act.put, List.setIfInBounds_toArray, List.set_cons_zero, List.set_cons_succ]); (first | (refine tkY (i := 7) (oi := ?_) (v := ?_) ?_ (by kernel_rfl) ?_ ?_ ?_ (by assumption) ?_; rotate_left 2; (next => simp only [tka, tkb, tkc]; rfl); (next => exact fun _ _ _ h => h); (next => rfl); (next => intro w hSw; (try dsimp only at hSw); go_simp; (try (with_reducible rfl)))) | (refine tkN (i := 7) (oi := ?_) ?_ (by kernel_rfl) ?_ ?_ (by assumption) ?_; rotate_left 1; (next => simp only [tka, tkb, tkc]; rfl); (next => exact fun _ _ _ h => h); (next => rfl))); (try simp only [Act.put, tkd, tke, tkf]); refine wpAnyH_done (by kernel_rfl) ?_ _
        have d0 := keep_cell hb1 d0
        have d1 := keep_cell hb1 d1
        have d2 := keep_cell hb1 d2
        have d3 := keep_cell hb1 d3
        have MU := hide (HM.out.below hb1 (Nat.le_refl _))
        obtain ⟨k1, k2, k3, k4, kf⟩ := MU.out
        have kf0 := kf 0 (by omega)
        have kf1 := kf 1 (by omega)
        have kf2 := kf 2 (by omega)
        have kf3 := kf 3 (by omega)
        clear kf
        go_wp2
        go_roundw
        case rel =>
          refine ⟨p + 1, ⟨y1, y2, y3, y4⟩, by omega, by omega, by go_num, R1.out, MU.out.put ⟨y1, y2, y3, y4⟩, fun j hj => ⟨?_, ?_⟩, by simp; omega, bl_set (bl_set (bl_set (bl_set (bl_call hb1 HBL.out) (show w.heap.size ≤ w.heap.size + 1 by omega) _) (show w.heap.size ≤ w.heap.size + 1 by omega) _) (show w.heap.size ≤ w.heap.size + 1 by omega) _) (show w.heap.size ≤ w.heap.size + 1 by omega) _⟩
          · have hne : ∀ (o1 o2 : Nat), (⟨w.heap.size, o1, none⟩ : Addr) ≠ ⟨w.heap.size + 1, o2, none⟩ := fun o1 o2 e => by injection e with e; omega
            exact keep_set (keep_set (keep_set (keep_set (keep_cell hb1 (HZ.out j hj).1) (hne _ _) _) (hne _ _) _) (hne _ _) _) (hne _ _) _
          · simp only [World.frozen?_setCell]
            exact (hb1.frozen (p := ⟨w.heap.size, j, none⟩) (show w.heap.size < wr.heap.size by omega)).trans (HZ.out j hj).2
        case measure => simp [intOf]; omega
      · have q0 : decide (z < 0) = false := decide_eq_false (by omega)
        have R1 := hide (HRR.out.trans (RG.out q))
        clear RL RG
        go_upto_region 7 with fail
        refine wp_region_held_drew (S := fun u : World => Below wr.heap.size wr u) (by kernel_rfl) (hB) (fun hHeld => ?_); (first | (refine tkY (i := 0) (oi := ?_) (v := ?_) ?_ (by kernel_rfl) ?_ ?_ ?_ (by assumption) ?_; rotate_left 2; (next => simp only [tka, tkb, tkc]; rfl); (next => exact fun _ _ _ h => h); (next => rfl); (next => intro w hSw; (try dsimp only at hSw); go_simp; (try (with_reducible rfl)))) | (refine tkN (i := 0) (oi := ?_) ?_ (by kernel_rfl) ?_ ?_ (by assumption) ?_; rotate_left 1; (next => simp only [tka, tkb, tkc]; rfl); (next => exact fun _ _ _ h => h); (next => rfl))); (try simp only [Act.put, tkd, tke, tkf]); (first | (refine tkY (i := 1) (oi := ?_) (v := ?_) ?_ (by kernel_rfl) ?_ ?_ ?_ (by assumption) ?_; rotate_left 2; (next => simp only [tka, tkb, tkc]; rfl); (next => exact fun _ _ _ h => h); (next => rfl); (next => intro w hSw; (try dsimp only at hSw); go_simp; (try (with_reducible rfl)))) | (refine tkN (i := 1) (oi := ?_) ?_ (by kernel_rfl) ?_ ?_ (by assumption) ?_; rotate_left 1; (next => simp only [tka, tkb, tkc]; rfl); (next => exact fun _ _ _ h => h); (next => rfl))); (try simp only [Act.put, tkd, tke, tkf]); (first | (refine tkY (i := 2) (oi := ?_) (v := ?_) ?_ (by kernel_rfl) ?_ ?_ ?_ (by assumption) ?_; rotate_left 2; (next => simp only [tka, tkb, tkc]; rfl); (next => exact fun _ _ _ h => h); (next => rfl); (next => intro w hSw; (try dsimp only at hSw); go_simp; (try (with_reducible rfl)))) | (refine tkN (i := 2) (oi := ?_) ?_ (by kernel_rfl) ?_ ?_ (by assumption) ?_; rotate_left 1; (next => simp only [tka, tkb, tkc]; rfl); (next => exact fun _ _ _ h => h); (next => rfl))); (try simp only [Act.put, tkd, tke, tkf]); (first | (refine tkY (i := 3) (oi := ?_) (v := ?_) ?_ (by kernel_rfl) ?_ ?_ ?_ (by assumption) ?_; rotate_left 2; (next => simp only [tka, tkb, tkc]; rfl); (next => exact fun _ _ _ h => h); (next => rfl); (next => intro w hSw; (try dsimp only at hSw); go_simp; (try (with_reducible rfl)))) | (refine tkN (i := 3) (oi := ?_) ?_ (by kernel_rfl) ?_ ?_ (by assumption) ?_; rotate_left 1; (next => simp only [tka, tkb, tkc]; rfl); (next => exact fun _ _ _ h => h); (next => rfl))); (try simp only [Act.put, tkd, tke, tkf]); refine tkY (i := 4) (oi := ?_) (v := ?_) ?_ (by kernel_rfl) ?_ ?_ ?_ (by assumption) ?_; rotate_left 2; (next => simp only [tka, tkb, tkc]; rfl); (next => exact fun _ _ _ h => h); (next => rfl); (next => intro w_ hSw; (try dsimp only at hSw); obtain ⟨d0, d1, d2, d3⟩ := (⟨keep_cell hSw d0, keep_cell hSw d1, keep_cell hSw d2, keep_cell hSw d3⟩ : _ ∧ _ ∧ _ ∧ _); go_simp; (try (with_reducible rfl))); (try simp only [Act.put, tkd, tke, tkf]); refine tkY (i := 5) (oi := ?_) (v := ?_) ?_ (by kernel_rfl) ?_ ?_ ?_ (by assumption) ?_; rotate_left 2; (next => simp only [tka, tkb, tkc]; rfl); (next => exact fun _ _ _ h => h); (next => rfl); (next => intro w_ hSw; (try dsimp only at hSw); obtain ⟨k1, k2, k3, k4⟩ := (⟨keep_cell hSw k1, keep_cell hSw k2, keep_cell hSw k3, keep_cell hSw k4⟩ : _ ∧ _ ∧ _ ∧ _); go_simp; (try (with_reducible rfl))); (try simp only [Act.put, tkd, tke, tkf]); refine wpAnyH_ready (rs := [6]) (by kernel_rfl) (by simp) ?_; refine AllReadyH.cons (o := ?_) ?_ (fun K hK => ?_) AllReadyH.nil; rotate_left 1; (next => simp only [List.getElem?_toArray, List.getElem?_cons_succ, List.getElem?_cons_zero]; rfl); go_simp; go_at_call 140; (with_reducible refine (CM.out _).mono ?_); rintro e u1 ⟨rfl, hb⟩; have hb1 := bl_undrew hb; have hz1 := hb1.size; (try go_wp2_with fail); refine hK.out _ _ (hb1) (fun hHeld => ?_); clear hK K; (try simp only [Act.put, List.setIfInBounds_toArray, List.set_cons_zero, List.set_cons_succ]); (first | (refine tkY (i := 7) (oi := ?_) (v := ?_) ?_ (by kernel_rfl) ?_ ?_ ?_ (by assumption) ?_; rotate_left 2; (next => simp only [tka, tkb, tkc]; rfl); (next => exact fun _ _ _ h => h); (next => rfl); (next => intro w hSw; (try dsimp only at hSw); go_simp; (try (with_reducible rfl)))) | (refine tkN (i := 7) (oi := ?_) ?_ (by kernel_rfl) ?_ ?_ (by assumption) ?_; rotate_left 1; (next => simp only [tka, tkb, tkc]; rfl); (next => exact fun _ _ _ h => h); (next => rfl))); (try simp only [Act.put, tkd, tke, tkf]); refine wpAnyH_done (by kernel_rfl) ?_ _
        go_wp2
        go_roundw
        case rel => exact ⟨p + 1, ⟨m1, m2, m3, m4⟩, by omega, by omega, by go_num, R1.out, HM.out.below hb1 (Nat.le_refl _), fun j hj => ⟨keep_cell hb1 (HZ.out j hj).1, (hb1.frozen (p := ⟨w.heap.size, j, none⟩) (show w.heap.size < wr.heap.size by omega)).trans (HZ.out j hj).2⟩, by omega, bl_call hb1 HBL.out⟩
        case measure => simp [intOf]; omega
    · obtain rfl : p = E.length := by omega
      have R1 := hide (show R = ⟨m1, m2, m3, m4⟩ by rw [HRR.out, List.drop_length]; rfl)
      have g0 := (HZ.out 0 (by omega)).1
      have g1 := (HZ.out 1 (by omega)).1
      have g2 := (HZ.out 2 (by omega)).1
      have g3 := (HZ.out 3 (by omega)).1
      have j0 := (HZ.out 0 (by omega)).2
      have j1 := (HZ.out 1 (by omega)).2
      have j2 := (HZ.out 2 (by omega)).2
      have j3 := (HZ.out 3 (by omega)).2
      go_wp2
      refine bodyPost_ret (v := wyv ⟨m1, m2, m3, m4⟩) (by simp [results, Try.results139, go_sem, *]) rfl ?_
      exact ⟨by rw [R1.out], bl_set (bl_set (bl_set (bl_set HBL.out (Nat.le_refl _) _) (Nat.le_refl _) _) (Nat.le_refl _) _) (Nat.le_refl _) _⟩
end Go.Proofs.Ytafddofajfcffaa

/- The ends of the pieces of a way. -/
namespace Go.Proofs.Ytafddofajfcffaa
open Go.ChangeShapes Go.WideShapes Go.ChangeAt Go.RowKit
set_option linter.unusedVariables false
set_option maxRecDepth 4000

/-- A way with n pieces, each of which goes on from one of the ways. -/
def OKw (ws : List Wy) : Nat → Wy → Prop
  | 0, x => x.p = 0
  | n + 1, x => x.p = ((n + 1 : Nat) : Int) ∧ ∃ i : Nat, x.b = i ∧ i < ws.length ∧ OKw ws n (tg ws i)
/-- The ends of its pieces. -/
def endL (ws : List Wy) : Nat → Wy → List Int
  | 0, _ => []
  | n + 1, x => endL ws n (tg ws x.b.toNat) ++ [x.a]
theorem endL_len {ws : List Wy} : ∀ {n : Nat} {x : Wy}, (endL ws n x).length = n
  | 0, _ => rfl
  | n + 1, x => by simp only [endL, List.length_append, endL_len]; rfl
theorem OKw.p {ws : List Wy} : ∀ {n : Nat} {x : Wy}, OKw ws n x → x.p = n
  | 0, _, h => h
  | n + 1, _, h => h.1
theorem rep_set {q : Nat} {S : List Int} {z : Int} : (List.replicate (q + 1) 0 ++ S).set q z = List.replicate q 0 ++ z :: S := by
  rw [show List.replicate (q + 1) (0 : Int) = List.replicate q 0 ++ [0] by rw [List.replicate_succ'], List.append_assoc]
  simp
set_option maxHeartbeats 4000000 in
theorem endsOf_i (w : World) (B S : Nat) (ws : List Wy) (act N : Nat) (cnt : Bool) (x : Wy) (hs : WSt w B S ws act cnt) (hx : OKw ws N x) (hl : ws.length ≤ 1000000) (hN : N ≤ 1000000) :
    Calls Try.prog 143 #[.pointer (some ⟨S, 0, none⟩), wyv x] w fun e w' => ∃ A c, e = .returned (.slice A N c) ∧ OL w' 3 w.heap.size A c (endL ws N x) ∧ Below w.heap.size w w' := by
  obtain ⟨i0, hi0, hz0, hz1, hz2⟩ := info_parts int_info
  have HX := hide hx
  have hp := hx.p
  obtain ⟨x1, x2, x3, x4⟩ := x
  obtain rfl : x2 = (N : Int) := hp
  have HS0 := hide hs
  have hSz := hs.hS
  have WC : WyC (w.alloc (.cells #[.int .i64 x1, .int .i64 N, .int .i64 x3, .int .i64 x4] 152)) w.heap.size ⟨x1, N, x3, x4⟩ := by
    refine ⟨?_, ?_, ?_, ?_, fun j hj => ?_⟩
    · simp [go_sem]
    · simp [go_sem]
    · simp [go_sem]
    · simp [go_sem]
    · rcases (by omega : j = 0 ∨ j = 1 ∨ j = 2 ∨ j = 3) with rfl | rfl | rfl | rfl <;> simp [go_sem]
  have HW := hide WC
  clear hs hx WC
  go_enter Try.func143, Try.ntmps143
  go_wp2_with (refine wpList_make_full _ rfl _ _ _ rfl (w.heap.size + 1) 3 i0 _ 1 Try.underlying24 hi0 hz0 hz1 .i64 .i64 _ _ N rfl rfl rfl rfl (by rw [hz2]; omega) (by unfold maxLen; omega) (by simp) ?_; intro w1 hown hgr)
  have H0 : Hid (OL w1 3 (w.heap.size + 1) (some ⟨w.heap.size + 1, 0, none⟩) N (List.replicate N 0 ++ [])) := hide (by
    rw [List.append_nil]
    unfold OL
    have e1 : (madeCells (Value.int .i64 0).cells N).toList = List.replicate N (.int .i64 0) := toList_madeCells_one _ _
    simp only [Nat.mul_one, e1] at hown
    simpa using hown)
  have hb1 : Below w.heap.size w w1 := (bl_alloc (bl_refl w) _).trans ((below_new hgr).mono (by simp))
  have hw1 := hide (HW.out.below (below_new hgr) (Nat.le_refl _))
  have hz1' := (World.ownsRow.lt hown (w.heap.size + 1) (by simp [Value.ownBlock])).2
  have HS := hide (show WSt w B S ws act cnt from HS0.out)
  clear hown hgr HW
  go_loopg [] N (fun q u => ∃ (x : Wy) (L : List Int), OKw ws q x ∧ q ≤ N ∧ endL ws N ⟨x1, N, x3, x4⟩ = endL ws q x ++ L ∧ q + L.length = N ∧ WyC u w.heap.size x ∧ OL u 3 (w.heap.size + 1) (some ⟨w.heap.size + 1, 0, none⟩) N (List.replicate q 0 ++ L) ∧ w.heap.size + 2 ≤ u.heap.size ∧ Below w.heap.size w u)
  case atStart => exact ⟨⟨x1, N, x3, x4⟩, [], HX.out, Nat.le_refl _, by rw [List.append_nil], by simp, hw1.out, H0.out, by omega, hb1⟩
  case round =>
    obtain ⟨x, L, hok, hq, hend, hlen, hwc, hol, hzu, hbl⟩ := hrel
    have OK := hide hok
    have EN := hide hend
    have LE := hide hlen
    have WC := hide hwc
    have HO := hide hol
    have BL := hide hbl
    have xp := hok.p
    obtain ⟨y1, y2, y3, y4⟩ := x
    obtain rfl : y2 = (gk : Int) := xp
    obtain ⟨k1, k2, k3, k4, kf⟩ := hwc
    simp only at k1 k2 k3 k4
    clear hok hend hlen hbl
    rcases Nat.eq_zero_or_pos gk with h0 | h0
    · subst h0
      have E1 := hide (show endL ws N ⟨x1, N, x3, x4⟩ = L by rw [EN.out]; rfl)
      have E2 : List.replicate 0 (0 : Int) ++ L = L := rfl
      have E3 := hide (show L.length = N by have := LE.out; omega)
      rw [E2] at hol
      clear E2 HO LE EN
      go_wp2
      go_ret
      exact ⟨_, N, rfl, by rw [E1.out]; exact hol.more (by omega), BL.out⟩
    · obtain ⟨n, rfl⟩ : ∃ n, gk = n + 1 := ⟨gk - 1, by omega⟩
      obtain ⟨i, hi, hil, hoi⟩ := OK.out.2
      obtain rfl : y4 = (i : Int) := hi
      have ek : (((n + 1 : Nat) : Int)) - 1 = (n : Int) := by omega
      have E1 := hide (show endL ws N ⟨x1, N, x3, x4⟩ = endL ws n (tg ws i) ++ y1 :: L by
        rw [EN.out]
        show (endL ws n (tg ws ((i : Int).toNat)) ++ [y1]) ++ L = _
        rw [Int.toNat_natCast, List.append_assoc]; rfl)
      have HOI := hide hoi
      have hlr := hide (show (List.replicate (n + 1) (0 : Int) ++ L).length = N by rw [List.length_append, List.length_replicate]; exact LE.out)
      have hnN : n < N := by have := LE.out; omega
      have HW := hide (HS.out.below BL.out (Nat.le_refl _))
      obtain ⟨g, c, c0, hgS, hto⟩ := (HS.out.below BL.out (Nat.le_refl _)).own
      have hgw : g < w.heap.size := by
        obtain ⟨g0, c0', h1, _, h3⟩ := HS.out.own
        have h4 := (BL.out.cell (p := ⟨S, 0, none⟩) hSz).trans h1
        rw [c0] at h4
        injection h4 with h4
        injection h4 with h4
        injection h4 with h4
        injection h4 with h4
        subst h4
        obtain ⟨g1, e, _, h5, _⟩ := h3.form (by omega)
        cases e
        exact h5
      obtain ⟨b, o, he, _, d0, d1, d2, d3⟩ := hto.reads.at4 hil
      injection he with he
      cases he
      have P := hide (HOI.out.p)
      obtain ⟨z, hz⟩ : ∃ z, z = tg ws i := ⟨_, rfl⟩
      rw [← hz] at d0 d1 d2 d3 HOI E1 P
      clear hz hoi OK EN
      obtain ⟨z1, z2, z3, z4⟩ := z
      obtain rfl : z2 = (n : Int) := P.out
      simp only [Nat.zero_add] at d0 d1 d2 d3
      have fz : wr.frozen? ⟨w.heap.size + 1, n, none⟩ = false := by
        obtain ⟨g', e, _, _, hfz⟩ := hol.frozen (by rw [hlr.out]; omega)
        cases e
        exact hfz n
      have kc : wr.cell? ⟨w.heap.size + 1, n, none⟩ = some (.int .i64 (ng (List.replicate (n + 1) 0 ++ L) n)) := by
        obtain ⟨b', o', e, _, h⟩ := hol.reads.at_ (i := n) (by rw [hlr.out]; omega)
        cases e
        rw [Nat.zero_add] at h
        exact h
      obtain ⟨M1, M2⟩ := hol.set_ n y1
      rw [rep_set] at M1
      have HM := hide M1
      have HM2 := hide M2
      have kf0 := kf 0 (by omega)
      have kf1 := kf 1 (by omega)
      have kf2 := kf 2 (by omega)
      have kf3 := kf 3 (by omega)
      obtain ⟨v0, hv0⟩ : ∃ v, v = ng (List.replicate (n + 1) 0 ++ L) n := ⟨_, rfl⟩
      rw [← hv0] at kc
      clear hol M1 M2 kf hto hv0 HO
      go_wp2
      have hne : ∀ (o1 o2 : Nat), (⟨w.heap.size, o1, none⟩ : Addr) ≠ ⟨w.heap.size + 1, o2, none⟩ := fun o1 o2 e => by injection e with e; omega
      have WD : WyC (wr.setCell ⟨w.heap.size + 1, n, none⟩ (.int .i64 y1)) w.heap.size ⟨y1, ((n + 1 : Nat) : Int), y3, (i : Int)⟩ :=
        ⟨keep_set WC.out.k1 (hne _ _) _, keep_set WC.out.k2 (hne _ _) _, keep_set WC.out.k3 (hne _ _) _, keep_set WC.out.k4 (hne _ _) _, fun j hj => by rw [World.frozen?_setCell]; exact WC.out.fz j hj⟩
      have HWD := hide WD
      have BD := hide (show Below w.heap.size w (wr.setCell ⟨w.heap.size + 1, n, none⟩ (.int .i64 y1)) from bl_set BL.out (show w.heap.size ≤ w.heap.size + 1 by omega) _)
      clear WD
      go_region_with (fail)
      all_goals
        go_wp2
        go_roundg n
        case measure => omega
        case rel =>
          refine ⟨⟨z1, n, z3, z4⟩, y1 :: L, HOI.out, ?_, E1.out, ?_, ?_, ?_, ?_, ?_⟩
          · omega
          · have := LE.out
            simp
            omega
          · exact (HWD.out.put ⟨z1, n, z3, z4⟩).below (bl_drew (bl_refl _)) (Nat.le_refl _)
          rotate_left
          · simp
            omega
          · exact bl_drew (bl_set (bl_set (bl_set (bl_set BD.out (Nat.le_refl _) _) (Nat.le_refl _) _) (Nat.le_refl _) _) (Nat.le_refl _) _)
          have G0 := World.grownBy.refl (wr.setCell ⟨w.heap.size + 1, n, none⟩ (.int .i64 y1)) (some w.heap.size)
          have G1 := on_set' G0 (p := ⟨w.heap.size, 0, none⟩) (.inl rfl) (.int .i64 z1)
          have G2 := on_set' G1 (p := ⟨w.heap.size, 1, none⟩) (.inl rfl) (.int .i64 (n : Int))
          have G3 := on_set' G2 (p := ⟨w.heap.size, 2, none⟩) (.inl rfl) (.int .i64 z3)
          have G4 := on_set' G3 (p := ⟨w.heap.size, 3, none⟩) (.inl rfl) (.int .i64 z4)
          have K := HM.out.kept G4 (fun k hk e => by
            have h1 : (Value.slice (some ⟨w.heap.size + 1, 0, none⟩) (List.replicate n 0 ++ y1 :: L).length N).ownBlock = some (w.heap.size + 1) := rfl
            rw [h1] at hk
            cases hk
            injection e with e
            omega)
          exact K.drew
end Go.Proofs.Ytafddofajfcffaa

/- The search for the least way: all ways are extended to a break of a paragraph. -/
namespace Go.Proofs.Ytafddofajfcffaa
open Go.ChangeShapes Go.WideShapes Go.ChangeAt Go.RowKit
set_option linter.unusedVariables false
set_option maxRecDepth 4000

set_option maxHeartbeats 4000000 in
theorem extend_lines (w : World) (B S : Nat) (hd : List Wy) (act : Nat) (cnt : Bool) (tt : Int) (C : Int → Int → Int → Int × Bool) (q1 q2 q3 : Value) (hs : WSt w B S hd act cnt) (h0 : 0 < hd.length) (hl : hd.length ≤ 100000) (ha : act ≤ hd.length)
    (hb : ∀ i, i < hd.length → (0 ≤ (tg hd i).p ∧ (tg hd i).p ≤ 1000000) ∧ (-1000000000000000 ≤ (tg hd i).c ∧ (tg hd i).c ≤ 1000000000000000)) (hM : ∀ i a b, -1000000000000 ≤ (C i a b).1 ∧ (C i a b).1 ≤ 1000000000000)
    (HC : ∀ u, Below B w u → ∀ i, act ≤ i → i < hd.length → Calls Try.prog 128 #[.int .i64 (tg hd i).p, .int .i64 (tg hd i).a, .int .i64 tt, q1, q2, q3] u fun e u' => e = .returned (.tuple #[.int .i64 (C (tg hd i).p (tg hd i).a tt).1, .bool (C (tg hd i).p (tg hd i).a tt).2]) ∧ Below u.heap.size u u') :
    Calls Try.prog 138 #[.pointer (some ⟨S, 0, none⟩), .int .i64 tt, .func (.func 128) #[] #[q1, q2, q3]] w fun e w' => (∃ v, e = .returned v) ∧ WSt w' B S (hd ++ extR C cnt tt hd act) act cnt ∧ Below B w w' ∧ KeepsOthers w w' := by
  have HHC := hide HC
  have HB := hide hb
  have HS0 := hide hs
  have hBS := hs.hB
  have c1 := hs.c1
  obtain ⟨g, c, c0, _, _⟩ := hs.own
  have W0 := hide (show WSt w B S (hd ++ []) act cnt by rw [List.append_nil]; exact hs)
  clear HC hb hs
  go_enter Try.func138, Try.ntmps138
  go_wp2
  clear c0 c1
  go_loopw [7] (fun i u => ∃ (k m : Nat) (tl : List Wy), act ≤ k ∧ k + m = hd.length ∧ i = .int .i64 k ∧ extR C cnt tt hd act = extT C cnt tt hd m k tl ∧ tl.length ≤ k ∧ WSt u B S (hd ++ tl) act cnt ∧ Below B w u ∧ KeepsOthers w u) (fun i _ => hd.length - (intOf i).toNat)
  case atStart => exact ⟨act, hd.length - act, [], Nat.le_refl _, by omega, rfl, rfl, by simp, W0.out, Below.refl _ _, ko_refl _⟩
  case round =>
    obtain ⟨k, m, tl, hak, hkm, rfl, hex, htl, hws, hbl, hko⟩ := hrel
    have HKO := hide hko
    have HE := hide hex
    have HW := hide hws
    have HBL := hide hbl
    have hSz := hws.hS
    have hlen := hide (show (hd ++ tl).length = hd.length + tl.length by simp)
    obtain ⟨g, c, c0, hgS, hto⟩ := hws.own
    clear hex hws hbl hko
    rcases Nat.eq_zero_or_pos m with hm | hm
    · subst hm
      obtain rfl : k = hd.length := by omega
      go_wp2
      go_end0
      exact ⟨⟨_, rfl⟩, by rw [HE.out]; exact HW.out, HBL.out, HKO.out⟩
    · have hlt : k < hd.length := by omega
      obtain ⟨m', rfl⟩ : ∃ m', m = m' + 1 := ⟨m - 1, by omega⟩
      obtain ⟨b, o, he, hbl, d0, d1, d2, d3⟩ := hto.reads.at4 (i := k) (by simp; omega)
      injection he with he
      cases he
      rw [tg_left hlt] at d0 d1 d2 d3
      have HCk := hide (fun (u : World) (h : Below B w u) => HHC.out u h k hak hlt)
      obtain ⟨⟨p0, p1⟩, ⟨b0, b1⟩⟩ := HB.out k hlt
      have YES := hide (fun (h : (C (tg hd k).p (tg hd k).a tt).2 = true) => show stW C cnt tt hd k tl = offT cnt (nxW C tt hd k) tl from if_pos h)
      have NO := hide (fun (h : (C (tg hd k).p (tg hd k).a tt).2 = false) => show stW C cnt tt hd k tl = tl from if_neg (by rw [h]; simp))
      have hMk := hM (tg hd k).p (tg hd k).a tt
      have NX := hide (show nxW C tt hd k = ⟨tt, (tg hd k).p + 1, (tg hd k).c + (C (tg hd k).p (tg hd k).a tt).1, k⟩ from rfl)
      rw [NX.out] at YES
      obtain ⟨y, hy⟩ : ∃ y, y = tg hd k := ⟨_, rfl⟩
      rw [← hy] at d0 d1 d2 d3 HCk p0 p1 b0 b1 YES NO hMk
      clear hy NX
      obtain ⟨ya, yp, yc, yb⟩ := y
      rw [Nat.zero_add] at d0 d1 d2 d3
      have ex : extT C cnt tt hd (m' + 1) k tl = extT C cnt tt hd m' (k + 1) (stW C cnt tt hd k tl) := rfl
      have EX := hide ex
      clear ex hto
      obtain ⟨v, hv⟩ : ∃ v, v = (C yp ya tt).1 := ⟨_, rfl⟩
      obtain ⟨fl, hfl⟩ : ∃ v, v = (C yp ya tt).2 := ⟨_, rfl⟩
      simp only at HCk YES NO p0 p1 b0 b1 hMk
      rw [← hv, ← hfl] at HCk
      rw [← hv, ← hfl] at YES
      rw [← hfl] at NO
      rw [← hv] at hMk
      clear hv hfl
      have hBw : B ≤ wr.heap.size := by omega
      go_wp2_with fail
      (with_reducible refine (HCk.out _ (HBL.out.alloc hBw _)).mono ?_)
      rintro e u1 ⟨rfl, hb1⟩
      have W1 := hide ((HW.out.alloc _).below hb1 (Nat.le_refl _))
      have KO1 := hide (HKO.out.trans ((ko_alloc (ko_refl wr) _).trans (ko_below hb1)))
      have BL1 := hide ((HBL.out.alloc hBw _).trans (hb1.mono (show B ≤ _ by simp; omega)))
      have e0 := keep_cell hb1 (show (wr.alloc (.cells #[.int .i64 ya, .int .i64 yp, .int .i64 yc, .int .i64 yb] 152)).cell? ⟨wr.heap.size, 0, none⟩ = some (.int .i64 ya) by simp [go_sem])
      have e1 := keep_cell hb1 (show (wr.alloc (.cells #[.int .i64 ya, .int .i64 yp, .int .i64 yc, .int .i64 yb] 152)).cell? ⟨wr.heap.size, 1, none⟩ = some (.int .i64 yp) by simp [go_sem])
      have e2 := keep_cell hb1 (show (wr.alloc (.cells #[.int .i64 ya, .int .i64 yp, .int .i64 yc, .int .i64 yb] 152)).cell? ⟨wr.heap.size, 2, none⟩ = some (.int .i64 yc) by simp [go_sem])
      have e3 := keep_cell hb1 (show (wr.alloc (.cells #[.int .i64 ya, .int .i64 yp, .int .i64 yc, .int .i64 yb] 152)).cell? ⟨wr.heap.size, 3, none⟩ = some (.int .i64 yb) by simp [go_sem])
      have hz1 := hb1.size
      simp at hz1
      clear hb1 c0 d0 d1 d2 d3 HCk
      cases fl
      · have N1 := hide (NO.out rfl)
        clear YES NO
        go_wp2
        go_roundw
        case rel => exact ⟨k + 1, m', tl, by omega, by omega, by go_num, by rw [HE.out, EX.out, N1.out], by omega, W1.out, BL1.out, KO1.out⟩
        case measure => simp [intOf]; omega
      · have Y1 := hide (YES.out rfl)
        have hol := offT_len (cnt := cnt) (x := ⟨tt, yp + 1, yc + v, k⟩) (l := tl)
        clear YES NO
        go_wp2_with (go_at_call 160; (with_reducible refine (offer_i _ B S hd tl act cnt ⟨tt, yp + 1, yc + v, k⟩ W1.out h0 (by have := hlen.out; omega)).mono ?_); rintro e u2 ⟨⟨v0, rfl⟩, hw2, hb2, hk2⟩; have W2 := hide hw2; have BL2 := hide (BL1.out.trans hb2); have KO2 := hide (KO1.out.trans hk2); clear hw2 hb2 hk2)
        go_roundw
        case rel => exact ⟨k + 1, m', _, by omega, by omega, by go_num, by rw [HE.out, EX.out, Y1.out], by omega, W2.out, BL2.out, KO2.out⟩
        case measure => simp [intOf]; omega
set_option maxHeartbeats 4000000 in
theorem extend_counts (w : World) (B S : Nat) (hd : List Wy) (act : Nat) (cnt : Bool) (tt : Int) (C : Int → Int → Int → Int × Bool) (q1 q2 q3 : Value) (hs : WSt w B S hd act cnt) (h0 : 0 < hd.length) (hl : hd.length ≤ 100000) (ha : act ≤ hd.length)
    (hb : ∀ i, i < hd.length → (0 ≤ (tg hd i).p ∧ (tg hd i).p ≤ 1000000) ∧ (-1000000000000000 ≤ (tg hd i).c ∧ (tg hd i).c ≤ 1000000000000000)) (hM : ∀ i a b, -1000000000000 ≤ (C i a b).1 ∧ (C i a b).1 ≤ 1000000000000)
    (HC : ∀ u, Below B w u → ∀ i, act ≤ i → i < hd.length → Calls Try.prog 101 #[.int .i64 (tg hd i).p, .int .i64 (tg hd i).a, .int .i64 tt, q1, q2, q3] u fun e u' => e = .returned (.tuple #[.int .i64 (C (tg hd i).p (tg hd i).a tt).1, .bool (C (tg hd i).p (tg hd i).a tt).2]) ∧ Below u.heap.size u u') :
    Calls Try.prog 138 #[.pointer (some ⟨S, 0, none⟩), .int .i64 tt, .func (.func 101) #[] #[q1, q2, q3]] w fun e w' => (∃ v, e = .returned v) ∧ WSt w' B S (hd ++ extR C cnt tt hd act) act cnt ∧ Below B w w' ∧ KeepsOthers w w' := by
  have HHC := hide HC
  have HB := hide hb
  have HS0 := hide hs
  have hBS := hs.hB
  have c1 := hs.c1
  obtain ⟨g, c, c0, _, _⟩ := hs.own
  have W0 := hide (show WSt w B S (hd ++ []) act cnt by rw [List.append_nil]; exact hs)
  clear HC hb hs
  go_enter Try.func138, Try.ntmps138
  go_wp2
  clear c0 c1
  go_loopw [7] (fun i u => ∃ (k m : Nat) (tl : List Wy), act ≤ k ∧ k + m = hd.length ∧ i = .int .i64 k ∧ extR C cnt tt hd act = extT C cnt tt hd m k tl ∧ tl.length ≤ k ∧ WSt u B S (hd ++ tl) act cnt ∧ Below B w u ∧ KeepsOthers w u) (fun i _ => hd.length - (intOf i).toNat)
  case atStart => exact ⟨act, hd.length - act, [], Nat.le_refl _, by omega, rfl, rfl, by simp, W0.out, Below.refl _ _, ko_refl _⟩
  case round =>
    obtain ⟨k, m, tl, hak, hkm, rfl, hex, htl, hws, hbl, hko⟩ := hrel
    have HKO := hide hko
    have HE := hide hex
    have HW := hide hws
    have HBL := hide hbl
    have hSz := hws.hS
    have hlen := hide (show (hd ++ tl).length = hd.length + tl.length by simp)
    obtain ⟨g, c, c0, hgS, hto⟩ := hws.own
    clear hex hws hbl hko
    rcases Nat.eq_zero_or_pos m with hm | hm
    · subst hm
      obtain rfl : k = hd.length := by omega
      go_wp2
      go_end0
      exact ⟨⟨_, rfl⟩, by rw [HE.out]; exact HW.out, HBL.out, HKO.out⟩
    · have hlt : k < hd.length := by omega
      obtain ⟨m', rfl⟩ : ∃ m', m = m' + 1 := ⟨m - 1, by omega⟩
      obtain ⟨b, o, he, hbl, d0, d1, d2, d3⟩ := hto.reads.at4 (i := k) (by simp; omega)
      injection he with he
      cases he
      rw [tg_left hlt] at d0 d1 d2 d3
      have HCk := hide (fun (u : World) (h : Below B w u) => HHC.out u h k hak hlt)
      obtain ⟨⟨p0, p1⟩, ⟨b0, b1⟩⟩ := HB.out k hlt
      have YES := hide (fun (h : (C (tg hd k).p (tg hd k).a tt).2 = true) => show stW C cnt tt hd k tl = offT cnt (nxW C tt hd k) tl from if_pos h)
      have NO := hide (fun (h : (C (tg hd k).p (tg hd k).a tt).2 = false) => show stW C cnt tt hd k tl = tl from if_neg (by rw [h]; simp))
      have hMk := hM (tg hd k).p (tg hd k).a tt
      have NX := hide (show nxW C tt hd k = ⟨tt, (tg hd k).p + 1, (tg hd k).c + (C (tg hd k).p (tg hd k).a tt).1, k⟩ from rfl)
      rw [NX.out] at YES
      obtain ⟨y, hy⟩ : ∃ y, y = tg hd k := ⟨_, rfl⟩
      rw [← hy] at d0 d1 d2 d3 HCk p0 p1 b0 b1 YES NO hMk
      clear hy NX
      obtain ⟨ya, yp, yc, yb⟩ := y
      rw [Nat.zero_add] at d0 d1 d2 d3
      have ex : extT C cnt tt hd (m' + 1) k tl = extT C cnt tt hd m' (k + 1) (stW C cnt tt hd k tl) := rfl
      have EX := hide ex
      clear ex hto
      obtain ⟨v, hv⟩ : ∃ v, v = (C yp ya tt).1 := ⟨_, rfl⟩
      obtain ⟨fl, hfl⟩ : ∃ v, v = (C yp ya tt).2 := ⟨_, rfl⟩
      simp only at HCk YES NO p0 p1 b0 b1 hMk
      rw [← hv, ← hfl] at HCk
      rw [← hv, ← hfl] at YES
      rw [← hfl] at NO
      rw [← hv] at hMk
      clear hv hfl
      have hBw : B ≤ wr.heap.size := by omega
      go_wp2_with fail
      (with_reducible refine (HCk.out _ (HBL.out.alloc hBw _)).mono ?_)
      rintro e u1 ⟨rfl, hb1⟩
      have W1 := hide ((HW.out.alloc _).below hb1 (Nat.le_refl _))
      have KO1 := hide (HKO.out.trans ((ko_alloc (ko_refl wr) _).trans (ko_below hb1)))
      have BL1 := hide ((HBL.out.alloc hBw _).trans (hb1.mono (show B ≤ _ by simp; omega)))
      have e0 := keep_cell hb1 (show (wr.alloc (.cells #[.int .i64 ya, .int .i64 yp, .int .i64 yc, .int .i64 yb] 152)).cell? ⟨wr.heap.size, 0, none⟩ = some (.int .i64 ya) by simp [go_sem])
      have e1 := keep_cell hb1 (show (wr.alloc (.cells #[.int .i64 ya, .int .i64 yp, .int .i64 yc, .int .i64 yb] 152)).cell? ⟨wr.heap.size, 1, none⟩ = some (.int .i64 yp) by simp [go_sem])
      have e2 := keep_cell hb1 (show (wr.alloc (.cells #[.int .i64 ya, .int .i64 yp, .int .i64 yc, .int .i64 yb] 152)).cell? ⟨wr.heap.size, 2, none⟩ = some (.int .i64 yc) by simp [go_sem])
      have e3 := keep_cell hb1 (show (wr.alloc (.cells #[.int .i64 ya, .int .i64 yp, .int .i64 yc, .int .i64 yb] 152)).cell? ⟨wr.heap.size, 3, none⟩ = some (.int .i64 yb) by simp [go_sem])
      have hz1 := hb1.size
      simp at hz1
      clear hb1 c0 d0 d1 d2 d3 HCk
      cases fl
      · have N1 := hide (NO.out rfl)
        clear YES NO
        go_wp2
        go_roundw
        case rel => exact ⟨k + 1, m', tl, by omega, by omega, by go_num, by rw [HE.out, EX.out, N1.out], by omega, W1.out, BL1.out, KO1.out⟩
        case measure => simp [intOf]; omega
      · have Y1 := hide (YES.out rfl)
        have hol := offT_len (cnt := cnt) (x := ⟨tt, yp + 1, yc + v, k⟩) (l := tl)
        clear YES NO
        go_wp2_with (go_at_call 160; (with_reducible refine (offer_i _ B S hd tl act cnt ⟨tt, yp + 1, yc + v, k⟩ W1.out h0 (by have := hlen.out; omega)).mono ?_); rintro e u2 ⟨⟨v0, rfl⟩, hw2, hb2, hk2⟩; have W2 := hide hw2; have BL2 := hide (BL1.out.trans hb2); have KO2 := hide (KO1.out.trans hk2); clear hw2 hb2 hk2)
        go_roundw
        case rel => exact ⟨k + 1, m', _, by omega, by omega, by go_num, by rw [HE.out, EX.out, Y1.out], by omega, W2.out, BL2.out, KO2.out⟩
        case measure => simp [intOf]; omega
end Go.Proofs.Ytafddofajfcffaa

/- append of one number inside a fence; own slices of numbers while a range over a function runs. It speaks of no program. -/
namespace Go.Proofs.Ytafddofajfcffaa
open Go.ChangeShapes Go.WideShapes Go.ChangeAt Go.RowKit
set_option linter.unusedVariables false

theorem wpListIn_append_int {F : Fence} {n0 : Nat} {P : Program} {ops : Array Oper} {rest : List Oper} {o : Oper} {a : Act} {Q : Exit → Act → World → Prop} {w : World} (hgd : o.guard = none) (s x : Operand) (t : TypeId)
    (ho : o.op = .call { callee := .builtin .append, args := #[s, x], argTypes := #[t, t] })
    (e : TypeId) (i : TypeInfo) (ht : P.underlying t = some (.slice e)) (hi : P.info? e = some i) (hz : i.zero = some (.int .i64 0)) (hsize : i.size = 1) (hby : i.bytes = 8)
    (B : Nat) (A : Option Addr) (c n : Nat) (l : List Int) (hs : a.eval s = .slice A n c) (hn : n = l.length) (hown : OL w e B A c l)
    (b : Nat) (z : Int) (hx : a.eval x = .slice (some ⟨b, 0, none⟩) 1 1) (hc : w.cell? ⟨b, 0, none⟩ = some (.int .i64 z)) (hlen : n ≤ 1000000000000) (hB : B ≤ w.heap.size)
    (h : ∀ A' c' w', OL w' e B A' c' (l ++ [z]) → Below B w w' → w.grownBy w' (Value.slice A n c).ownBlock → wpListIn F n0 P ops Q rest (a.put o.dst (.slice A' (n + 1) c')) w') : wpListIn F n0 P ops Q (o :: rest) a w := by
  subst hn
  refine wpListIn_append_own w hgd s x t ho B e i (.int .i64 0) 1 8 ht hi hz hsize hby rfl (by decide) _ l.length (l.map (Value.int .i64)) hs hown ⟨b, 0, none⟩ 1 1 [.int .i64 z] hx rfl ?_ ?_ (by unfold maxLen; omega) (by omega) hB ?_
  · intro j u hj
    match j, hj with
    | 0, hj => simp at hj; subst hj; simpa [Addr.add] using hc
  · intro u hu; simp at hu; subst hu; rfl
  · intro v' w' hown' hgr _
    obtain ⟨A', c', rfl, hl, hol⟩ := OL.of_own (l := l ++ [z]) hown' (by simp)
    exact h A' c' w' hol ((Below.refl _ _).grown hgr hB (fun k hk => (hown.own_lt k hk).1)) hgr
theorem OL.keptN {w w' : World} {e : TypeId} {B c : Nat} {A : Option Addr} {l : List Int} {row : Option Nat} (h : OL w e B A c l) (hg : w.grownBy w' row) (hr : ∀ r, row = some r → ∃ o : Obj, w.heap[r]? = some o ∧ o.isCells = false) : OL w' e B A c l :=
  h.kept hg (fun k hk e => by
    obtain ⟨o, ho, hc⟩ := hr k e
    rcases h.2 with ⟨h0, _⟩ | ⟨g, cap, cur, h1, h2, h3, _⟩
    · rw [h0] at hk; cases hk
    · rw [h1] at hk
      cases hk
      rw [h3] at ho
      cases ho
      cases hc)
theorem ko_grownL {w W : World} {e : TypeId} {B c : Nat} {A : Option Addr} {l : List Int} (ho : OL w e B A c l) (hg : w.grownBy W (Value.slice A l.length c).ownBlock) : KeepsOthers w W :=
  ⟨hg.size, fun k o hk hc => by
    refine (hg.block k (Array.getElem?_eq_some_iff.1 hk).1 (fun e => ?_)).trans hk
    rcases ho.2 with ⟨h0, _⟩ | ⟨g, cap, cur, h1, h2, h3, _⟩
    · rw [h0] at e; cases e
    · rw [h1] at e
      cases e
      rw [h3] at hk
      cases hk
      cases hc⟩
/-- A box far below the own slice keeps it. -/
theorem OL.box {u : World} {e : TypeId} {B b j c : Nat} {A : Option Addr} {l : List Int} (h : OL u e B A c l) (hb : b < B) (v : Value) : OL (u.setCell ⟨b, j, none⟩ v) e B A c l :=
  h.kept (row := some b) (on_set' (World.grownBy.refl _ _) (.inl rfl) _) (fun k hk e => by
    have := (h.own_lt k hk).1
    cases e
    omega)
/-- A cell of a box below the own slice, over its growing. -/
theorem box_grown {u v : World} {e : TypeId} {B b j c n : Nat} {A : Option Addr} {l : List Int} {x : Value} (h : OL u e B A c l) (hn : n = l.length) (hg : u.grownBy v (Value.slice A n c).ownBlock) (hb : b < B) (hc : u.cell? ⟨b, j, none⟩ = some x) : v.cell? ⟨b, j, none⟩ = some x ∧ v.frozen? ⟨b, j, none⟩ = u.frozen? ⟨b, j, none⟩ := by
  subst hn
  have hl := World.block_lt_of_cell? u _ hc
  have hne : some b ≠ (Value.slice A l.length c).ownBlock := fun e => by
    have := (h.own_lt b e.symm).1
    omega
  exact ⟨(hg.cell_far ⟨b, j, none⟩ hl hne).trans hc, hg.frozen_far ⟨b, j, none⟩ hl hne⟩
end Go.Proofs.Ytafddofajfcffaa
