/- Several texts of one claim, one behind the other. -/
import Derived.Test.YtmncdpiojhgcdaaSd
import Derived.Test.YtmncdpiojhgcdaaRead
import Derived.Deep.CutRange
import Derived.Deep.LoopGhost
import Derived.Deep.RegionHeld3
import Derived.Deep.Onto
import Derived.Test.YtmncdpiojhgcdaaSb
/- The lists of a paragraph in the program. -/
namespace Go.Proofs.Ytmncdpiojhgcdaa
open Go.ChangeShapes Go.WideShapes Go.ChangeAt Go.RowKit
set_option linter.unusedVariables false

theorem tg_set {L : List Gp} {i j : Nat} {x : Gp} (hj : j < L.length) : tg (L.set i x) j = if i = j then x else tg L j := by
  rw [tg_lt (by simpa using hj), List.getElem_set, tg_lt hj]
theorem flat_set3 {L : List Gp} {i : Nat} (hi : i < L.length) (x : Gp) : ((((L.flatMap Rec.cells).set (i * 3) (.int .i64 x.a)).set (i * 3 + 1) (.int .i64 x.b)).set (i * 3 + 2) (.int .i64 x.v)) = (L.set i x).flatMap Rec.cells := by
  have hl : (L.flatMap Rec.cells).length = L.length * 3 := flat_len L
  have hl2 : ((L.set i x).flatMap Rec.cells).length = L.length * 3 := by have := flat_len (L.set i x); rw [List.length_set] at this; exact this
  apply List.ext_getElem?
  intro m
  by_cases hm : m < L.length * 3
  · obtain ⟨q, r, hr, rfl⟩ : ∃ q r, r < 3 ∧ m = q * 3 + r := ⟨m / 3, m % 3, Nat.mod_lt _ (by omega), by omega⟩
    have hq : q < L.length := by omega
    have e1 := flat_get (L.set i x) (i := q) (j := r) (by rw [List.length_set]; exact hq) (show r < Rec.size Gp from hr)
    have e2 := flat_get L (i := q) (j := r) hq (show r < Rec.size Gp from hr)
    rw [tg_set hq] at e1
    change _ = _ at e1
    rw [show q * Rec.size Gp = q * 3 from rfl] at e1 e2
    rw [e1]
    simp only [List.getElem?_set, List.length_set, hl]
    by_cases e : i = q
    · subst e
      rw [if_pos rfl]
      rcases (by omega : r = 0 ∨ r = 1 ∨ r = 2) with rfl | rfl | rfl
      · rw [if_neg (by omega), if_neg (by omega), if_pos (by omega), if_pos (by omega)]; rfl
      · rw [if_neg (by omega), if_pos (by omega), if_pos (by omega)]; rfl
      · rw [if_pos (by omega), if_pos (by omega)]; rfl
    · rw [if_neg e, if_neg (by omega), if_neg (by omega), if_neg (by omega), e2]
  · rw [List.getElem?_eq_none (by simp only [List.length_set]; omega), List.getElem?_eq_none (by omega)]
theorem own_set3 {w : World} {e : TypeId} {B g c n : Nat} {L : List Gp} (h : w.ownsRow B e 3 (.slice (some ⟨g, 0, none⟩) n c) n (L.flatMap Rec.cells)) (hn : n = L.length) {i : Nat} (hi : i < n) (x : Gp) :
    (((w.setCell ⟨g, i * 3, none⟩ (.int .i64 x.a)).setCell ⟨g, i * 3 + 1, none⟩ (.int .i64 x.b)).setCell ⟨g, i * 3 + 2, none⟩ (.int .i64 x.v)).ownsRow B e 3 (.slice (some ⟨g, 0, none⟩) n c) n ((L.set i x).flatMap Rec.cells) := by
  subst hn
  have s0 := (World.ownsRow.stored h (i * 3) (.int .i64 x.a)).1
  have s1 := (World.ownsRow.stored s0 (i * 3 + 1) (.int .i64 x.b)).1
  have s2 := (World.ownsRow.stored s1 (i * 3 + 2) (.int .i64 x.v)).1
  rw [flat_set3 hi x] at s2
  exact s2

/-- The paragraph's struct at block gp while it is filled: its lists at gs, gf, gb. -/
def PX (w : World) (B gp gs gf gb : Nat) (V : Value) (S : List Gp) (F X : List Int) : Prop :=
  (gp ≠ gs ∧ gp ≠ gf ∧ gp ≠ gb ∧ gs ≠ gf ∧ gs ≠ gb ∧ gf ≠ gb) ∧ (B ≤ gp ∧ B ≤ gs ∧ B ≤ gf ∧ B ≤ gb) ∧ gp < w.heap.size ∧
  (w.cell? ⟨gp, 0, none⟩ = some V ∧ w.cell? ⟨gp, 1, none⟩ = some (.slice (some ⟨gs, 0, none⟩) S.length S.length) ∧ w.cell? ⟨gp, 2, none⟩ = some (.slice (some ⟨gf, 0, none⟩) F.length F.length) ∧ w.cell? ⟨gp, 3, none⟩ = some (.slice (some ⟨gb, 0, none⟩) X.length X.length)) ∧
  w.ownsRow B 43 3 (.slice (some ⟨gs, 0, none⟩) S.length S.length) S.length (S.flatMap Rec.cells) ∧
  OL w 3 B (some ⟨gf, 0, none⟩) F.length F ∧ OL w 3 B (some ⟨gb, 0, none⟩) X.length X
theorem h4_0 (W : World) (a b c d : Obj) : ((((W.alloc a).alloc b).alloc c).alloc d).drew.heap[W.heap.size]? = some a := by
  show ((((W.alloc a).alloc b).alloc c).alloc d).heap[W.heap.size]? = some a
  rw [Below.heap_alloc _ _ _ (by simp; try omega), Below.heap_alloc _ _ _ (by simp; try omega), Below.heap_alloc _ _ _ (by simp)]
  exact heap_alloc_new W a
theorem h4_1 (W : World) (a b c d : Obj) : ((((W.alloc a).alloc b).alloc c).alloc d).drew.heap[W.heap.size + 1]? = some b := by
  show ((((W.alloc a).alloc b).alloc c).alloc d).heap[W.heap.size + 1]? = some b
  rw [Below.heap_alloc _ _ _ (by simp; try omega), Below.heap_alloc _ _ _ (by simp)]
  exact heap_new2 W a b
theorem h4_2 (W : World) (a b c d : Obj) : ((((W.alloc a).alloc b).alloc c).alloc d).drew.heap[W.heap.size + 1 + 1]? = some c := by
  show ((((W.alloc a).alloc b).alloc c).alloc d).heap[W.heap.size + 1 + 1]? = some c
  rw [Below.heap_alloc _ _ _ (by simp)]
  have := heap_new2 (W.alloc a) b c
  simpa using this
theorem h4_3 (W : World) (a b c d : Obj) : ((((W.alloc a).alloc b).alloc c).alloc d).drew.heap[W.heap.size + 1 + 1 + 1]? = some d := by
  show ((((W.alloc a).alloc b).alloc c).alloc d).heap[W.heap.size + 1 + 1 + 1]? = some d
  have := heap_new2 ((W.alloc a).alloc b) c d
  simpa using this
theorem own_heap {w : World} {e : TypeId} {B g size n : Nat} {M : Array Value} (hB : B ≤ g) (h : w.heap[g]? = some (.cells M e (0, 0))) (hs : M.size = n * size) (hn : n ≤ maxLen) : w.ownsRow B e size (.slice (some ⟨g, 0, none⟩) n n) n M.toList :=
  ⟨by simpa using hs, .inr ⟨g, n, M, rfl, hB, h, Nat.le_refl _, hn, hs, by rw [List.take_of_length_le (by simp; omega)]⟩⟩
theorem mc_get {z : Array Value} {N i : Nat} (h : i < N) : (madeCells z N)[i]? = some (z[i % z.size]!) := by simp [madeCells, h]
theorem made3 (n : Nat) : (madeCells (Value.agg #[.int .i64 0, .int .i64 0, .int .i64 0]).cells (n * 3)).toList = (List.replicate n (⟨0, 0, 0⟩ : Gp)).flatMap Rec.cells := by
  have hl : ((List.replicate n (⟨0, 0, 0⟩ : Gp)).flatMap Rec.cells).length = n * 3 := by have := flat_len (List.replicate n (⟨0, 0, 0⟩ : Gp)); rw [List.length_replicate] at this; exact this
  have e : (Value.agg #[.int .i64 0, .int .i64 0, .int .i64 0]).cells = #[.int .i64 0, .int .i64 0, .int .i64 0] := rfl
  apply List.ext_getElem?
  intro m
  by_cases hm : m < n * 3
  · obtain ⟨q, r, hr, rfl⟩ : ∃ q r, r < 3 ∧ m = q * 3 + r := ⟨m / 3, m % 3, Nat.mod_lt _ (by omega), by omega⟩
    have hq : q < n := by omega
    have e2 := flat_get (List.replicate n (⟨0, 0, 0⟩ : Gp)) (i := q) (j := r) (by simpa using hq) (show r < Rec.size Gp from hr)
    change (List.flatMap Rec.cells _)[q * 3 + r]? = _ at e2
    rw [tg_lt (by simpa using hq), List.getElem_replicate] at e2
    have hm3 : (q * 3 + r) % 3 = r := by omega
    rw [e2, e, Array.getElem?_toList, mc_get hm, show (#[Value.int .i64 0, .int .i64 0, .int .i64 0] : Array Value).size = 3 from rfl, hm3]
    rcases (by omega : r = 0 ∨ r = 1 ∨ r = 2) with rfl | rfl | rfl <;> rfl
  · rw [List.getElem?_eq_none (by rw [Array.length_toList, size_madeCells]; omega), List.getElem?_eq_none (by rw [hl]; omega)]
theorem row3_at {w : World} {B g n : Nat} {e : TypeId} {S : List Gp} (h : w.ownsRow B e 3 (.slice (some ⟨g, 0, none⟩) n n) n (S.flatMap Rec.cells)) {i j : Nat} (hn : S.length = n) (hi : i < n) (hj : j < 3) : w.cell? ⟨g, i * 3 + j, none⟩ = (Rec.cells (tg S i))[j]? := by
  rw [World.ownsRow.cellAt h (i * 3 + j) (by omega)]
  have := flat_get S (i := i) (j := j) (by omega) (show j < Rec.size Gp from hj)
  exact this
/-- The three lists of a paragraph. -/
def PR (w : World) (B gs gf gb : Nat) (S : List Gp) (F X : List Int) (n : Nat) : Prop :=
  w.ownsRow B 43 3 (.slice (some ⟨gs, 0, none⟩) n n) n (S.flatMap Rec.cells) ∧ w.ownsRow B 3 1 (.slice (some ⟨gf, 0, none⟩) n n) n (F.map (Value.int .i64)) ∧ w.ownsRow B 3 1 (.slice (some ⟨gb, 0, none⟩) n n) n (X.map (Value.int .i64))
/-- The struct that leads to them. -/
def PQ (w : World) (gp g gs gf gb n c : Nat) : Prop :=
  gp < w.heap.size ∧ w.cell? ⟨gp, 0, none⟩ = some (.slice (some ⟨g, 0, none⟩) n c) ∧ w.cell? ⟨gp, 1, none⟩ = some (.slice (some ⟨gs, 0, none⟩) (n + 1) (n + 1)) ∧ w.cell? ⟨gp, 2, none⟩ = some (.slice (some ⟨gf, 0, none⟩) (n + 1) (n + 1)) ∧ w.cell? ⟨gp, 3, none⟩ = some (.slice (some ⟨gb, 0, none⟩) (n + 1) (n + 1))
theorem part_kind (x : It) (hx : KOk x) : ∃ T y, part x = .iface T y ∧ ((T = 166 ∧ y = bpv (inW x) ∧ inT x = 0 ∧ inS x = 0) ∨ (T = 171 ∧ y = gpv (inW x) (inT x) (inS x)) ∨ (T = 134 ∧ (∃ a p f, y = ppv a p f) ∧ inW x = 0 ∧ inT x = 0 ∧ inS x = 0)) := by
  obtain ⟨k, b, c, d, e, f⟩ := x
  rcases hx with h | h | h
  · simp only at h
    subst h
    exact ⟨166, bpv b, by simp [part], .inl ⟨rfl, by simp [inW], by simp [inT], by simp [inS]⟩⟩
  · simp only at h
    subst h
    exact ⟨171, gpv b c d, by simp [part], .inr (.inl ⟨rfl, by simp [inW, inT, inS]⟩)⟩
  · simp only at h
    subst h
    exact ⟨134, ppv b e f, by simp [part], .inr (.inr ⟨rfl, ⟨_, _, _, rfl⟩, by simp [inW], by simp [inT], by simp [inS]⟩)⟩
theorem own_other {w : World} {e : TypeId} {B g n c size : Nat} {xs : List Value} (h : w.ownsRow B e size (.slice (some ⟨g, 0, none⟩) n c) n xs) {a : Addr} (ha : g ≠ a.block) (u : Value) : (w.setCell a u).ownsRow B e size (.slice (some ⟨g, 0, none⟩) n c) n xs :=
  ownsRow_setCell_other h (by simpa [Value.ownBlock] using ha) u
theorem pr_step {w0 wr u2 u3 : World} {gp g gs gf gb c1 : Nat} {L : List It} {k : Nat} (h : PR wr w0.heap.size gs gf gb (SL L k) (FL L k) (FL L 0) (L.length + 1)) (hq : PQ wr gp g gs gf gb L.length c1) (hbl : Below w0.heap.size w0 wr) (hb2 : Below wr.heap.size wr u2) (hb : Below u2.heap.size u2 u3) (hk : k < L.length) (h1 : gp ≠ gs) (h2 : gs ≠ gf) (h3 : gs ≠ gb) (hge : w0.heap.size ≤ gs) {a b c : Int} (hg : gl3 L (k + 1) = ⟨a, b, c⟩) :
    PR (((u3.setCell ⟨gs, (k + 1) * 3, none⟩ (.int .i64 a)).setCell ⟨gs, (k + 1) * 3 + 1, none⟩ (.int .i64 b)).setCell ⟨gs, (k + 1) * 3 + 2, none⟩ (.int .i64 c)) w0.heap.size gs gf gb (SL L (k + 1)) (FL L k) (FL L 0) (L.length + 1) ∧
    PQ (((u3.setCell ⟨gs, (k + 1) * 3, none⟩ (.int .i64 a)).setCell ⟨gs, (k + 1) * 3 + 1, none⟩ (.int .i64 b)).setCell ⟨gs, (k + 1) * 3 + 2, none⟩ (.int .i64 c)) gp g gs gf gb L.length c1 ∧
    Below w0.heap.size w0 (((u3.setCell ⟨gs, (k + 1) * 3, none⟩ (.int .i64 a)).setCell ⟨gs, (k + 1) * 3 + 1, none⟩ (.int .i64 b)).setCell ⟨gs, (k + 1) * 3 + 2, none⟩ (.int .i64 c)) := by
  have hB : Below wr.heap.size wr u3 := bl_call hb hb2
  obtain ⟨r1, r2, r3⟩ := h
  obtain ⟨q0, q1, q2, q3, q4⟩ := hq
  have hne : ∀ i j : Nat, (⟨gp, i, none⟩ : Addr) ≠ ⟨gs, j, none⟩ := fun i j e => h1 (by injection e)
  refine ⟨⟨?_, ?_, ?_⟩, ⟨?_, ?_, ?_, ?_, ?_⟩, ?_⟩
  · have := own_set3 (own_below r1 hB) (by rw [SL_len]) (i := k + 1) (by omega) (gl3 L (k + 1))
    rw [SL_step hk, hg] at this
    exact this
  · exact own_other (own_other (own_other (own_below r2 hB) (fun e => h2 e.symm) _) (fun e => h2 e.symm) _) (fun e => h2 e.symm) _
  · exact own_other (own_other (own_other (own_below r3 hB) (fun e => h3 e.symm) _) (fun e => h3 e.symm) _) (fun e => h3 e.symm) _
  · have := hB.size
    simp
    omega
  · exact keep_set (keep_set (keep_set (keep_cell hB q1) (hne _ _) _) (hne _ _) _) (hne _ _) _
  · exact keep_set (keep_set (keep_set (keep_cell hB q2) (hne _ _) _) (hne _ _) _) (hne _ _) _
  · exact keep_set (keep_set (keep_set (keep_cell hB q3) (hne _ _) _) (hne _ _) _) (hne _ _) _
  · exact keep_set (keep_set (keep_set (keep_cell hB q4) (hne _ _) _) (hne _ _) _) (hne _ _) _
  · exact bl_set (bl_set (bl_set (bl_call hB hbl) hge _) hge _) hge _
theorem own_setI {w : World} {B g n c : Nat} {F : List Int} (h : w.ownsRow B 3 1 (.slice (some ⟨g, 0, none⟩) n c) n (F.map (Value.int .i64))) (j : Nat) (z : Int) : (w.setCell ⟨g, j, none⟩ (.int .i64 z)).ownsRow B 3 1 (.slice (some ⟨g, 0, none⟩) n c) n ((F.set j z).map (Value.int .i64)) := by
  have := (World.ownsRow.stored h j (.int .i64 z)).1
  rwa [← List.map_set] at this
theorem pf_step {w0 wr : World} {gp g gs gf gb c1 n m : Nat} {S : List Gp} {F X : List Int} (h : PR wr w0.heap.size gs gf gb S F X n) (hq : PQ wr gp g gs gf gb m c1) (hbl : Below w0.heap.size w0 wr) (h1 : gp ≠ gf) (h2 : gs ≠ gf) (h3 : gf ≠ gb) (hge : w0.heap.size ≤ gf) (j : Nat) (z : Int) :
    PR (wr.setCell ⟨gf, j, none⟩ (.int .i64 z)) w0.heap.size gs gf gb S (F.set j z) X n ∧ PQ (wr.setCell ⟨gf, j, none⟩ (.int .i64 z)) gp g gs gf gb m c1 ∧ Below w0.heap.size w0 (wr.setCell ⟨gf, j, none⟩ (.int .i64 z)) := by
  obtain ⟨r1, r2, r3⟩ := h
  obtain ⟨q0, q1, q2, q3, q4⟩ := hq
  have hne : ∀ i j : Nat, (⟨gp, i, none⟩ : Addr) ≠ ⟨gf, j, none⟩ := fun i j e => h1 (by injection e)
  exact ⟨⟨own_other r1 h2 _, own_setI r2 j z, own_other r3 (fun e => h3 e.symm) _⟩, ⟨by simpa using q0, keep_set q1 (hne _ _) _, keep_set q2 (hne _ _) _, keep_set q3 (hne _ _) _, keep_set q4 (hne _ _) _⟩, bl_set hbl hge _⟩
theorem pb_step {w0 wr : World} {gp g gs gf gb c1 n m : Nat} {S : List Gp} {F X : List Int} (h : PR wr w0.heap.size gs gf gb S F X n) (hq : PQ wr gp g gs gf gb m c1) (hbl : Below w0.heap.size w0 wr) (h1 : gp ≠ gb) (h2 : gs ≠ gb) (h3 : gf ≠ gb) (hge : w0.heap.size ≤ gb) (j : Nat) (z : Int) :
    PR (wr.setCell ⟨gb, j, none⟩ (.int .i64 z)) w0.heap.size gs gf gb S F (X.set j z) n ∧ PQ (wr.setCell ⟨gb, j, none⟩ (.int .i64 z)) gp g gs gf gb m c1 ∧ Below w0.heap.size w0 (wr.setCell ⟨gb, j, none⟩ (.int .i64 z)) := by
  obtain ⟨r1, r2, r3⟩ := h
  obtain ⟨q0, q1, q2, q3, q4⟩ := hq
  have hne : ∀ i j : Nat, (⟨gp, i, none⟩ : Addr) ≠ ⟨gb, j, none⟩ := fun i j e => h1 (by injection e)
  exact ⟨⟨own_other r1 h2 _, own_other r2 h3 _, own_setI r3 j z⟩, ⟨by simpa using q0, keep_set q1 (hne _ _) _, keep_set q2 (hne _ _) _, keep_set q3 (hne _ _) _, keep_set q4 (hne _ _) _⟩, bl_set hbl hge _⟩
theorem pr_drew {wr : World} {B gs gf gb n : Nat} {S : List Gp} {F X : List Int} (h : PR wr B gs gf gb S F X n) : PR wr.drew B gs gf gb S F X n := h
theorem pq_drew {wr : World} {gp g gs gf gb m c1 : Nat} (h : PQ wr gp g gs gf gb m c1) : PQ wr.drew gp g gs gf gb m c1 := h
theorem pr_below {w w' : World} {B gs gf gb n : Nat} {S : List Gp} {F X : List Int} (h : PR w B gs gf gb S F X n) (hb : Below w.heap.size w w') : PR w' B gs gf gb S F X n := ⟨own_below h.1 hb, own_below h.2.1 hb, own_below h.2.2 hb⟩
theorem pq_below {w w' : World} {gp g gs gf gb m c1 : Nat} (h : PQ w gp g gs gf gb m c1) (hb : Below w.heap.size w w') : PQ w' gp g gs gf gb m c1 := ⟨Nat.lt_of_lt_of_le h.1 hb.size, keep_cell hb h.2.1, keep_cell hb h.2.2.1, keep_cell hb h.2.2.2.1, keep_cell hb h.2.2.2.2⟩
theorem int_at {w : World} {B g n c : Nat} {F : List Int} (h : w.ownsRow B 3 1 (.slice (some ⟨g, 0, none⟩) n c) n (F.map (Value.int .i64))) (hn : F.length = n) {j : Nat} (hj : j < n) : w.cell? ⟨g, j, none⟩ = some (.int .i64 (ng F j)) := by
  rw [World.ownsRow.cellAt h j (by omega), List.getElem?_map]
  simp [ng, List.getD, hn, hj]
theorem gli_info : (Try.prog.info? 43).map (fun i => (i.zero, i.size, i.bytes)) = some (some (.agg #[.int .i64 0, .int .i64 0, .int .i64 0]), 3, 24) := by kernel_rfl

set_option maxRecDepth 8000 in
set_option maxHeartbeats 4000000 in
theorem measure_i (w : World) (A : Option Addr) (n c : Nat) (L : List It) (h : TL w A n L) (hn : n ≤ 4611686018427387904) :
    Calls Try.prog 67 #[.slice A n c] w fun e w' => ∃ v, e = .returned (.tuple #[v, .bool (isOk L)]) ∧ (isOk L = true → ∃ g c1 gs gf gb, v = .agg #[.slice (some ⟨g, 0, none⟩) L.length c1, .slice (some ⟨gs, 0, none⟩) (L.length + 1) (L.length + 1), .slice (some ⟨gf, 0, none⟩) (L.length + 1) (L.length + 1), .slice (some ⟨gb, 0, none⟩) (L.length + 1) (L.length + 1)] ∧
      w'.ownsRow w.heap.size 105 1 (.slice (some ⟨g, 0, none⟩) L.length c1) L.length (L.map part) ∧ PR w' w.heap.size gs gf gb (SL L L.length) (FL L L.length) (XL L L.length) (L.length + 1)) ∧ (isOk L = false → v = .agg #[.slice none 0 0, .slice none 0 0, .slice none 0 0, .slice none 0 0]) ∧ Below w.heap.size w w' := by
  obtain rfl : n = L.length := h.1
  have HI := hide (h.alloc (.cells #[.slice none 0 0, .slice none 0 0, .slice none 0 0, .slice none 0 0] 82))
  clear h
  obtain ⟨ok, hok⟩ : ∃ ok, ok = isOk L := ⟨_, rfl⟩
  have PO := fun (u : World) (h : TL u A L.length L) => partsOf_i u A L.length c L h hn
  rw [← hok] at PO
  have HPO := hide PO
  have HOK := hide hok
  clear PO hok
  rw [← HOK.out]
  cases ok
  · have C := fun i (hi : i < 4) => (show (w.alloc (.cells #[.slice none 0 0, .slice none 0 0, .slice none 0 0, .slice none 0 0] 82)).cell? ⟨w.heap.size, i, none⟩ = some (.slice none 0 0) ∧ (w.alloc (.cells #[.slice none 0 0, .slice none 0 0, .slice none 0 0, .slice none 0 0] 82)).frozen? ⟨w.heap.size, i, none⟩ = false by rcases (by omega : i = 0 ∨ i = 1 ∨ i = 2 ∨ i = 3) with rfl | rfl | rfl | rfl <;> simp [go_sem])
    have HC := hide C
    clear C
    go_enter Try.func67, Try.ntmps67
    go_wp2_with fail
    (with_reducible refine (HPO.out _ HI.out).mono ?_)
    rintro e u1 ⟨v, rfl, hv, hb⟩
    have HB1 := hide hb
    obtain ⟨a0, b0⟩ := HC.out 0 (by omega)
    obtain ⟨a1, b1⟩ := HC.out 1 (by omega)
    obtain ⟨a2, b2⟩ := HC.out 2 (by omega)
    obtain ⟨a3, b3⟩ := HC.out 3 (by omega)
    have lw : w.heap.size < (w.alloc (.cells #[.slice none 0 0, .slice none 0 0, .slice none 0 0, .slice none 0 0] 82)).heap.size := by simp
    have b0 := (hb.frozen (p := ⟨w.heap.size, 0, none⟩) lw).trans b0
    have b1 := (hb.frozen (p := ⟨w.heap.size, 1, none⟩) lw).trans b1
    have b2 := (hb.frozen (p := ⟨w.heap.size, 2, none⟩) lw).trans b2
    have b3 := (hb.frozen (p := ⟨w.heap.size, 3, none⟩) lw).trans b3
    have a0 := keep_cell hb a0
    have a1 := keep_cell hb a1
    have a2 := keep_cell hb a2
    have a3 := keep_cell hb a3
    clear hv hb lw
    go_wp2
    refine bodyPost_ret (v := .tuple #[.agg #[.slice none 0 0, .slice none 0 0, .slice none 0 0, .slice none 0 0], .bool false]) (by simp [results, Try.results67, go_sem, *]) rfl ⟨_, rfl, fun h => by simp at h, fun _ => rfl, ?_⟩
    exact bl_set (bl_set (bl_set (bl_set (bl_call HB1.out (bl_alloc (bl_refl _) _)) (Nat.le_refl _) _) (Nat.le_refl _) _) (Nat.le_refl _) _) (Nat.le_refl _) _
  · have OKS := isOk_iff.1 HOK.out.symm
    have HALL := hide OKS.1
    have hl60 := OKS.2.1
    clear OKS
    obtain ⟨i0, hi0, hz0, hz1, hz2⟩ := info_parts int_info
    obtain ⟨i1, hi1, kz0, kz1, kz2⟩ := info_parts gli_info
    obtain ⟨M2, hM2⟩ : ∃ M, M = madeCells (Value.int .i64 0).cells ((((L.length : Nat) : Int) + 1).toNat * i0.size) := ⟨_, rfl⟩
    obtain ⟨M3, hM3⟩ : ∃ M, M = madeCells (Value.agg #[.int .i64 0, .int .i64 0, .int .i64 0]).cells ((((L.length : Nat) : Int) + 1).toNat * i1.size) := ⟨_, rfl⟩
    have hmk2 : ∀ W : World, (Instr.makeSlice 30 (.int .i64 ((L.length : Int) + 1)) (.int .i64 ((L.length : Int) + 1))).run Try.prog W = .ok (.slice (some ⟨W.heap.size, 0, none⟩) (L.length + 1) (L.length + 1)) (W.alloc (.cells M2 3)) := fun W => by
      have h := run_make (P := Try.prog) W 30 3 i0 (.int .i64 0) Try.underlying30 hi0 hz0 .i64 .i64 ((L.length : Int) + 1) ((L.length : Int) + 1) (by omega) (by omega) (by rw [hz2]; omega) (by omega)
      rw [← hM2] at h
      simpa using h
    have hmk3 : ∀ W : World, (Instr.makeSlice 80 (.int .i64 ((L.length : Int) + 1)) (.int .i64 ((L.length : Int) + 1))).run Try.prog W = .ok (.slice (some ⟨W.heap.size, 0, none⟩) (L.length + 1) (L.length + 1)) (W.alloc (.cells M3 43)) := fun W => by
      have h := run_make (P := Try.prog) W 80 43 i1 _ Try.underlying80 hi1 kz0 .i64 .i64 ((L.length : Int) + 1) ((L.length : Int) + 1) (by omega) (by omega) (by rw [kz2]; omega) (by omega)
      rw [← hM3] at h
      simpa using h
    have wl : IntKind.i64.wrap ((L.length : Int) + 1) = (L.length : Int) + 1 := IntWalk.i64_in _ (by omega)
    have HM2 : Hid (M2.toList = List.replicate (L.length + 1) (.int .i64 0) ∧ M2.size = (L.length + 1) * 1) := hide (by
      have e : (((L.length : Nat) : Int) + 1).toNat * i0.size = (L.length + 1) := by rw [hz1]; omega
      rw [hM2, e]
      refine ⟨toList_madeCells_one _ _, ?_⟩
      rw [size_madeCells]; try simp)
    have HM3 : Hid (M3.toList = (List.replicate (L.length + 1) (⟨0, 0, 0⟩ : Gp)).flatMap Rec.cells ∧ M3.size = (L.length + 1) * 3) := hide (by
      have e : (((L.length : Nat) : Int) + 1).toNat * i1.size = (L.length + 1) * 3 := by rw [kz1]; omega
      rw [hM3, e]
      refine ⟨made3 _, ?_⟩
      rw [size_madeCells]; try simp)
    clear hM2 hM3 hz0 hz1 hz2 kz0 kz1 kz2 hi0 hi1
    go_enter Try.func67, Try.ntmps67
    go_wp2_with fail
    (with_reducible refine (HPO.out _ HI.out).mono ?_)
    rintro e u1 ⟨v, rfl, hv, hb⟩
    obtain ⟨A1, c1, rfl, hrow⟩ := hv (by trivial)
    have HROW := hide hrow
    have HB1 := hide hb
    have HRV := hide (fun (u : World) (hu : Below u1.heap.size u1 u) (i : Nat) (hi : i < 4) => (show u.cell? ⟨w.heap.size, i, none⟩ = some (.slice none 0 0) ∧ u.frozen? ⟨w.heap.size, i, none⟩ = false by
      have hy := bl_call hu hb
      have lw : w.heap.size < (w.alloc (.cells #[.slice none 0 0, .slice none 0 0, .slice none 0 0, .slice none 0 0] 82)).heap.size := by simp
      refine ⟨keep_cell hy ?_, (hy.frozen (p := ⟨w.heap.size, i, none⟩) lw).trans ?_⟩
      all_goals rcases (by omega : i = 0 ∨ i = 1 ∨ i = 2 ∨ i = 3) with rfl | rfl | rfl | rfl <;> simp [go_sem]))
    have hwu : w.heap.size < u1.heap.size := Nat.lt_of_lt_of_le (by simp) hb.size
    have HWU := hide hwu
    clear hwu
    obtain ⟨g, hg, hg0, hg1, _⟩ := own_form hrow (by omega)
    subst hg
    clear hv hrow hb
    obtain ⟨V, hV⟩ : ∃ V, V = Value.slice (some ⟨g, 0, none⟩) L.length c1 := ⟨_, rfl⟩
    go_upto_region 5 with fail
    go_cut [7] from 21 to 33 (fun pv wx => ∃ gp gs gf gb, pv = .pointer (some ⟨gp, 0, none⟩) ∧ (gp ≠ gs ∧ gp ≠ gf ∧ gp ≠ gb ∧ gs ≠ gf ∧ gs ≠ gb ∧ gf ≠ gb) ∧ (u1.heap.size ≤ gp ∧ u1.heap.size ≤ gs ∧ u1.heap.size ≤ gf ∧ u1.heap.size ≤ gb) ∧ wx.heap[gp]? = some (.cells #[.slice (some ⟨g, 0, none⟩) L.length c1, .slice (some ⟨gs, 0, none⟩) (L.length + 1) (L.length + 1), .slice (some ⟨gf, 0, none⟩) (L.length + 1) (L.length + 1), .slice (some ⟨gb, 0, none⟩) (L.length + 1) (L.length + 1)] 82 (0, 0)) ∧ wx.heap[gs]? = some (.cells M3 43 (0, 0)) ∧ wx.heap[gf]? = some (.cells M2 3 (0, 0)) ∧ wx.heap[gb]? = some (.cells M2 3 (0, 0)) ∧ Below u1.heap.size u1 wx)
    case first =>
      go_region
      all_goals (go_wp2_with fail; go_meet)
      all_goals
        refine ⟨_, _, _, _, rfl, ?_, ?_, by first | exact h4_0 _ _ _ _ _ | exact h4_1 _ _ _ _ _ | exact h4_2 _ _ _ _ _ | exact h4_3 _ _ _ _ _, by first | exact h4_0 _ _ _ _ _ | exact h4_1 _ _ _ _ _ | exact h4_2 _ _ _ _ _ | exact h4_3 _ _ _ _ _, by first | exact h4_0 _ _ _ _ _ | exact h4_1 _ _ _ _ _ | exact h4_2 _ _ _ _ _ | exact h4_3 _ _ _ _ _, by first | exact h4_0 _ _ _ _ _ | exact h4_1 _ _ _ _ _ | exact h4_2 _ _ _ _ _ | exact h4_3 _ _ _ _ _, bl_drew (bl_alloc (bl_alloc (bl_alloc (bl_alloc (bl_refl _) _) _) _) _)⟩
        all_goals omega
    case rest =>
      obtain ⟨gp, gs, gf, gb, rfl, ⟨ne1, ne2, ne3, ne4, ne5, ne6⟩, ⟨ge1, ge2, ge3, ge4⟩, hp, hs, hf, hbx, hbl⟩ := hcut
      have R0 : Hid (PR wc u1.heap.size gs gf gb (List.replicate (L.length + 1) ⟨0, 0, 0⟩) (List.replicate (L.length + 1) 0) (List.replicate (L.length + 1) 0) (L.length + 1)) := hide (by
        refine ⟨?_, ?_, ?_⟩
        · rw [← HM3.out.1]; exact own_heap ge2 hs HM3.out.2 (by unfold maxLen; omega)
        · have := own_heap (size := 1) (n := L.length + 1) ge3 hf HM2.out.2 (by unfold maxLen; omega)
          rw [HM2.out.1] at this
          simpa using this
        · have := own_heap (size := 1) (n := L.length + 1) ge4 hbx HM2.out.2 (by unfold maxLen; omega)
          rw [HM2.out.1] at this
          simpa using this)
      have ST : ∀ i v, (#[Value.slice (some ⟨g, 0, none⟩) L.length c1, .slice (some ⟨gs, 0, none⟩) (L.length + 1) (L.length + 1), .slice (some ⟨gf, 0, none⟩) (L.length + 1) (L.length + 1), .slice (some ⟨gb, 0, none⟩) (L.length + 1) (L.length + 1)] : Array Value)[i]? = some v → wc.cell? ⟨gp, i, none⟩ = some v := fun i v hv => by
        rw [cell_of_row wc gp i _ 82 (0, 0) hp]; exact hv
      have P0 := ST 0 _ rfl
      have P1 := ST 1 _ rfl
      have P2 := ST 2 _ rfl
      have P3 := ST 3 _ rfl
      have hgpl : gp < wc.heap.size := World.block_lt_of_cell? wc _ P0
      have HPQ : Hid (PQ wc gp g gs gf gb L.length c1) := hide ⟨hgpl, P0, P1, P2, P3⟩
      clear ST P0 P1 P2 P3 hp hs hf hbx hV
      have HB := hide hbl
      clear hbl
      have P0 := HPQ.out.2.1
      go_wp2
      clear P0
      rw [← SL_zero, ← FL_zero] at R0
      go_loopg [34] L.length (fun gk i u => ∃ k : Nat, k + gk = L.length ∧ i = .int .i64 k ∧ PR u u1.heap.size gs gf gb (SL L k) (FL L k) (FL L 0) (L.length + 1) ∧ PQ u gp g gs gf gb L.length c1 ∧ Below u1.heap.size u1 u)
      case atStart => exact ⟨0, by omega, rfl, R0.out, HPQ.out, HB.out⟩
      case round =>
        obtain ⟨k, hk, rfl, hpr, hpq, hbl⟩ := hrel
        by_cases hlt : k < L.length
        · obtain ⟨pT, py, hpart, hkind⟩ := part_kind (tg L k) (KOk.of (HALL.out k hlt))
          have d0 := World.ownsRow.cellAt (own_below HROW.out hbl) k (by omega)
          rw [List.getElem?_map, tg_get hlt, Option.map_some, hpart] at d0
          obtain ⟨⟨b0, b1⟩, ⟨b2, b3⟩, ⟨b4, b5⟩⟩ := s_bd HALL.out (k := k) (by omega)
          obtain ⟨⟨e0, e1⟩, ⟨e2, e3⟩, ⟨e4, e5⟩⟩ := in_bd HALL.out hlt
          have IFx := fun (u : World) => isForced_i (tg L k) (KOk.of (HALL.out k hlt)) u
          rw [hpart] at IFx
          have HIF := hide IFx
          have HPL := hide (fun (u : World) => plus_big (sW L k) (sT L k) (sS L k) (inW (tg L k)) (inT (tg L k)) (inS (tg L k)) u (by omega) (by omega) (by omega) (by omega) (by omega) (by omega))
          obtain ⟨hpr1, hpr2, hpr3⟩ := hpr
          obtain ⟨hq0, q0, q1, q2, q3⟩ := hpq
          obtain ⟨x0, hx0⟩ : ∃ x, x = sW L k := ⟨_, rfl⟩
          obtain ⟨x1, hx1⟩ : ∃ x, x = sT L k := ⟨_, rfl⟩
          obtain ⟨x2, hx2⟩ : ∃ x, x = sS L k := ⟨_, rfl⟩
          obtain ⟨y0, hy0⟩ : ∃ x, x = inW (tg L k) := ⟨_, rfl⟩
          obtain ⟨y1, hy1⟩ : ∃ x, x = inT (tg L k) := ⟨_, rfl⟩
          obtain ⟨y2, hy2⟩ : ∃ x, x = inS (tg L k) := ⟨_, rfl⟩
          have HG : Hid (gl3 L (k + 1) = ⟨x0 + y0, x1 + y1, x2 + y2⟩) := hide (by rw [hx0, hx1, hx2, hy0, hy1, hy2]; rfl)
          have cS := fun j (hj : j < 3) => row3_at hpr1 (i := k) (j := j) (by rw [SL_len]) (by omega) hj
          have cs0 := cS 0 (by omega)
          have cs1 := cS 1 (by omega)
          have cs2 := cS 2 (by omega)
          rw [show tg (SL L k) k = gl3 L k by rw [tg_lt (by rw [SL_len]; omega)]; simp [SL]] at cs0 cs1 cs2
          simp only [gl3, Rec.cells, List.getElem?_cons_zero, List.getElem?_cons_succ, ← hx0, ← hx1, ← hx2, Nat.add_zero] at cs0 cs1 cs2
          rw [← hx0, ← hx1, ← hx2, ← hy0, ← hy1, ← hy2] at HPL
          rw [← hy0, ← hy1, ← hy2] at hkind
          have HK := hide hkind
          clear cS hx0 hx1 hx2 hy0 hy1 hy2 hkind IFx
          have wk : IntKind.i64.wrap ((k : Int) + 1) = (k : Int) + 1 := IntWalk.i64_in _ (by omega)
          obtain ⟨v0, vd0⟩ := own_cell (j := (k + 1) * 3) hpr1 (by omega)
          obtain ⟨v1, vd1⟩ := own_cell (j := (k + 1) * 3 + 1) hpr1 (by omega)
          obtain ⟨v2, vd2⟩ := own_cell (j := (k + 1) * 3 + 2) hpr1 (by omega)
          have fz := fun j => World.ownsRow.frozenAt hpr1 j
          have fz0 := fz ((k + 1) * 3)
          have fz1 := fz ((k + 1) * 3 + 1)
          have fz2 := fz ((k + 1) * 3 + 2)
          have m0 : ¬ k * 3 = (k + 1) * 3 := by omega
          have m1 : ¬ k * 3 = (k + 1) * 3 + 1 := by omega
          have m2 : ¬ k * 3 = (k + 1) * 3 + 2 := by omega
          have m3 : ¬ k * 3 + 1 = (k + 1) * 3 := by omega
          have m4 : ¬ k * 3 + 2 = (k + 1) * 3 := by omega
          have m5 : ¬ (k + 1) * 3 = k * 3 := by omega
          have m6 : ¬ (k + 1) * 3 = k * 3 + 1 := by omega
          have m7 : ¬ (k + 1) * 3 = k * 3 + 2 := by omega
          have m8 : ¬ (k + 1) * 3 + 1 = k * 3 := by omega
          have m9 : ¬ (k + 1) * 3 + 2 = k * 3 := by omega
          have n0 : ¬ gs = gp := fun h => ne1 h.symm
          have hk1 : k + 1 < L.length + 1 := by omega
          have hk2 : k < L.length + 1 := by omega
          have hk3 : (0 : Int) ≤ (k : Int) := by omega
          have hk4 : (k : Int) < (L.length : Int) + 1 := by omega
          have hk5 : (k : Int) + 1 < (L.length : Int) + 1 := by omega
          have hk6 : (k : Int) ≤ (L.length : Int) := by omega
          have hk7 : (0 : Int) ≤ (k : Int) + 1 := by omega
          have hk8 : (k : Int) + 1 ≤ (L.length : Int) := by omega
          have hgsl : gs < wr.heap.size := World.block_lt_of_cell? wr _ cs0
          have HPR := hide (⟨hpr1, hpr2, hpr3⟩ : PR wr u1.heap.size gs gf gb (SL L k) (FL L k) (FL L 0) (L.length + 1))
          have HPQ := hide (⟨hq0, q0, q1, q2, q3⟩ : PQ wr gp g gs gf gb L.length c1)
          have HBL := hide hbl
          clear hpr1 hpr2 hpr3 q0 q2 q3 fz hbl
          go_upto_region 9 with fail
          go_cut [34] from 34 to 72 (fun i wx => i = .int .i64 k ∧ PR wx u1.heap.size gs gf gb (SL L (k + 1)) (FL L k) (FL L 0) (L.length + 1) ∧ PQ wx gp g gs gf gb L.length c1 ∧ Below u1.heap.size u1 wx)
          case first =>
            have hmb : ∀ (v : Value) (W : World), (method 292 166 v "loop.example/typesetting/impl.inside").run Try.prog W = .ok (178, v) W := fun _ _ => by kernel_rfl
            have hmg : ∀ (v : Value) (W : World), (method 292 171 v "loop.example/typesetting/impl.inside").run Try.prog W = .ok (184, v) W := fun _ _ => by kernel_rfl
            have hmp : ∀ (v : Value) (W : World), (method 292 134 v "loop.example/typesetting/impl.inside").run Try.prog W = .ok (172, v) W := fun _ _ => by kernel_rfl
            rcases HK.out with ⟨rfl, rfl, rfl, rfl⟩ | ⟨rfl, rfl⟩ | ⟨rfl, ⟨pa, pp, pf, rfl⟩, rfl, rfl, rfl⟩
            · go_region_held3 (fun u : World => u.cell? ⟨gp, 1, none⟩ = some (.slice (some ⟨gs, 0, none⟩) (L.length + 1) (L.length + 1)) ∧ u.cell? ⟨gs, k * 3, none⟩ = some (.int .i64 x0) ∧ u.cell? ⟨gs, k * 3 + 1, none⟩ = some (.int .i64 x1) ∧ u.cell? ⟨gs, k * 3 + 2, none⟩ = some (.int .i64 x2)) (first | (simp [go_sem, *]; done) | exact ⟨q1, cs0, cs1, cs2⟩) (first | (go_at_call 178; (with_reducible refine (box_inside _ _).mono ?_); rintro e u2 ⟨rfl, hb⟩; (try (with_reducible have hb := bl_undrew hb)); have q1 := keep_cell hb q1; have cs0 := keep_cell hb cs0; have cs1 := keep_cell hb cs1; have cs2 := keep_cell hb cs2; have vd0 := keep_cell hb vd0; have vd1 := keep_cell hb vd1; have vd2 := keep_cell hb vd2; have fz0 := (hb.frozen (p := ⟨gs, (k + 1) * 3, none⟩) hgsl).trans fz0; have fz1 := (hb.frozen (p := ⟨gs, (k + 1) * 3 + 1, none⟩) hgsl).trans fz1; have fz2 := (hb.frozen (p := ⟨gs, (k + 1) * 3 + 2, none⟩) hgsl).trans fz2; have hgsl := Nat.lt_of_lt_of_le hgsl hb.size; have hb2 := hb) | (go_at_call 111; (with_reducible refine (HPL.out _).mono ?_); rintro e u3 ⟨rfl, hb⟩; (try (with_reducible have hb := bl_undrew hb)); have q1 := keep_cell hb q1; have cs0 := keep_cell hb cs0; have cs1 := keep_cell hb cs1; have cs2 := keep_cell hb cs2; have vd0 := keep_cell hb vd0; have vd1 := keep_cell hb vd1; have vd2 := keep_cell hb vd2; have fz0 := (hb.frozen (p := ⟨gs, (k + 1) * 3, none⟩) hgsl).trans fz0; have fz1 := (hb.frozen (p := ⟨gs, (k + 1) * 3 + 1, none⟩) hgsl).trans fz1; have fz2 := (hb.frozen (p := ⟨gs, (k + 1) * 3 + 2, none⟩) hgsl).trans fz2))
              all_goals (go_wp2_with fail; go_meet)
              all_goals exact ⟨rfl, pr_step HPR.out HPQ.out HBL.out hb2 hb hlt ne1 ne4 ne5 ge2 (by simpa using HG.out)⟩
            · go_region_held3 (fun u : World => u.cell? ⟨gp, 1, none⟩ = some (.slice (some ⟨gs, 0, none⟩) (L.length + 1) (L.length + 1)) ∧ u.cell? ⟨gs, k * 3, none⟩ = some (.int .i64 x0) ∧ u.cell? ⟨gs, k * 3 + 1, none⟩ = some (.int .i64 x1) ∧ u.cell? ⟨gs, k * 3 + 2, none⟩ = some (.int .i64 x2)) (first | (simp [go_sem, *]; done) | exact ⟨q1, cs0, cs1, cs2⟩) (first | (go_at_call 184; (with_reducible refine (glue_inside _ _ _ _).mono ?_); rintro e u2 ⟨rfl, hb⟩; (try (with_reducible have hb := bl_undrew hb)); have q1 := keep_cell hb q1; have cs0 := keep_cell hb cs0; have cs1 := keep_cell hb cs1; have cs2 := keep_cell hb cs2; have vd0 := keep_cell hb vd0; have vd1 := keep_cell hb vd1; have vd2 := keep_cell hb vd2; have fz0 := (hb.frozen (p := ⟨gs, (k + 1) * 3, none⟩) hgsl).trans fz0; have fz1 := (hb.frozen (p := ⟨gs, (k + 1) * 3 + 1, none⟩) hgsl).trans fz1; have fz2 := (hb.frozen (p := ⟨gs, (k + 1) * 3 + 2, none⟩) hgsl).trans fz2; have hgsl := Nat.lt_of_lt_of_le hgsl hb.size; have hb2 := hb) | (go_at_call 111; (with_reducible refine (HPL.out _).mono ?_); rintro e u3 ⟨rfl, hb⟩; (try (with_reducible have hb := bl_undrew hb)); have q1 := keep_cell hb q1; have cs0 := keep_cell hb cs0; have cs1 := keep_cell hb cs1; have cs2 := keep_cell hb cs2; have vd0 := keep_cell hb vd0; have vd1 := keep_cell hb vd1; have vd2 := keep_cell hb vd2; have fz0 := (hb.frozen (p := ⟨gs, (k + 1) * 3, none⟩) hgsl).trans fz0; have fz1 := (hb.frozen (p := ⟨gs, (k + 1) * 3 + 1, none⟩) hgsl).trans fz1; have fz2 := (hb.frozen (p := ⟨gs, (k + 1) * 3 + 2, none⟩) hgsl).trans fz2))
              all_goals (go_wp2_with fail; go_meet)
              all_goals exact ⟨rfl, pr_step HPR.out HPQ.out HBL.out hb2 hb hlt ne1 ne4 ne5 ge2 (by simpa using HG.out)⟩
            · go_region_held3 (fun u : World => u.cell? ⟨gp, 1, none⟩ = some (.slice (some ⟨gs, 0, none⟩) (L.length + 1) (L.length + 1)) ∧ u.cell? ⟨gs, k * 3, none⟩ = some (.int .i64 x0) ∧ u.cell? ⟨gs, k * 3 + 1, none⟩ = some (.int .i64 x1) ∧ u.cell? ⟨gs, k * 3 + 2, none⟩ = some (.int .i64 x2)) (first | (simp [go_sem, *]; done) | exact ⟨q1, cs0, cs1, cs2⟩) (first | (go_at_call 172; (with_reducible refine (pen_inside _ _ _ _).mono ?_); rintro e u2 ⟨rfl, hb⟩; (try (with_reducible have hb := bl_undrew hb)); have q1 := keep_cell hb q1; have cs0 := keep_cell hb cs0; have cs1 := keep_cell hb cs1; have cs2 := keep_cell hb cs2; have vd0 := keep_cell hb vd0; have vd1 := keep_cell hb vd1; have vd2 := keep_cell hb vd2; have fz0 := (hb.frozen (p := ⟨gs, (k + 1) * 3, none⟩) hgsl).trans fz0; have fz1 := (hb.frozen (p := ⟨gs, (k + 1) * 3 + 1, none⟩) hgsl).trans fz1; have fz2 := (hb.frozen (p := ⟨gs, (k + 1) * 3 + 2, none⟩) hgsl).trans fz2; have hgsl := Nat.lt_of_lt_of_le hgsl hb.size; have hb2 := hb) | (go_at_call 111; (with_reducible refine (HPL.out _).mono ?_); rintro e u3 ⟨rfl, hb⟩; (try (with_reducible have hb := bl_undrew hb)); have q1 := keep_cell hb q1; have cs0 := keep_cell hb cs0; have cs1 := keep_cell hb cs1; have cs2 := keep_cell hb cs2; have vd0 := keep_cell hb vd0; have vd1 := keep_cell hb vd1; have vd2 := keep_cell hb vd2; have fz0 := (hb.frozen (p := ⟨gs, (k + 1) * 3, none⟩) hgsl).trans fz0; have fz1 := (hb.frozen (p := ⟨gs, (k + 1) * 3 + 1, none⟩) hgsl).trans fz1; have fz2 := (hb.frozen (p := ⟨gs, (k + 1) * 3 + 2, none⟩) hgsl).trans fz2))
              all_goals (go_wp2_with fail; go_meet)
              all_goals exact ⟨rfl, pr_step HPR.out HPQ.out HBL.out hb2 hb hlt ne1 ne4 ne5 ge2 (by simpa using HG.out)⟩
          case rest =>
            obtain ⟨rfl, hpr, hpq, hbl⟩ := hcut
            clear cs0 cs1 cs2 vd0 vd1 vd2 fz0 fz1 fz2 q1 hq0 hgsl m0 m1 m2 m3 m4 m5 m6 m7 m8 m9
            have HPR := hide hpr
            have HPQ := hide hpq
            have HBL := hide hbl
            have q2 := hpq.2.2.2.1
            have cf0 := int_at hpr.2.1 (by rw [FL_len]) (j := k) (by omega)
            rw [FL_get (by omega), if_pos (Nat.le_refl _)] at cf0
            obtain ⟨v0, vd0⟩ := own_cell (j := k + 1) hpr.2.1 (by omega)
            have fz0 := World.ownsRow.frozenAt hpr.2.1 (k + 1)
            have hne1 : ¬ gf = gp := fun h => ne2 h.symm
            have hne2 : ¬ gp = gf := ne2
            have HN := hide (show ∀ f : Bool, f = isF (tg L k) → ((nF L (k + 1) : Nat) : Int) = (nF L k : Int) + if f then 1 else 0 from fun f hf => by subst hf; simp only [nF]; split <;> simp)
            have hnk := nF_le L k
            obtain ⟨z, hz⟩ : ∃ z : Nat, z = nF L k := ⟨_, rfl⟩
            rw [← hz] at cf0 hnk HN
            have HZ := hide hz
            clear hpr hpq hbl hz
            go_upto_region 10 with fail
            go_cut [34] from 34 to 72 (fun i wx => i = .int .i64 k ∧ PR wx u1.heap.size gs gf gb (SL L (k + 1)) ((FL L k).set (k + 1) z) (FL L 0) (L.length + 1) ∧ PQ wx gp g gs gf gb L.length c1 ∧ Below u1.heap.size u1 wx)
            case first =>
              go_region
              all_goals (go_wp2_with fail; go_meet)
              all_goals exact ⟨rfl, pf_step (pr_drew HPR.out) (pq_drew HPQ.out) (bl_drew HBL.out) ne2 ne4 ne6 ge3 (k + 1) z⟩
            case rest =>
              obtain ⟨rfl, hpr, hpq, hbl⟩ := hcut
              clear q2 cf0 vd0 fz0
              have HPR := hide hpr
              have HPQ := hide hpq
              have HBL := hide hbl
              clear hpr hpq hbl
              go_wp2_with fail
              (with_reducible refine (HIF.out _).mono ?_)
              rintro e u4 ⟨rfl, hb⟩
              obtain ⟨fb, hfb⟩ : ∃ fb, fb = isF (tg L k) := ⟨_, rfl⟩
              have hfb' : decide ((tg L k).k = 3 ∧ (tg L k).p = -1000) = fb := hfb.symm
              rw [hfb']
              have HPR4 := hide (pr_below HPR.out hb)
              have HPQ4 := hide (pq_below HPQ.out hb)
              have HBL4 := hide (bl_call hb HBL.out)
              have HN1 := hide (HN.out fb hfb)
              clear hfb hfb' hb
              have q2 := HPQ4.out.2.2.2.1
              have cf1 := int_at HPR4.out.2.1 (by rw [List.length_set, FL_len]) (j := k + 1) (by omega)
              rw [ng_set (by rw [FL_len]; omega), if_pos rfl] at cf1
              have fz1 := World.ownsRow.frozenAt HPR4.out.2.1 (k + 1)
              have wz : IntKind.i64.wrap ((z : Int) + 1) = (z : Int) + 1 := IntWalk.i64_in _ (by omega)
              have hgf : gf < u4.heap.size := World.block_lt_of_cell? u4 _ cf1
              cases fb
              · go_wp2
                go_roundg (gk - 1)
                case rel =>
                  refine ⟨k + 1, by omega, by go_num, ?_, HPQ4.out, HBL4.out⟩
                  have := HPR4.out
                  rwa [FL_step hlt (by have := HN1.out; simp at this; omega)] at this
                case measure => omega
              · go_wp2
                go_roundg (gk - 1)
                case rel =>
                  obtain ⟨t1, t2, t3⟩ := pf_step HPR4.out HPQ4.out HBL4.out ne2 ne4 ne6 ge3 (k + 1) ((z : Int) + 1)
                  refine ⟨k + 1, by omega, by go_num, ?_, t2, t3⟩
                  rwa [List.set_set, FL_step hlt (by have := HN1.out; simp at this; omega)] at t1
                case measure => omega
        · obtain rfl : k = L.length := by omega
          have HPR := hide hpr
          have HPQ := hide hpq
          have HBL := hide hbl
          have q3 := hpq.2.2.2.2
          obtain ⟨v0, vd0⟩ := own_cell (j := L.length) hpr.2.2 (by omega)
          have fz0 := World.ownsRow.frozenAt hpr.2.2 L.length
          have wl1 : IntKind.i64.wrap ((L.length : Int) - 1) = (L.length : Int) - 1 := IntWalk.i64_in _ (by omega)
          have hne3 : ¬ gp = gb := ne3
          have hl1 : (L.length : Int) < (L.length : Int) + 1 := by omega
          clear hpr hpq hbl
          go_wp2
          clear q3 vd0 fz0
          go_loopg [10] L.length (fun gk i u => ∃ d : Nat, d + gk = L.length ∧ i = .int .i64 ((gk : Int) - 1) ∧ PR u u1.heap.size gs gf gb (SL L L.length) (FL L L.length) (XL L d) (L.length + 1) ∧ PQ u gp g gs gf gb L.length c1 ∧ Below u1.heap.size u1 u)
          case atStart =>
            obtain ⟨t1, t2, t3⟩ := pb_step HPR.out HPQ.out HBL.out ne3 ne5 ne6 ge4 L.length (L.length : Int)
            rw [FL_zero, XL_zero] at t1
            exact ⟨0, by omega, rfl, t1, t2, t3⟩
          case round =>
            obtain ⟨d, hd, rfl, hpr, hpq, hbl⟩ := hrel
            have HPR := hide hpr
            have HPQ := hide hpq
            have HBL := hide hbl
            rcases Nat.eq_zero_or_pos gk with h0 | h0
            · subst h0
              obtain rfl : d = L.length := by omega
              obtain ⟨q0, q1, q2, q3, q4⟩ := hpq
              obtain ⟨a0, b0⟩ := HRV.out wr hbl 0 (by omega)
              obtain ⟨a1, b1⟩ := HRV.out wr hbl 1 (by omega)
              obtain ⟨a2, b2⟩ := HRV.out wr hbl 2 (by omega)
              obtain ⟨a3, b3⟩ := HRV.out wr hbl 3 (by omega)
              clear hpr hbl
              go_wp2
              have ow : ∀ x, u1.heap.size ≤ x → x ≠ w.heap.size := fun x hx => by have := HWU.out; omega
              have lw := Nat.le_of_lt HWU.out
              refine bodyPost_ret (v := .tuple #[.agg #[.slice (some ⟨g, 0, none⟩) L.length c1, .slice (some ⟨gs, 0, none⟩) (L.length + 1) (L.length + 1), .slice (some ⟨gf, 0, none⟩) (L.length + 1) (L.length + 1), .slice (some ⟨gb, 0, none⟩) (L.length + 1) (L.length + 1)], .bool true]) (by simp [results, Try.results67, go_sem, *]) rfl ⟨_, rfl, fun _ => ⟨g, c1, gs, gf, gb, rfl, ?_, ?_, ?_, ?_⟩, (fun h => by simp at h), ?_⟩
              · have hz : (w.alloc (.cells #[.slice none 0 0, .slice none 0 0, .slice none 0 0, .slice none 0 0] 82)).heap.size = w.heap.size + 1 := by simp
                have og : g ≠ w.heap.size := by
                  first | (rw [hz] at hg0; omega) | (rw [hz] at hg1; omega)
                exact World.ownsRow.mono (own_other (own_other (own_other (own_other (own_below HROW.out HBL.out) og _) og _) og _) og _) (by rw [hz]; omega)
              · exact World.ownsRow.mono (own_other (own_other (own_other (own_other HPR.out.1 (ow _ ge2) _) (ow _ ge2) _) (ow _ ge2) _) (ow _ ge2) _) lw
              · exact World.ownsRow.mono (own_other (own_other (own_other (own_other HPR.out.2.1 (ow _ ge3) _) (ow _ ge3) _) (ow _ ge3) _) (ow _ ge3) _) lw
              · exact World.ownsRow.mono (own_other (own_other (own_other (own_other HPR.out.2.2 (ow _ ge4) _) (ow _ ge4) _) (ow _ ge4) _) (ow _ ge4) _) lw
              · exact bl_set (bl_set (bl_set (bl_set (bl_call HBL.out (bl_call HB1.out (bl_alloc (bl_refl _) _))) (Nat.le_refl _) _) (Nat.le_refl _) _) (Nat.le_refl _) _) (Nat.le_refl _) _
            · obtain ⟨m, rfl⟩ : ∃ m, gk = m + 1 := ⟨gk - 1, by omega⟩
              have em : ((m + 1 : Nat) : Int) - 1 = (m : Int) := by omega
              rw [em]
              have hml : m < L.length := by omega
              have q3 := hpq.2.2.2.2
              have cg0 := int_at hpr.2.2 (by rw [XL_len]) (j := m + 1) (by omega)
              rw [XL_get (by omega), if_pos (by omega), show L.length - (m + 1) = d from by omega] at cg0
              obtain ⟨v0, vd0⟩ := own_cell (j := m) hpr.2.2 (by omega)
              have fz0 := World.ownsRow.frozenAt hpr.2.2 m
              have hne3 : ¬ gp = gb := ne3
              have hne4 : ¬ gb = gp := fun h => ne3 h.symm
              have wm : IntKind.i64.wrap ((m : Int) + 1) = (m : Int) + 1 := IntWalk.i64_in _ (by omega)
              have wm1 : IntKind.i64.wrap ((m : Int) - 1) = (m : Int) - 1 := IntWalk.i64_in _ (by omega)
              have hm0 : (0 : Int) ≤ (m : Int) := by omega
              have hm1 : (m : Int) < (L.length : Int) + 1 := by omega
              have hm2 : (m : Int) + 1 < (L.length : Int) + 1 := by omega
              have hm3 : (0 : Int) ≤ (m : Int) + 1 := by omega
              have hm4 : m < L.length + 1 := by omega
              have hm5 : m + 1 < L.length + 1 := by omega
              have hm6 : (m : Int) < (L.length : Int) := by omega
              have hm7 : (m : Int) ≤ (L.length : Int) := by omega
              obtain ⟨z, hz⟩ : ∃ z : Nat, z = nxB L d := ⟨_, rfl⟩
              rw [← hz] at cg0
              have HZ := hide hz
              clear hpr hpq hbl hz
              go_upto_region 18 with fail
              go_cut [10] from 80 to 103 (fun i wx => i = .int .i64 m ∧ PR wx u1.heap.size gs gf gb (SL L L.length) (FL L L.length) ((XL L d).set m z) (L.length + 1) ∧ PQ wx gp g gs gf gb L.length c1 ∧ Below u1.heap.size u1 wx)
              case first =>
                go_region
                all_goals (go_wp2_with fail; go_meet)
                all_goals exact ⟨rfl, pb_step (pr_drew HPR.out) (pq_drew HPQ.out) (bl_drew HBL.out) ne3 ne5 ne6 ge4 m z⟩
              case rest =>
                obtain ⟨rfl, hpr, hpq, hbl⟩ := hcut
                clear q3 cg0 vd0 fz0
                have HPR := hide hpr
                have HPQ := hide hpq
                have HBL := hide hbl
                have d0 := World.ownsRow.cellAt (own_below HROW.out hbl) m (by omega)
                rw [List.getElem?_map, tg_get hml, Option.map_some] at d0
                have IB := fun (u : World) => isBox_i (tg L m) (KOk.of (HALL.out m hml)) u
                obtain ⟨pt, py, hpv⟩ := part_iface (tg L m)
                rw [hpv] at d0 IB
                obtain ⟨fb, hfb⟩ : ∃ fb, fb = isB (tg L m) := ⟨_, rfl⟩
                rw [← hfb] at IB
                have HIB := hide IB
                have HN := hide (show ∀ y : Nat, y = (if fb then m else z) → (y : Int) = (nxB L (d + 1) : Int) from fun y hy => by
                  subst hy
                  simp only [nxB]
                  rw [show L.length - (d + 1) = m from by omega, ← hfb, HZ.out])
                clear hpr hpq hbl IB hpv hfb
                go_wp2_with fail
                (with_reducible refine (HIB.out _).mono ?_)
                rintro e u4 ⟨rfl, hb⟩
                have HPR4 := hide (pr_below HPR.out hb)
                have HPQ4 := hide (pq_below HPQ.out hb)
                have HBL4 := hide (bl_call hb HBL.out)
                clear hb d0
                have q3 := HPQ4.out.2.2.2.2
                obtain ⟨v1, cf1⟩ := own_cell (j := m) HPR4.out.2.2 (by omega)
                have fz1 := World.ownsRow.frozenAt HPR4.out.2.2 m
                cases fb
                · go_wp2
                  go_roundg m
                  case rel =>
                    refine ⟨d + 1, by omega, by go_num, ?_, HPQ4.out, HBL4.out⟩
                    have := HPR4.out
                    rwa [XL_step (by omega) (HN.out z (by simp))] at this
                  case measure => omega
                · go_wp2
                  go_roundg m
                  case rel =>
                    obtain ⟨t1, t2, t3⟩ := pb_step HPR4.out HPQ4.out HBL4.out ne3 ne5 ne6 ge4 m (m : Int)
                    refine ⟨d + 1, by omega, by go_num, ?_, t2, t3⟩
                    rwa [List.set_set, XL_step (by omega) (HN.out m (by simp))] at t1
                  case measure => omega
end Go.Proofs.Ytmncdpiojhgcdaa

/- Where a line may end, in the program. -/
namespace Go.Proofs.Ytmncdpiojhgcdaa
open Go.ChangeShapes Go.WideShapes Go.ChangeAt Go.RowKit
set_option linter.unusedVariables false

theorem box_mayEnd (a : Int) (t : Bool) (w : World) : Calls Try.prog 180 #[bpv a, .bool t] w fun e w' => e = .returned (.bool false) ∧ Below w.heap.size w w' := by
  go_enter Try.func180, Try.ntmps180
  go_wp2
  refine bodyPost_ret (v := .bool false) (by simp [results, Try.results180, go_sem, *]) rfl ⟨rfl, ?_⟩
  repeat' (first | with_reducible exact bl_refl _ | with_reducible assumption | with_reducible refine bl_alloc ?_ _ | with_reducible refine bl_set ?_ ?_ _ | with_reducible refine bl_drewN ?_ _ | with_reducible refine bl_drew ?_ | with_reducible refine bl_call (by assumption) ?_)
  all_goals (first | omega | (simp; done) | (simp; omega))
theorem glue_mayEnd (a b c : Int) (t : Bool) (w : World) : Calls Try.prog 186 #[gpv a b c, .bool t] w fun e w' => e = .returned (.bool t) ∧ Below w.heap.size w w' := by
  go_enter Try.func186, Try.ntmps186
  go_wp2
  refine bodyPost_ret (v := .bool t) (by simp [results, Try.results186, go_sem, *]) rfl ⟨rfl, ?_⟩
  repeat' (first | with_reducible exact bl_refl _ | with_reducible assumption | with_reducible refine bl_alloc ?_ _ | with_reducible refine bl_set ?_ ?_ _ | with_reducible refine bl_drewN ?_ _ | with_reducible refine bl_drew ?_ | with_reducible refine bl_call (by assumption) ?_)
  all_goals (first | omega | (simp; done) | (simp; omega))
theorem pen_mayEnd (a p : Int) (f t : Bool) (w : World) : Calls Try.prog 174 #[ppv a p f, .bool t] w fun e w' => e = .returned (.bool (decide (p < 1000))) ∧ Below w.heap.size w w' := by
  go_enter Try.func174, Try.ntmps174
  go_wp2
  refine bodyPost_ret (v := .bool (decide (p < 1000))) (by simp [results, Try.results174, go_sem, *]) rfl ⟨rfl, ?_⟩
  repeat' (first | with_reducible exact bl_refl _ | with_reducible assumption | with_reducible refine bl_alloc ?_ _ | with_reducible refine bl_set ?_ ?_ _ | with_reducible refine bl_drewN ?_ _ | with_reducible refine bl_drew ?_ | with_reducible refine bl_call (by assumption) ?_)
  all_goals (first | omega | (simp; done) | (simp; omega))
/-- The part's own answer to whether a line may end at it. -/
def mE (x : It) (t : Bool) : Bool := if x.k = 2 then t else if x.k = 3 then decide (x.p < 1000) else false
theorem mayE_eq (L : List It) (i : Nat) : mayE L i = mE (tg L i) (decide (0 < i) && isB (tg L (i - 1))) := rfl
theorem part_mayEnd (x : It) (hx : KOk x) : ∃ T y F, part x = .iface T y ∧ (∀ W, (method 292 T y "loop.example/typesetting/impl.mayEnd").run Try.prog W = .ok (F, y) W) ∧ ∀ t w, Calls Try.prog F #[y, .bool t] w fun e w' => e = .returned (.bool (mE x t)) ∧ Below w.heap.size w w' := by
  obtain ⟨k, b, c, d, e, f⟩ := x
  rcases hx with h | h | h
  · simp only at h
    subst h
    exact ⟨166, bpv b, 180, by simp [part], fun W => by kernel_rfl, fun t w => by simpa [mE] using box_mayEnd b t w⟩
  · simp only at h
    subst h
    exact ⟨171, gpv b c d, 186, by simp [part], fun W => by kernel_rfl, fun t w => by simpa [mE] using glue_mayEnd b c d t w⟩
  · simp only at h
    subst h
    exact ⟨134, ppv b e f, 174, by simp [part], fun W => by kernel_rfl, fun t w => by simpa [mE] using pen_mayEnd b e f t w⟩
end Go.Proofs.Ytmncdpiojhgcdaa

/- Where a line may end, in the program. -/
namespace Go.Proofs.Ytmncdpiojhgcdaa
open Go.ChangeShapes Go.WideShapes Go.ChangeAt Go.RowKit
set_option linter.unusedVariables false
set_option linter.unusedSimpArgs false

theorem part_kind2 (x : It) (hx : KOk x) : ∃ T y, part x = .iface T y ∧ ((T = 166 ∧ (∃ a, y = bpv a) ∧ ∀ t, mE x t = false) ∨ (T = 171 ∧ (∃ a b c, y = gpv a b c) ∧ ∀ t, mE x t = t) ∨ (T = 134 ∧ ∃ a p f, y = ppv a p f ∧ ∀ t, mE x t = decide (p < 1000))) := by
  obtain ⟨k, b, c, d, e, f⟩ := x
  rcases hx with h | h | h
  · simp only at h
    subst h
    exact ⟨166, bpv b, by simp [part], .inl ⟨rfl, ⟨_, rfl⟩, fun t => by simp [mE]⟩⟩
  · simp only at h
    subst h
    exact ⟨171, gpv b c d, by simp [part], .inr (.inl ⟨rfl, ⟨_, _, _, rfl⟩, fun t => by simp [mE]⟩)⟩
  · simp only at h
    subst h
    exact ⟨134, ppv b e f, by simp [part], .inr (.inr ⟨rfl, _, _, _, rfl, fun t => by simp [mE]⟩)⟩
set_option maxRecDepth 8000 in
set_option maxHeartbeats 2000000 in
theorem mayEndAt_i (w : World) {B g c1 : Nat} (v1 v2 v3 : Value) (L : List It) (hall : ∀ i, i < L.length → itOk (tg L i) = true) (hl : L.length ≤ 60) (hrow : w.ownsRow B 105 1 (.slice (some ⟨g, 0, none⟩) L.length c1) L.length (L.map part)) {i : Nat} (hi : i < L.length) :
    Calls Try.prog 84 #[.agg #[.slice (some ⟨g, 0, none⟩) L.length c1, v1, v2, v3], .int .i64 i] w fun e w' => e = .returned (.bool (mayE L i)) ∧ Below w.heap.size w w' := by
  have hmb : ∀ (v : Value) (W : World), (method 292 166 v "loop.example/typesetting/impl.mayEnd").run Try.prog W = .ok (180, v) W := fun _ _ => by kernel_rfl
  have hmg : ∀ (v : Value) (W : World), (method 292 171 v "loop.example/typesetting/impl.mayEnd").run Try.prog W = .ok (186, v) W := fun _ _ => by kernel_rfl
  have hmp : ∀ (v : Value) (W : World), (method 292 134 v "loop.example/typesetting/impl.mayEnd").run Try.prog W = .ok (174, v) W := fun _ _ => by kernel_rfl
  obtain ⟨pT, py, hpart, hkind⟩ := part_kind2 (tg L i) (KOk.of (hall i hi))
  have HK := hide hkind
  obtain ⟨qT, qy, hqp⟩ := part_iface (tg L (i - 1))
  have HIB := hide (fun (u : World) => isBox_i (tg L (i - 1)) (KOk.of (hall (i - 1) (by omega))) u)
  rw [hqp] at HIB
  obtain ⟨fb, hfb⟩ : ∃ fb, fb = isB (tg L (i - 1)) := ⟨_, rfl⟩
  rw [← hfb] at HIB
  have E := hide (mayE_eq L i)
  rw [← hfb] at E
  have C := fun j (hj : j < L.length) => World.ownsRow.cellAt hrow j (by omega)
  have d0 := C i hi
  rw [List.getElem?_map, tg_get hi, Option.map_some, hpart] at d0
  have d1 := C (i - 1) (by omega)
  rw [List.getElem?_map, tg_get (by omega), Option.map_some, hqp] at d1
  obtain ⟨W0, hW0⟩ : ∃ W0, W0 = w.alloc (.cells #[.slice (some ⟨g, 0, none⟩) L.length c1, v1, v2, v3] 82) := ⟨_, rfl⟩
  have k1 : (w.alloc (.cells #[.slice (some ⟨g, 0, none⟩) L.length c1, v1, v2, v3] 82)).cell? ⟨g, i, none⟩ = _ := keep_alloc d0 _
  have k2 : (w.alloc (.cells #[.slice (some ⟨g, 0, none⟩) L.length c1, v1, v2, v3] 82)).cell? ⟨g, i - 1, none⟩ = _ := keep_alloc d1 _
  have k0 : (w.alloc (.cells #[.slice (some ⟨g, 0, none⟩) L.length c1, v1, v2, v3] 82)).cell? ⟨w.heap.size, 0, none⟩ = some (.slice (some ⟨g, 0, none⟩) L.length c1) := by simp [go_sem]
  have i0 : (0 : Int) ≤ (i : Int) := by omega
  have i1 : (i : Int) < (L.length : Int) := by omega
  clear hkind hfb C d0 d1 hpart hqp hW0 hrow
  rcases Nat.eq_zero_or_pos i with h0 | h0
  · subst h0
    have E := hide (show mayE L 0 = mE (tg L 0) false from E.out)
    clear i0 i1 k2
    have i1 : (0 : Int) < (L.length : Int) := by omega
    rw [show ((0 : Nat) : Int) = 0 from rfl]
    have HB3 := hide (bl_alloc (bl_refl w) (.cells #[.slice (some ⟨g, 0, none⟩) L.length c1, v1, v2, v3] 82))
    go_enter Try.func84, Try.ntmps84
    go_upto_region 1 with fail
    rcases HK.out with ⟨rfl, ⟨a, rfl⟩, hm⟩ | ⟨rfl, ⟨a, b, c, rfl⟩, hm⟩ | ⟨rfl, a, p, f, rfl, hm⟩
    · have HM := hide hm
      clear hm
      refine wp_region_held_drew (S := fun u : World => u.cell? ⟨w.heap.size, 0, none⟩ = some (.slice (some ⟨g, 0, none⟩) L.length c1) ∧ u.cell? ⟨g, 0, none⟩ = some (.iface 166 (bpv a))) (by kernel_rfl) (by first | (simp [go_sem, *]; done) | exact ⟨k0, k1⟩) (fun hHeld => ?_)
      (first | refine tky 0 (h := ?_) | refine tkn 0 (h := ?_)); (try simp only [Act.put, tkd, tke, tkf])
      (first | refine tky 1 (h := ?_) | refine tkn 1 (h := ?_)); (try simp only [Act.put, tkd, tke, tkf])
      (first | refine tky 2 (h := ?_) | refine tkn 2 (h := ?_)); (try simp only [Act.put, tkd, tke, tkf])
      (first | refine tky 3 (h := ?_) | refine tkn 3 (h := ?_)); (try simp only [Act.put, tkd, tke, tkf])
      (first | refine tky 4 (h := ?_) | refine tkn 4 (h := ?_)); (try simp only [Act.put, tkd, tke, tkf])
      (first | refine tky 16 (h := ?_) | refine tkn 16 (h := ?_)); (try simp only [Act.put, tkd, tke, tkf])
      (first | refine tky 17 (h := ?_) | refine tkn 17 (h := ?_)); (try simp only [Act.put, tkd, tke, tkf])
      (first | refine tky 5 (h := ?_) | refine tkn 5 (h := ?_)); (try simp only [Act.put, tkd, tke, tkf])
      (first | refine tky 6 (h := ?_) | refine tkn 6 (h := ?_)); (try simp only [Act.put, tkd, tke, tkf])
      (first | refine tky 7 (h := ?_) | refine tkn 7 (h := ?_)); (try simp only [Act.put, tkd, tke, tkf])
      (first | refine tky 8 (h := ?_) | refine tkn 8 (h := ?_)); (try simp only [Act.put, tkd, tke, tkf])
      (first | refine tky 9 (h := ?_) | refine tkn 9 (h := ?_)); (try simp only [Act.put, tkd, tke, tkf])
      (first | refine tky 10 (h := ?_) | refine tkn 10 (h := ?_)); (try simp only [Act.put, tkd, tke, tkf])
      (first | refine tky 11 (h := ?_) | refine tkn 11 (h := ?_)); (try simp only [Act.put, tkd, tke, tkf])
      (first | refine tky 12 (h := ?_) | refine tkn 12 (h := ?_)); (try simp only [Act.put, tkd, tke, tkf])
      (first | refine tky 13 (h := ?_) | refine tkn 13 (h := ?_)); (try simp only [Act.put, tkd, tke, tkf])
      (first | refine tky 14 (h := ?_) | refine tkn 14 (h := ?_)); (try simp only [Act.put, tkd, tke, tkf])
      (first | refine tky 15 (h := ?_) | refine tkn 15 (h := ?_)); (try simp only [Act.put, tkd, tke, tkf])
      refine wpAnyH_ready (rs := [18]) (by kernel_rfl) (by simp) ?_; refine AllReadyH.cons (o := ?_) ?_ (fun K hK => ?_) AllReadyH.nil; rotate_left 1; (next => simp only [List.getElem?_toArray, List.getElem?_cons_succ, List.getElem?_cons_zero]; rfl); go_simp
      (go_at_call 180; (with_reducible refine (box_mayEnd _ _ _).mono ?_); rintro e u3 ⟨rfl, hb⟩; (try (with_reducible have hb := bl_undrew hb)); have k0 := keep_cell hb k0; have k1 := keep_cell hb k1; have HB3 := hide (bl_call hb HB3.out))
      (try go_wp2_with fail); refine hK.out _ _ (⟨k0, k1⟩) (fun hHeld => ?_); clear hK K; (try simp only [Act.put, List.setIfInBounds_toArray, List.set_cons_zero, List.set_cons_succ])
      (first | refine tky 19 (h := ?_) | refine tkn 19 (h := ?_)); (try simp only [Act.put, tkd, tke, tkf])
      refine wpAnyH_done (by kernel_rfl) ?_ _
      go_wp2
      refine bodyPost_ret (v := .bool (false)) (by simp [results, Try.results84, go_sem, *]) rfl ⟨by rw [E.out, HM.out], HB3.out⟩
    · have HM := hide hm
      clear hm
      refine wp_region_held_drew (S := fun u : World => u.cell? ⟨w.heap.size, 0, none⟩ = some (.slice (some ⟨g, 0, none⟩) L.length c1) ∧ u.cell? ⟨g, 0, none⟩ = some (.iface 171 (gpv a b c))) (by kernel_rfl) (by first | (simp [go_sem, *]; done) | exact ⟨k0, k1⟩) (fun hHeld => ?_)
      (first | refine tky 0 (h := ?_) | refine tkn 0 (h := ?_)); (try simp only [Act.put, tkd, tke, tkf])
      (first | refine tky 1 (h := ?_) | refine tkn 1 (h := ?_)); (try simp only [Act.put, tkd, tke, tkf])
      (first | refine tky 2 (h := ?_) | refine tkn 2 (h := ?_)); (try simp only [Act.put, tkd, tke, tkf])
      (first | refine tky 3 (h := ?_) | refine tkn 3 (h := ?_)); (try simp only [Act.put, tkd, tke, tkf])
      (first | refine tky 4 (h := ?_) | refine tkn 4 (h := ?_)); (try simp only [Act.put, tkd, tke, tkf])
      (first | refine tky 16 (h := ?_) | refine tkn 16 (h := ?_)); (try simp only [Act.put, tkd, tke, tkf])
      (first | refine tky 17 (h := ?_) | refine tkn 17 (h := ?_)); (try simp only [Act.put, tkd, tke, tkf])
      (first | refine tky 5 (h := ?_) | refine tkn 5 (h := ?_)); (try simp only [Act.put, tkd, tke, tkf])
      (first | refine tky 6 (h := ?_) | refine tkn 6 (h := ?_)); (try simp only [Act.put, tkd, tke, tkf])
      (first | refine tky 7 (h := ?_) | refine tkn 7 (h := ?_)); (try simp only [Act.put, tkd, tke, tkf])
      (first | refine tky 8 (h := ?_) | refine tkn 8 (h := ?_)); (try simp only [Act.put, tkd, tke, tkf])
      (first | refine tky 9 (h := ?_) | refine tkn 9 (h := ?_)); (try simp only [Act.put, tkd, tke, tkf])
      (first | refine tky 10 (h := ?_) | refine tkn 10 (h := ?_)); (try simp only [Act.put, tkd, tke, tkf])
      (first | refine tky 11 (h := ?_) | refine tkn 11 (h := ?_)); (try simp only [Act.put, tkd, tke, tkf])
      (first | refine tky 12 (h := ?_) | refine tkn 12 (h := ?_)); (try simp only [Act.put, tkd, tke, tkf])
      (first | refine tky 13 (h := ?_) | refine tkn 13 (h := ?_)); (try simp only [Act.put, tkd, tke, tkf])
      (first | refine tky 14 (h := ?_) | refine tkn 14 (h := ?_)); (try simp only [Act.put, tkd, tke, tkf])
      (first | refine tky 15 (h := ?_) | refine tkn 15 (h := ?_)); (try simp only [Act.put, tkd, tke, tkf])
      refine wpAnyH_ready (rs := [18]) (by kernel_rfl) (by simp) ?_; refine AllReadyH.cons (o := ?_) ?_ (fun K hK => ?_) AllReadyH.nil; rotate_left 1; (next => simp only [List.getElem?_toArray, List.getElem?_cons_succ, List.getElem?_cons_zero]; rfl); go_simp
      (go_at_call 186; (with_reducible refine (glue_mayEnd _ _ _ _ _).mono ?_); rintro e u3 ⟨rfl, hb⟩; (try (with_reducible have hb := bl_undrew hb)); have k0 := keep_cell hb k0; have k1 := keep_cell hb k1; have HB3 := hide (bl_call hb HB3.out))
      (try go_wp2_with fail); refine hK.out _ _ (⟨k0, k1⟩) (fun hHeld => ?_); clear hK K; (try simp only [Act.put, List.setIfInBounds_toArray, List.set_cons_zero, List.set_cons_succ])
      (first | refine tky 19 (h := ?_) | refine tkn 19 (h := ?_)); (try simp only [Act.put, tkd, tke, tkf])
      refine wpAnyH_done (by kernel_rfl) ?_ _
      go_wp2
      refine bodyPost_ret (v := .bool (false)) (by simp [results, Try.results84, go_sem, *]) rfl ⟨by rw [E.out, HM.out], HB3.out⟩
    · have HM := hide hm
      clear hm
      refine wp_region_held_drew (S := fun u : World => u.cell? ⟨w.heap.size, 0, none⟩ = some (.slice (some ⟨g, 0, none⟩) L.length c1) ∧ u.cell? ⟨g, 0, none⟩ = some (.iface 134 (ppv a p f))) (by kernel_rfl) (by first | (simp [go_sem, *]; done) | exact ⟨k0, k1⟩) (fun hHeld => ?_)
      (first | refine tky 0 (h := ?_) | refine tkn 0 (h := ?_)); (try simp only [Act.put, tkd, tke, tkf])
      (first | refine tky 1 (h := ?_) | refine tkn 1 (h := ?_)); (try simp only [Act.put, tkd, tke, tkf])
      (first | refine tky 2 (h := ?_) | refine tkn 2 (h := ?_)); (try simp only [Act.put, tkd, tke, tkf])
      (first | refine tky 3 (h := ?_) | refine tkn 3 (h := ?_)); (try simp only [Act.put, tkd, tke, tkf])
      (first | refine tky 4 (h := ?_) | refine tkn 4 (h := ?_)); (try simp only [Act.put, tkd, tke, tkf])
      (first | refine tky 16 (h := ?_) | refine tkn 16 (h := ?_)); (try simp only [Act.put, tkd, tke, tkf])
      (first | refine tky 17 (h := ?_) | refine tkn 17 (h := ?_)); (try simp only [Act.put, tkd, tke, tkf])
      (first | refine tky 5 (h := ?_) | refine tkn 5 (h := ?_)); (try simp only [Act.put, tkd, tke, tkf])
      (first | refine tky 6 (h := ?_) | refine tkn 6 (h := ?_)); (try simp only [Act.put, tkd, tke, tkf])
      (first | refine tky 7 (h := ?_) | refine tkn 7 (h := ?_)); (try simp only [Act.put, tkd, tke, tkf])
      (first | refine tky 8 (h := ?_) | refine tkn 8 (h := ?_)); (try simp only [Act.put, tkd, tke, tkf])
      (first | refine tky 9 (h := ?_) | refine tkn 9 (h := ?_)); (try simp only [Act.put, tkd, tke, tkf])
      (first | refine tky 10 (h := ?_) | refine tkn 10 (h := ?_)); (try simp only [Act.put, tkd, tke, tkf])
      (first | refine tky 11 (h := ?_) | refine tkn 11 (h := ?_)); (try simp only [Act.put, tkd, tke, tkf])
      (first | refine tky 12 (h := ?_) | refine tkn 12 (h := ?_)); (try simp only [Act.put, tkd, tke, tkf])
      (first | refine tky 13 (h := ?_) | refine tkn 13 (h := ?_)); (try simp only [Act.put, tkd, tke, tkf])
      (first | refine tky 14 (h := ?_) | refine tkn 14 (h := ?_)); (try simp only [Act.put, tkd, tke, tkf])
      (first | refine tky 15 (h := ?_) | refine tkn 15 (h := ?_)); (try simp only [Act.put, tkd, tke, tkf])
      refine wpAnyH_ready (rs := [18]) (by kernel_rfl) (by simp) ?_; refine AllReadyH.cons (o := ?_) ?_ (fun K hK => ?_) AllReadyH.nil; rotate_left 1; (next => simp only [List.getElem?_toArray, List.getElem?_cons_succ, List.getElem?_cons_zero]; rfl); go_simp
      (go_at_call 174; (with_reducible refine (pen_mayEnd _ _ _ _ _).mono ?_); rintro e u3 ⟨rfl, hb⟩; (try (with_reducible have hb := bl_undrew hb)); have k0 := keep_cell hb k0; have k1 := keep_cell hb k1; have HB3 := hide (bl_call hb HB3.out))
      (try go_wp2_with fail); refine hK.out _ _ (⟨k0, k1⟩) (fun hHeld => ?_); clear hK K; (try simp only [Act.put, List.setIfInBounds_toArray, List.set_cons_zero, List.set_cons_succ])
      (first | refine tky 19 (h := ?_) | refine tkn 19 (h := ?_)); (try simp only [Act.put, tkd, tke, tkf])
      refine wpAnyH_done (by kernel_rfl) ?_ _
      go_wp2
      refine bodyPost_ret (v := .bool (decide (p < 1000))) (by simp [results, Try.results84, go_sem, *]) rfl ⟨by rw [E.out, HM.out], HB3.out⟩
  · obtain ⟨m, hm⟩ : ∃ m, m = i - 1 := ⟨_, rfl⟩
    rw [← hm] at k2
    have wm : IntKind.i64.wrap ((i : Int) - 1) = (m : Int) := by rw [show (i : Int) - 1 = (m : Int) by omega]; exact IntWalk.i64_in _ (by omega)
    have i2 : (0 : Int) < (i : Int) := by omega
    have i3 : (m : Int) < (L.length : Int) := by omega
    have i4 : (0 : Int) ≤ (m : Int) := by omega
    have i5 : m < L.length := by omega
    have E := hide (show mayE L i = mE (tg L i) fb by rw [E.out, decide_eq_true h0]; rfl)
    clear hm
    have HB3 := hide (bl_alloc (bl_refl w) (.cells #[.slice (some ⟨g, 0, none⟩) L.length c1, v1, v2, v3] 82))
    go_enter Try.func84, Try.ntmps84
    go_upto_region 1 with fail
    rcases HK.out with ⟨rfl, ⟨a, rfl⟩, hm⟩ | ⟨rfl, ⟨a, b, c, rfl⟩, hm⟩ | ⟨rfl, a, p, f, rfl, hm⟩
    · have HM := hide hm
      clear hm
      go_region_held3 (fun u : World => u.cell? ⟨w.heap.size, 0, none⟩ = some (.slice (some ⟨g, 0, none⟩) L.length c1) ∧ u.cell? ⟨g, i, none⟩ = some (.iface 166 (bpv a)) ∧ u.cell? ⟨g, m, none⟩ = some (.iface qT qy)) (first | (simp [go_sem, *]; done) | exact ⟨k0, k1, k2⟩) (first | (go_at_call 112; (with_reducible refine (HIB.out _).mono ?_); rintro e u2 ⟨rfl, hb⟩; (try (with_reducible have hb := bl_undrew hb)); have k0 := keep_cell hb k0; have k1 := keep_cell hb k1; have k2 := keep_cell hb k2; have HB3 := hide (bl_call hb HB3.out)) | (go_at_call 180; (with_reducible refine (box_mayEnd _ _ _).mono ?_); rintro e u3 ⟨rfl, hb⟩; (try (with_reducible have hb := bl_undrew hb)); have k0 := keep_cell hb k0; have k1 := keep_cell hb k1; have k2 := keep_cell hb k2; have HB3 := hide (bl_call hb HB3.out)))
      all_goals go_wp2
      all_goals refine bodyPost_ret (v := .bool false) (by simp [results, Try.results84, go_sem, *]) rfl ⟨by rw [E.out, HM.out], HB3.out⟩
    · have HM := hide hm
      clear hm
      go_region_held3 (fun u : World => u.cell? ⟨w.heap.size, 0, none⟩ = some (.slice (some ⟨g, 0, none⟩) L.length c1) ∧ u.cell? ⟨g, i, none⟩ = some (.iface 171 (gpv a b c)) ∧ u.cell? ⟨g, m, none⟩ = some (.iface qT qy)) (first | (simp [go_sem, *]; done) | exact ⟨k0, k1, k2⟩) (first | (go_at_call 112; (with_reducible refine (HIB.out _).mono ?_); rintro e u2 ⟨rfl, hb⟩; (try (with_reducible have hb := bl_undrew hb)); have k0 := keep_cell hb k0; have k1 := keep_cell hb k1; have k2 := keep_cell hb k2; have HB3 := hide (bl_call hb HB3.out)) | (go_at_call 186; (with_reducible refine (glue_mayEnd _ _ _ _ _).mono ?_); rintro e u3 ⟨rfl, hb⟩; (try (with_reducible have hb := bl_undrew hb)); have k0 := keep_cell hb k0; have k1 := keep_cell hb k1; have k2 := keep_cell hb k2; have HB3 := hide (bl_call hb HB3.out)))
      all_goals go_wp2
      all_goals refine bodyPost_ret (v := .bool fb) (by simp [results, Try.results84, go_sem, *]) rfl ⟨by rw [E.out, HM.out], HB3.out⟩
    · have HM := hide hm
      clear hm
      go_region_held3 (fun u : World => u.cell? ⟨w.heap.size, 0, none⟩ = some (.slice (some ⟨g, 0, none⟩) L.length c1) ∧ u.cell? ⟨g, i, none⟩ = some (.iface 134 (ppv a p f)) ∧ u.cell? ⟨g, m, none⟩ = some (.iface qT qy)) (first | (simp [go_sem, *]; done) | exact ⟨k0, k1, k2⟩) (first | (go_at_call 112; (with_reducible refine (HIB.out _).mono ?_); rintro e u2 ⟨rfl, hb⟩; (try (with_reducible have hb := bl_undrew hb)); have k0 := keep_cell hb k0; have k1 := keep_cell hb k1; have k2 := keep_cell hb k2; have HB3 := hide (bl_call hb HB3.out)) | (go_at_call 174; (with_reducible refine (pen_mayEnd _ _ _ _ _).mono ?_); rintro e u3 ⟨rfl, hb⟩; (try (with_reducible have hb := bl_undrew hb)); have k0 := keep_cell hb k0; have k1 := keep_cell hb k1; have k2 := keep_cell hb k2; have HB3 := hide (bl_call hb HB3.out)))
      all_goals go_wp2
      all_goals refine bodyPost_ret (v := .bool (decide (p < 1000))) (by simp [results, Try.results84, go_sem, *]) rfl ⟨by rw [E.out, HM.out], HB3.out⟩
end Go.Proofs.Ytmncdpiojhgcdaa
