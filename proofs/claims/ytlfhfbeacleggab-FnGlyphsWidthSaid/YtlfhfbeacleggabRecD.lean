/- What stays while the reader reads: rows and boxes of records. It speaks of no program. -/
import Derived.Test.YtlfhfbeacleggabRead
import Derived.Test.YtlfhfbeacleggabRec3
import Derived.Test.YtlfhfbeacleggabRecA
namespace Go.Proofs.Ytlfhfbeacleggab
open Go.ChangeShapes Go.WideShapes Go.ChangeAt Go.RowKit
set_option linter.unusedSimpArgs false
set_option linter.unusedVariables false

theorem RD.belowR {w w' : World} {B B' g N : Nat} (h : RD w B g N) (hb : Below B' w w') (hB : B ≤ B') : RD w' B g N :=
  h.keep (fun _ hq => hb.cell (Nat.lt_of_lt_of_le hq hB)) (fun _ hq => hb.frozen (Nat.lt_of_lt_of_le hq hB)) hb.size
theorem on_belowR {w w' a : World} {B g : Nat} (h : Below B w w') (hB : a.heap.size ≤ B) (h0 : a.grownBy w (some g)) : a.grownBy w' (some g) :=
  ⟨h.os.trans h0.os, h.tape.trans h0.tape, h.output.trans h0.output, Nat.le_trans h0.size h.size, fun i hi hne => (h.block i (by omega)).trans (h0.block i hi hne)⟩
theorem TO.read {w w' : World} {B g c : Nat} {e : TypeId} {A : Option Addr} {L : List Gp} (h : TO w e B A c L) (hg : w.grownBy w' (some g)) (hlt : g < B) : TO w' e B A c L :=
  h.kept hg (fun k hk e => by
    have := (h.own_lt k hk).1
    injection e with e
    omega)
theorem TO.setFar {w : World} {B c : Nat} {e : TypeId} {A : Option Addr} {L : List Gp} (h : TO w e B A c L) {p : Addr} (hp : ∀ k, (Value.slice A L.length c).ownBlock = some k → k ≠ p.block) (v : Value) : TO (w.setCell p v) e B A c L :=
  h.kept (on_set (on_refl w (some p.block)) (.inl rfl) v) (fun k hk e => by
    injection e with e
    exact hp k hk e.symm)
theorem cells3 (u : World) (a b c : Int) (t : TypeId) : ∀ j, j < Rec.size Gp → (u.alloc (.cells #[.int .i64 a, .int .i64 b, .int .i64 c] t)).cell? ⟨u.heap.size, j, none⟩ = (Rec.cells (⟨a, b, c⟩ : Gp))[j]? := by
  intro j hj
  have hj' : j < 3 := hj
  rcases (by omega : j = 0 ∨ j = 1 ∨ j = 2) with rfl | rfl | rfl <;> simp [go_sem, Rec.cells]
theorem cells3_at {W : World} {n : Nat} {a b c : Int} {t : TypeId} (h : W.heap.size = n) : ∀ j, j < Rec.size Gp → (W.alloc (.cells #[.int .i64 a, .int .i64 b, .int .i64 c] t)).cell? ⟨n, j, none⟩ = (Rec.cells (⟨a, b, c⟩ : Gp))[j]? := by
  subst h
  exact cells3 W a b c t
theorem ones3 (x : Gp) : ∀ u ∈ Rec.cells x, u.oneCell' = true := by
  intro u hu
  simp [Rec.cells] at hu
  rcases hu with rfl | rfl | rfl <;> rfl
theorem TO.setF {w : World} {B g c : Nat} {e : TypeId} {L : List Gp} (h : TO w e B (some ⟨g, 0, none⟩) c L) (h0 : 0 < L.length) (z : Int) : ∃ L' : List Gp, L'.length = L.length ∧ TO (w.setCell ⟨g, 0, none⟩ (.int .i64 z)) e B (some ⟨g, 0, none⟩) c L' := by
  cases L with
  | nil => simp at h0
  | cons r L =>
    refine ⟨⟨z, r.b, r.v⟩ :: L, rfl, ?_⟩
    have := (World.ownsRow.stored h 0 (.int .i64 z)).1
    unfold TO
    simpa [Rec.cells] using this
theorem TO.setV {w : World} {B g c : Nat} {e : TypeId} {L : List Gp} (h : TO w e B (some ⟨g, 0, none⟩) c L) (h0 : 0 < L.length) (z : Int) : ∃ L' : List Gp, L'.length = L.length ∧ TO (w.setCell ⟨g, 2, none⟩ (.int .i64 z)) e B (some ⟨g, 0, none⟩) c L' := by
  cases L with
  | nil => simp at h0
  | cons r L =>
    refine ⟨⟨r.a, r.b, z⟩ :: L, rfl, ?_⟩
    have := (World.ownsRow.stored h 2 (.int .i64 z)).1
    unfold TO
    simpa [Rec.cells] using this
/-- A record in a block of its own. -/
def B3 (u : World) (g : Nat) (a b c : Int) : Prop := (u.cell? ⟨g, 0, none⟩ = some (.int .i64 a) ∧ u.cell? ⟨g, 1, none⟩ = some (.int .i64 b) ∧ u.cell? ⟨g, 2, none⟩ = some (.int .i64 c)) ∧ u.frozen? ⟨g, 0, none⟩ = false ∧ u.frozen? ⟨g, 1, none⟩ = false ∧ u.frozen? ⟨g, 2, none⟩ = false
theorem B3.new (u : World) (a b c : Int) (t : TypeId) : B3 (u.alloc (.cells #[.int .i64 a, .int .i64 b, .int .i64 c] t)) u.heap.size a b c := by
  refine ⟨⟨?_, ?_, ?_⟩, ?_, ?_, ?_⟩ <;> simp [go_sem]
theorem B3.on {u u' : World} {r g : Nat} {a b c : Int} (h : B3 u g a b c) (hon : u.grownBy u' (some r)) (hne : g ≠ r) : B3 u' g a b c := by
  obtain ⟨⟨h0, h1, h2⟩, f0, f1, f2⟩ := h
  have hl : g < u.heap.size := World.block_lt_of_cell? u _ h0
  exact ⟨⟨(on_cell hon _ _ hl hne).trans h0, (on_cell hon _ _ hl hne).trans h1, (on_cell hon _ _ hl hne).trans h2⟩, (on_frozen hon _ _ hl hne).trans f0, (on_frozen hon _ _ hl hne).trans f1, (on_frozen hon _ _ hl hne).trans f2⟩
end Go.Proofs.Ytlfhfbeacleggab
