/- What a stretch of a walk has left as it was: all blocks but those of one span, and new ones. They speak of no program. -/
import Derived.Test.YtlfhfbeacleggabTk
import Derived.Test.YtlfhfbeacleggabFlat
namespace Go.Proofs.Ytlfhfbeacleggab
open Go.ChangeShapes Go.WideShapes Go.ChangeAt Go.RowKit
set_option linter.unusedSimpArgs false
set_option linter.unusedVariables false

/-- From w to w' no block that was there has turned, but those from B on and below T. -/
structure Sp (B T : Nat) (w w' : World) : Prop where
  os : w'.os = w.os
  tape : w'.tape = w.tape
  output : w'.output = w.output
  size : w.heap.size ≤ w'.heap.size
  block : ∀ i, i < w.heap.size → i < B ∨ T ≤ i → w'.heap[i]? = w.heap[i]?

section
variable {B T B' n c : Nat} {w W w1 : World}
theorem sp_refl (B T : Nat) (w : World) : Sp B T w w := ⟨rfl, rfl, rfl, Nat.le_refl _, fun _ _ _ => rfl⟩
theorem sp_drewN (h : Sp B T w W) (k : Nat) : Sp B T w (W.drewN k) := ⟨h.os, h.tape, h.output, h.size, h.block⟩
theorem sp_drew (h : Sp B T w W) : Sp B T w W.drew := ⟨h.os, h.tape, h.output, h.size, h.block⟩
theorem sp_alloc (h : Sp B T w W) (o : Obj) : Sp B T w (W.alloc o) := ⟨h.os, h.tape, h.output, Nat.le_trans h.size (by simp), fun i hi hk => (Below.heap_alloc W o i (Nat.lt_of_lt_of_le hi h.size)).trans (h.block i hi hk)⟩
theorem sp_set (h : Sp B T w W) {p : Addr} (hp : (B ≤ p.block ∧ p.block < T) ∨ w.heap.size ≤ p.block) (u : Value) : Sp B T w (W.setCell p u) :=
  ⟨h.os, h.tape, h.output, by simpa [World.setCell] using h.size, fun i hi hk => (Below.heap_setCell W p u i (by rintro rfl; omega)).trans (h.block i hi hk)⟩
theorem sp_call (hb : Below W.heap.size W w1) (h : Sp B T w W) : Sp B T w w1 := ⟨hb.os.trans h.os, hb.tape.trans h.tape, hb.output.trans h.output, Nat.le_trans h.size hb.size, fun i hi hk => (hb.block i (Nat.lt_of_lt_of_le hi h.size)).trans (h.block i hi hk)⟩
theorem sp_grown (h : Sp B T w W) {row : Option Nat} (hg : W.grownBy w1 row) (hr : ∀ k, row = some k → (B ≤ k ∧ k < T) ∨ w.heap.size ≤ k) : Sp B T w w1 :=
  ⟨hg.os.trans h.os, hg.tape.trans h.tape, hg.output.trans h.output, Nat.le_trans h.size hg.size, fun i hi hk => (hg.block i (Nat.lt_of_lt_of_le hi h.size) (fun e => by have := hr i e.symm; omega)).trans (h.block i hi hk)⟩
theorem sp_trans (h : Sp B T w W) (h' : Sp B T W w1) : Sp B T w w1 := ⟨h'.os.trans h.os, h'.tape.trans h.tape, h'.output.trans h.output, Nat.le_trans h.size h'.size, fun i hi hk => (h'.block i (Nat.lt_of_lt_of_le hi h.size) hk).trans (h.block i hi hk)⟩
theorem bl_sp {w0 : World} (h0 : Below w0.heap.size w0 w) (h : Sp B T w W) (hB : w0.heap.size ≤ B) : Below w0.heap.size w0 W :=
  ⟨h.os.trans h0.os, h.tape.trans h0.tape, h.output.trans h0.output, Nat.le_trans h0.size h.size, fun i hi => (h.block i (Nat.lt_of_lt_of_le hi h0.size) (.inl (Nat.lt_of_lt_of_le hi hB))).trans (h0.block i hi)⟩
theorem own_sp {e : TypeId} {size : Nat} {v : Value} {xs : List Value} (h : w.ownsRow B' e size v n xs) (hs : Sp B T w W) (hk : ∀ k, v.ownBlock = some k → k < B ∨ T ≤ k) : W.ownsRow B' e size v n xs := by
  refine ⟨h.1, ?_⟩
  rcases h.2 with h0 | ⟨g, cap, cur, h1, h2, h3, h4⟩
  · exact .inl h0
  · refine .inr ⟨g, cap, cur, h1, h2, ?_, h4⟩
    rw [hs.block g (Array.getElem?_eq_some_iff.1 h3).1 (hk g (by rw [h1]; rfl))]
    exact h3
theorem OL.sp {e : TypeId} {A : Option Addr} {l : List Int} (h : OL w e B' A c l) (hs : Sp B T w W) (hk : T ≤ B') : OL W e B' A c l := own_sp h hs (fun k h1 => .inr (Nat.le_trans hk (h.own_lt k h1).1))
theorem TO.sp {α : Type} [Rec α] {e : TypeId} {A : Option Addr} {l : List α} (h : TO w e B' A c l) (hs : Sp B T w W) (hk : T ≤ B') : TO W e B' A c l := own_sp h hs (fun k h1 => .inr (Nat.le_trans hk (h.own_lt k h1).1))
end
end Go.Proofs.Ytlfhfbeacleggab
