/- Small lemmas that every walk of this repo uses. They speak of no program. -/
import Derived.WalkKit
import Derived.ProofKit
import Derived.OpenShut
import Derived.Lib.Hide
import Derived.Deep.QuietTactic
import Derived.BigQuiet
import Derived.Deep.Draws
import Derived.Deep.OwnRows
import Derived.OwnWalk
import Derived.Laws.OwnMore
import Derived.Deep.AppendLies
import Derived.Below
import Derived.Deep.RegionHeld3
namespace Go.Proofs.Ytlfhfbeacleggab
open Go.ChangeShapes Go.WideShapes Go.ChangeAt Go.RowKit
set_option linter.unusedSimpArgs false

section
variable {w W w1 : World} {B : Nat}
theorem bl_refl (w : World) : Below w.heap.size w w := Below.refl _ _
theorem bl_alloc (h : Below w.heap.size w W) (o : Obj) : Below w.heap.size w (W.alloc o) := h.alloc h.size o
theorem bl_set (h : Below w.heap.size w W) {p : Addr} (hp : w.heap.size ≤ p.block) (v : Value) : Below w.heap.size w (W.setCell p v) := h.setCell hp v
theorem bl_drew (h : Below w.heap.size w W) : Below w.heap.size w W.drew := ⟨h.os, h.tape, h.output, h.size, h.block⟩
theorem bl_drewN (h : Below w.heap.size w W) (n : Nat) : Below w.heap.size w (W.drewN n) := ⟨h.os, h.tape, h.output, h.size, h.block⟩
theorem bl_undrew (h : Below W.drew.heap.size W.drew w1) : Below W.heap.size W w1 := ⟨h.os, h.tape, h.output, h.size, h.block⟩
theorem bl_call (h : Below W.heap.size W w1) (h0 : Below w.heap.size w W) : Below w.heap.size w w1 := h0.trans (h.mono h0.size)
theorem bl_sz (h : Below W.heap.size W w1) : W.heap.size ≤ w1.heap.size := h.size
theorem bl_lt (h : Below W.heap.size W w1) : ∀ x, x < W.heap.size → x < w1.heap.size := fun _ hx => Nat.lt_of_lt_of_le hx h.size
theorem keep_cell (h : Below W.heap.size W w1) {p : Addr} {v : Value} (hc : W.cell? p = some v) : w1.cell? p = some v := (h.cell (World.block_lt_of_cell? W _ hc)).trans hc
theorem keep_alloc {p : Addr} {v : Value} (hc : W.cell? p = some v) (o : Obj) : (W.alloc o).cell? p = some v := (World.cell?_alloc_lt W o p (World.block_lt_of_cell? W _ hc)).trans hc
theorem keep_set {p q : Addr} {v : Value} (hc : W.cell? p = some v) (hne : p ≠ q) (u : Value) : (W.setCell q u).cell? p = some v := (World.cell?_setCell_other W q p u (Ne.symm hne)).trans hc
theorem keep_box3 {p : Addr} {v : Value} (hc : W.cell? p = some v) (o : Obj) (a b c : Value) : ((((W.alloc o).setCell ⟨W.heap.size, 0, none⟩ a).setCell ⟨W.heap.size, 1, none⟩ b).setCell ⟨W.heap.size, 2, none⟩ c).cell? p = some v := by
  have hl := World.block_lt_of_cell? W _ hc
  refine keep_set (keep_set (keep_set (keep_alloc hc o) ?_ _) ?_ _) ?_ _
  all_goals
    intro e
    subst e
    simp at hl
theorem keep_swap {p : Addr} {v : Value} {o : Obj} (hc : (W.alloc o).cell? p = some v) (hl : p.block < W.heap.size) (o' : Obj) : (W.alloc o').cell? p = some v :=
  ((World.cell?_alloc_lt W o' p hl).trans (World.cell?_alloc_lt W o p hl).symm).trans hc
theorem keep_set3 {p : Addr} {v : Value} {n : Nat} (hc : W.cell? p = some v) (hl : p.block < n) (a b c : Value) : (((W.setCell ⟨n, 0, none⟩ a).setCell ⟨n, 1, none⟩ b).setCell ⟨n, 2, none⟩ c).cell? p = some v := by
  refine keep_set (keep_set (keep_set hc ?_ _) ?_ _) ?_ _
  all_goals
    intro e
    subst e
    simp at hl
theorem lt_set3 {n : Nat} (hn : n < W.heap.size) (p q r : Addr) (a b c : Value) : n < (((W.setCell p a).setCell q b).setCell r c).heap.size := by simpa using hn
theorem lt_call (h : Below W.heap.size W w1) {n : Nat} (hn : n < W.heap.size) : n < w1.heap.size := Nat.lt_of_lt_of_le hn h.size
theorem lt_alloc {n : Nat} (hn : n < W.heap.size) (o : Obj) : n < (W.alloc o).heap.size := Nat.lt_of_lt_of_le hn (by simp)
theorem lt_box3 {n : Nat} (hn : n < W.heap.size) (o : Obj) (a b c : Value) : n < ((((W.alloc o).setCell ⟨W.heap.size, 0, none⟩ a).setCell ⟨W.heap.size, 1, none⟩ b).setCell ⟨W.heap.size, 2, none⟩ c).heap.size := Nat.lt_of_lt_of_le hn (by simp)
theorem bcell (hb : Below W.heap.size W w1) : (∀ b o, b < W.heap.size → w1.cell? ⟨b, o, none⟩ = W.cell? ⟨b, o, none⟩) ∧ (∀ b o, b < W.heap.size → w1.frozen? ⟨b, o, none⟩ = W.frozen? ⟨b, o, none⟩) :=
  ⟨fun b o h => hb.cell (p := ⟨b, o, none⟩) h, fun b o h => hb.frozen (p := ⟨b, o, none⟩) h⟩
theorem bcell1 {o : Obj} (hb : Below (W.alloc o).heap.size (W.alloc o) w1) : (∀ b k, b < W.heap.size → w1.cell? ⟨b, k, none⟩ = W.cell? ⟨b, k, none⟩) ∧ (∀ b k, b < W.heap.size → w1.frozen? ⟨b, k, none⟩ = W.frozen? ⟨b, k, none⟩) := by
  have h : Below W.heap.size W w1 := bl_call hb (bl_alloc (bl_refl _) _)
  exact bcell h
theorem bcell2 {o o' : Obj} (hb : Below ((W.alloc o).alloc o').heap.size ((W.alloc o).alloc o') w1) : (∀ b k, b < W.heap.size → w1.cell? ⟨b, k, none⟩ = W.cell? ⟨b, k, none⟩) ∧ (∀ b k, b < W.heap.size → w1.frozen? ⟨b, k, none⟩ = W.frozen? ⟨b, k, none⟩) := by
  have h : Below W.heap.size W w1 := bl_call hb (bl_alloc (bl_alloc (bl_refl _) _) _)
  exact bcell h
end

theorem bool_ret {a b : Bool} (h : a = b) : Ending.returned (.bool a) = .returned (.bool b) := by rw [h]
theorem int_ret {k : IntKind} {a b : Int} (h : a = b) : Ending.returned (.int k a) = .returned (.int k b) := by rw [h]
theorem str_ret {a b : ByteArray} (h : a = b) : Ending.returned (.string a) = .returned (.string b) := by rw [h]
theorem val_ret {a b : Value} (h : a = b) : Ending.returned a = .returned b := by rw [h]
theorem tup2_ret {a b c d : Value} (h : a = c) (k : b = d) : Ending.returned (.tuple #[a, b]) = .returned (.tuple #[c, d]) := by rw [h, k]
theorem int_val {k : IntKind} {a b : Int} (h : a = b) : Value.int k a = Value.int k b := by rw [h]
theorem bool_val {a b : Bool} (h : a = b) : Value.bool a = Value.bool b := by rw [h]

theorem hide {p : Prop} (h : p) : Hid p := h
end Go.Proofs.Ytlfhfbeacleggab
