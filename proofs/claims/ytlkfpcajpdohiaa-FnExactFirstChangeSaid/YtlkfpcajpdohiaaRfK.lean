/- The iterator over pieces, where the body keeps all that the iterator reads, but not all that lies below it. -/
import Derived.Test.YtlkfpcajpdohiaaSa
import Derived.Lib.BufferOwn
namespace Go.Proofs.Ytlkfpcajpdohiaa
open Go.ChangeShapes Go.WideShapes Go.ChangeAt Go.RowKit Go.Shelf
set_option linter.unusedVariables false
attribute [local go_sem] Oper.semAt_some

/-- All blocks below n₁ but one are as they were. -/
def KB (n₁ B : Nat) (V W : World) : Prop := V.heap.size ≤ W.heap.size ∧ ∀ i, i < n₁ → i ≠ B → W.heap[i]? = V.heap[i]?
theorem KB.refl (n₁ B : Nat) (W : World) : KB n₁ B W W := ⟨Nat.le_refl _, fun _ _ _ => rfl⟩
theorem KB.trans {n₁ B : Nat} {U V W : World} (h : KB n₁ B U V) (k : KB n₁ B V W) : KB n₁ B U W := ⟨Nat.le_trans h.1 k.1, fun i hi hb => (k.2 i hi hb).trans (h.2 i hi hb)⟩
theorem KB.below {n₁ B : Nat} {V W : World} (h : Below n₁ V W) : KB n₁ B V W := ⟨h.size, fun i hi _ => h.block i hi⟩
theorem KB.set {n₁ B : Nat} {V W : World} (h : KB n₁ B V W) (j : Nat) (v : Value) : KB n₁ B V (W.setCell ⟨B, j, none⟩ v) :=
  ⟨Nat.le_trans h.1 (Lib.grownBy_setCell W B j v).size, fun i hi hb => by
    rcases Nat.lt_or_ge i W.heap.size with e | e
    · exact ((Lib.grownBy_setCell W B j v).block i e (fun x => hb (by injection x))).trans (h.2 i hi hb)
    · have hz : (W.setCell ⟨B, j, none⟩ v).heap.size = W.heap.size := by simp
      rw [← h.2 i hi hb, Array.getElem?_eq_none e, Array.getElem?_eq_none (by omega)]⟩
theorem KB.cell {n₁ B : Nat} {V W : World} (h : KB n₁ B V W) {p : Addr} (hp : p.block < n₁) (hb : p.block ≠ B) : W.cell? p = V.cell? p := by
  have := h.2 p.block hp hb
  unfold World.cell?
  rw [this]
end Go.Proofs.Ytlkfpcajpdohiaa
