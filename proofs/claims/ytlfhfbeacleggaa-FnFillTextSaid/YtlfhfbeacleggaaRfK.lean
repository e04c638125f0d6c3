/- The iterator over pieces, where the body keeps all that the iterator reads, but not all that lies below it. -/
import Derived.Test.YtlfhfbeacleggaaRf
import Derived.Lib.BufferOwn
namespace Go.Proofs.Ytlfhfbeacleggaa
open Go.ChangeShapes Go.WideShapes Go.ChangeAt Go.RowKit Go.Shelf
set_option linter.unusedVariables false
attribute [local go_sem] Oper.semAt_some

/-- All blocks below n₁ but one are as they were. -/
def KB (n₁ B : Nat) (V W : World) : Prop := V.heap.size ≤ W.heap.size ∧ ∀ i, i < n₁ → i ≠ B → W.heap[i]? = V.heap[i]?
theorem KB.refl (n₁ B : Nat) (W : World) : KB n₁ B W W := ⟨Nat.le_refl _, fun _ _ _ => rfl⟩
theorem KB.trans {n₁ B : Nat} {U V W : World} (h : KB n₁ B U V) (k : KB n₁ B V W) : KB n₁ B U W := ⟨Nat.le_trans h.1 k.1, fun i hi hb => (k.2 i hi hb).trans (h.2 i hi hb)⟩
theorem KB.below {n₁ B : Nat} {V W : World} (h : Below n₁ V W) : KB n₁ B V W := ⟨h.size, fun i hi _ => h.block i hi⟩
theorem KB.set {n₁ B : Nat} {V W : World} (h : KB n₁ B V W) (j : Nat) (v : Value) : KB n₁ B V (W.setCell ⟨B, j, none⟩ v) :=
  ⟨Nat.le_trans h.1 (Lib.grownBy_setCell W B j v).size, fun i hi hb => by
    rcases Nat.lt_or_ge i W.heap.size with e | e
    · exact ((Lib.grownBy_setCell W B j v).block i e (fun x => hb (by injection x))).trans (h.2 i hi hb)
    · have hz : (W.setCell ⟨B, j, none⟩ v).heap.size = W.heap.size := by simp
      rw [← h.2 i hi hb, Array.getElem?_eq_none e, Array.getElem?_eq_none (by omega)]⟩
theorem KB.cell {n₁ B : Nat} {V W : World} (h : KB n₁ B V W) {p : Addr} (hp : p.block < n₁) (hb : p.block ≠ B) : W.cell? p = V.cell? p := by
  have := h.2 p.block hp hb
  unfold World.cell?
  rw [this]
set_option maxRecDepth 100000 in
set_option maxHeartbeats 2000000 in
theorem pieces1_k (F : Fence) (n : Nat) (h7 : F.fn 139) (hro : F.round = none) (hn : 1 ≤ n) (l B1 B2 : Nat) (Kp : World → World → Prop) (hKr : ∀ W, Kp W W) (hKt : ∀ {A B C : World}, Kp A B → Kp B C → Kp A C) (s : Int) (A : Option Addr) (c : Nat) (E : List Int) (hl : E.length ≤ 4611686018427387904) (J Jx : List (Fin E.length) → World → Prop)
    (hY : ∀ pre x W, J pre W → pre.length < E.length → YieldAt F (n - 1) Try.prog l (encP s E x) W fun e W' =>
      (e = .returned (.bool true) ∧ J (pre ++ [x]) W' ∧ Kp W W') ∨ (e = .returned (.bool false) ∧ Jx (pre ++ [x]) W'))
    (W : World) (hB1 : W.cell? ⟨B1, 0, none⟩ = some (.int .i64 s)) (hB2 : W.cell? ⟨B2, 0, none⟩ = some (.slice A E.length c))
    (hE : ∀ W', Kp W W' → ∀ j, j < E.length → ∃ b o, A = some ⟨b, o, none⟩ ∧ W'.cell? ⟨b, o + j, none⟩ = some (.int .i64 (ng E j))) (h0 : J [] W) :
    CallsIn F n Try.prog 139 #[.func (.yield l) #[] #[], .pointer (some ⟨B1, 0, none⟩), .pointer (some ⟨B2, 0, none⟩)] W fun e W' => (∃ v, e = .returned v) ∧
      ((∃ ys, ys = pcs E.length E.length ∧ J ys W') ∨ (∃ pre, (∃ k, k ≤ E.length ∧ pre = pcs E.length k) ∧ Jx pre W')) := by
  refine callsIn_of_wp Try.func139 rfl h7 ?_ hro
  simp only [Try.ntmps139, List.size_toArray, List.length_cons, List.length_nil, Nat.reduceAdd, Nat.reduceSub, Array.replicate_succ, Array.replicate_zero, List.push_toArray, List.append_toArray, List.nil_append, List.cons_append]
  gi_wp2
  clear hB1 hB2
  gi_loopw [4, 10] (fun f i wr => ∃ k : Nat, k ≤ E.length ∧ f = .int .i64 (frm s E k) ∧ i = .int .i64 k ∧ J (pcs E.length k) wr ∧ Kp W wr) (fun _ i _ => E.length - (intOf i).toNat)
  case atStart => exact ⟨0, Nat.zero_le _, rfl, rfl, by rw [pcs_zero]; exact h0, hKr _⟩
  case round =>
    obtain ⟨k, hk, rfl, rfl, hJs, hnx⟩ := hrel
    by_cases hlt : k < E.length
    · obtain ⟨b, o, rfl, hc'⟩ := hE wr hnx k hlt
      obtain ⟨fn, tmps, assign, body, hy, hR⟩ := hY _ ⟨k, hlt⟩ wr hJs (by rw [pcs_len hk]; exact hlt)
      dsimp only [encP] at hy
      gi_wp2
      refine hR.mono ?_
      rintro e W3 (⟨rfl, hJ3, hk3⟩ | ⟨rfl, hJx3⟩)
      · gi_wp2
        go_roundw
        case rel => exact ⟨k + 1, by omega, by rw [frm_succ], by simp, by rw [pcs_succ hlt]; exact hJ3, hKt hnx hk3⟩
        case measure => simp [intOf]; omega
      · gi_wp2
        refine bodyPost_ret (results_none rfl _ _ _) rfl ?_
        exact ⟨⟨_, rfl⟩, .inr ⟨_, ⟨k + 1, by omega, (pcs_succ hlt).symm⟩, hJx3⟩⟩
    · obtain rfl : k = E.length := by omega
      gi_wp2
      go_end0
      exact ⟨⟨_, rfl⟩, .inl ⟨_, rfl, hJs⟩⟩
end Go.Proofs.Ytlfhfbeacleggaa
