/- The iterator over pieces, and a range over it: 'for from, to := range piecesOf(start, ends)'. -/
import Derived.RangeFuncWrites
import Derived.RangeFuncBox
import Derived.RangeFuncLeaves
import Derived.RangeFuncBound
import Derived.RangeFuncCalls
import Derived.Shelf.Abstract
import Derived.WalkKit
import Derived.OwnWalkIn
import Derived.TacticsInMore
import Derived.LoopNIn
import Derived.LoopIn
import Derived.Test.YtlfhfbeacleggaaInts
namespace Go.Proofs.Ytlfhfbeacleggaa
open Go.ChangeShapes Go.WideShapes Go.ChangeAt Go.RowKit Go.Shelf
set_option linter.unusedVariables false
attribute [local go_sem] Oper.semAt_some

/-- Where piece k begins. -/
def frm (s : Int) (E : List Int) (k : Nat) : Int := if k = 0 then s else ng E (k - 1)
theorem frm_zero (s : Int) (E : List Int) : frm s E 0 = s := rfl
theorem frm_succ (s : Int) (E : List Int) (k : Nat) : frm s E (k + 1) = ng E k := rfl
/-- The first k pieces, by number. -/
def pcs (n k : Nat) : List (Fin n) := (List.finRange n).take k
theorem pcs_len {n k : Nat} (h : k ≤ n) : (pcs n k).length = k := by simp [pcs]; omega
theorem pcs_zero (n : Nat) : pcs n 0 = [] := by simp [pcs]
theorem pcs_succ {n k : Nat} (h : k < n) : pcs n (k + 1) = pcs n k ++ [⟨k, h⟩] := by
  unfold pcs
  rw [List.take_succ_eq_append_getElem (by simpa using h)]
  simp
abbrev encP (s : Int) (E : List Int) (x : Fin E.length) : Array Value := #[.int .i64 (frm s E x.val), .int .i64 (ng E x.val)]
set_option maxRecDepth 100000 in
set_option maxHeartbeats 2000000 in
theorem pieces1_in (F : Fence) (n : Nat) (h7 : F.fn 139) (hro : F.round = none) (hn : 1 ≤ n) (l B1 B2 n₀ : Nat) (s : Int) (A : Option Addr) (c : Nat) (E : List Int) (hl : E.length ≤ 4611686018427387904) (J Jx : List (Fin E.length) → World → Prop)
    (hY : ∀ pre x W, J pre W → pre.length < E.length → YieldAt F (n - 1) Try.prog l (encP s E x) W fun e W' =>
      (e = .returned (.bool true) ∧ J (pre ++ [x]) W' ∧ Below n₀ W W') ∨ (e = .returned (.bool false) ∧ Jx (pre ++ [x]) W'))
    (W : World) (hB1 : W.cell? ⟨B1, 0, none⟩ = some (.int .i64 s)) (hB2 : W.cell? ⟨B2, 0, none⟩ = some (.slice A E.length c))
    (hE : ∀ j, j < E.length → ∃ b o, A = some ⟨b, o, none⟩ ∧ b < n₀ ∧ W.cell? ⟨b, o + j, none⟩ = some (.int .i64 (ng E j))) (h0 : J [] W) :
    CallsIn F n Try.prog 139 #[.func (.yield l) #[] #[], .pointer (some ⟨B1, 0, none⟩), .pointer (some ⟨B2, 0, none⟩)] W fun e W' => (∃ v, e = .returned v) ∧
      ((∃ ys, ys = pcs E.length E.length ∧ J ys W') ∨ (∃ pre, (∃ k, k ≤ E.length ∧ pre = pcs E.length k) ∧ Jx pre W')) := by
  refine callsIn_of_wp Try.func139 rfl h7 ?_ hro
  simp only [Try.ntmps139, List.size_toArray, List.length_cons, List.length_nil, Nat.reduceAdd, Nat.reduceSub, Array.replicate_succ, Array.replicate_zero, List.push_toArray, List.append_toArray, List.nil_append, List.cons_append]
  gi_wp2
  clear hB1 hB2
  gi_loopw [4, 10] (fun f i wr => ∃ k : Nat, k ≤ E.length ∧ f = .int .i64 (frm s E k) ∧ i = .int .i64 k ∧ J (pcs E.length k) wr ∧ Below n₀ W wr) (fun _ i _ => E.length - (intOf i).toNat)
  case atStart => exact ⟨0, Nat.zero_le _, rfl, rfl, by rw [pcs_zero]; exact h0, Below.refl _ _⟩
  case round =>
    obtain ⟨k, hk, rfl, rfl, hJs, hnx⟩ := hrel
    by_cases hlt : k < E.length
    · obtain ⟨b, o, rfl, hb, hc⟩ := hE k hlt
      have hc' := (hnx.cell (p := ⟨b, o + k, none⟩) hb).trans hc
      obtain ⟨fn, tmps, assign, body, hy, hR⟩ := hY _ ⟨k, hlt⟩ wr hJs (by rw [pcs_len hk]; exact hlt)
      dsimp only [encP] at hy
      clear hc
      gi_wp2
      refine hR.mono ?_
      rintro e W3 (⟨rfl, hJ3, hk3⟩ | ⟨rfl, hJx3⟩)
      · gi_wp2
        go_roundw
        case rel => exact ⟨k + 1, by omega, by rw [frm_succ], by simp, by rw [pcs_succ hlt]; exact hJ3, hnx.trans hk3⟩
        case measure => simp [intOf]; omega
      · gi_wp2
        refine bodyPost_ret (results_none rfl _ _ _) rfl ?_
        exact ⟨⟨_, rfl⟩, .inr ⟨_, ⟨k + 1, by omega, (pcs_succ hlt).symm⟩, hJx3⟩⟩
    · obtain rfl : k = E.length := by omega
      gi_wp2
      go_end0
      exact ⟨⟨_, rfl⟩, .inl ⟨_, rfl, hJs⟩⟩
theorem pieces_stops (F : Fence) (n : Nat) (h7 : F.fn 139) (hro : F.round = none) (hn : 1 ≤ n) (B1 B2 n₀ : Nat) (s : Int) (A : Option Addr) (c : Nat) (E : List Int) (hl : E.length ≤ 4611686018427387904) (w : World) (hb1 : B1 < w.heap.size) (hb2 : B2 < w.heap.size) (hn₀ : n₀ ≤ w.heap.size)
    (hB1 : w.cell? ⟨B1, 0, none⟩ = some (.int .i64 s)) (hB2 : w.cell? ⟨B2, 0, none⟩ = some (.slice A E.length c))
    (hE : ∀ j, j < E.length → ∃ b o, A = some ⟨b, o, none⟩ ∧ b < n₀ ∧ w.cell? ⟨b, o + j, none⟩ = some (.int .i64 (ng E j))) :
    SeqStopsK F n Try.prog 139 #[.pointer (some ⟨B1, 0, none⟩), .pointer (some ⟨B2, 0, none⟩)] (encP s E) (Below n₀) (fun ys => ys = pcs E.length E.length) (fun pre => ∃ k, k ≤ E.length ∧ pre = pcs E.length k) E.length w := fun l J Jx W hW _ _ hY h0 =>
  pieces1_in F n h7 hro hn l B1 B2 n₀ s A c E hl J Jx hY W ((hW.cell (p := ⟨B1, 0, none⟩) hb1).trans hB1) ((hW.cell (p := ⟨B2, 0, none⟩) hb2).trans hB2)
    (fun j hj => by
      obtain ⟨b, o, e, hb, hc⟩ := hE j hj
      exact ⟨b, o, e, hb, (hW.cell (p := ⟨b, o + j, none⟩) (Nat.lt_of_lt_of_le hb hn₀)).trans hc⟩) h0
theorem piecesOf_i (s : Int) (A : Option Addr) (n c : Nat) (w : World) :
    Calls Try.prog 79 #[.int .i64 s, .slice A n c] w fun e w' => e = .returned (.func (.func 139) #[] #[.pointer (some ⟨w.heap.size, 0, none⟩), .pointer (some ⟨w.heap.size + 1, 0, none⟩)]) ∧ (w.alloc (.cells #[.int .i64 s] 3)).alloc (.cells #[.slice A n c] 32) = w' := by
  go_enter Try.func79, Try.ntmps79
  go_wp2
  go_ret
  exact ⟨rfl, rfl⟩
end Go.Proofs.Ytlfhfbeacleggaa
