/- The places of pages: an iterator over 1 to n. -/
import Derived.Test.YtkclecfjpabplaaRgN
import Derived.Test.YtkclecfjpabplaaFrame
import Derived.WalkKit
import Derived.OwnWalkIn
import Derived.TacticsInMore
import Derived.LoopNIn
import Derived.LoopIn
namespace Go.Proofs.Ytkclecfjpabplaa
open Go.ChangeShapes Go.WideShapes Go.ChangeAt Go.RowKit Go.Shelf
set_option linter.unusedVariables false
attribute [local go_sem] Oper.semAt_some

abbrev encU (N k : Nat) : Array Value := #[.int .i64 ((k : Int) + 1), .bool (((k : Int) + 1) == (N : Int))]
set_option maxRecDepth 100000 in
set_option maxHeartbeats 2000000 in
theorem upto1_in (F : Fence) (n : Nat) (h7 : F.fn 106) (hro : F.round = none) (hn : 1 ≤ n) (l B1 n₀ N : Nat) (hN : N ≤ 1000000) (J : Nat → World → Prop)
    (hY : ∀ k W1, k < N → J k W1 → YieldAt F (n - 1) Try.prog l (encU N k) W1 fun e W' => e = .returned (.bool true) ∧ J (k + 1) W' ∧ Below n₀ W1 W')
    (W : World) (hB1 : W.cell? ⟨B1, 0, none⟩ = some (.int .i64 N)) (hlt0 : B1 < n₀) (h0 : J 0 W) :
    CallsIn F n Try.prog 106 #[.func (.yield l) #[] #[], .pointer (some ⟨B1, 0, none⟩)] W fun e W' => (∃ v, e = .returned v) ∧ J N W' := by
  refine callsIn_of_wp Try.func106 rfl h7 ?_ hro
  simp only [Try.ntmps106, List.size_toArray, List.length_cons, List.length_nil, Nat.reduceAdd, Nat.reduceSub, Array.replicate_succ, Array.replicate_zero, List.push_toArray, List.append_toArray, List.nil_append, List.cons_append]
  gi_wp2
  gi_loopw [3] (fun i wr => ∃ k : Nat, k ≤ N ∧ i = .int .i64 ((k : Int) + 1) ∧ J k wr ∧ Below n₀ W wr) (fun i _ => N + 1 - (intOf i).toNat)
  case atStart => exact ⟨0, Nat.zero_le _, rfl, h0, Below.refl _ _⟩
  case round =>
    obtain ⟨k, hk, rfl, hJs, hnx⟩ := hrel
    have hc := (hnx.cell (p := ⟨B1, 0, none⟩) hlt0).trans hB1
    by_cases hlt : k < N
    · obtain ⟨fn, tmps, assign, body, hy, hR⟩ := hY k wr hlt hJs
      dsimp only [encU] at hy
      have q1 : ((k : Int) + 1) ≤ (N : Int) := by omega
      gi_wp2
      refine hR.mono ?_
      rintro e W3 ⟨rfl, hJ3, hk3⟩
      gi_wp2
      go_roundw
      case rel => exact ⟨k + 1, by omega, by simp, hJ3, hnx.trans hk3⟩
      case measure => simp [intOf]; omega
    · obtain rfl : k = N := by omega
      have q1 : ¬ ((k : Int) + 1) ≤ (k : Int) := by omega
      gi_wp2
      go_end0
      exact ⟨⟨_, rfl⟩, hJs⟩
theorem upto_seq (F : Fence) (n : Nat) (h7 : F.fn 106) (hro : F.round = none) (hn : 1 ≤ n) (B1 n₀ N : Nat) (hN : N ≤ 1000000) (w : World) (hb1 : B1 < w.heap.size) (hn₀ : B1 < n₀)
    (hB1 : w.cell? ⟨B1, 0, none⟩ = some (.int .i64 N)) : SeqN F n Try.prog 106 #[.pointer (some ⟨B1, 0, none⟩)] (encU N) (Below n₀) N w := fun l J W hW _ hY h0 =>
  upto1_in F n h7 hro hn l B1 n₀ N hN J hY W ((hW.cell (p := ⟨B1, 0, none⟩) hb1).trans hB1) hn₀ h0
theorem endsUpTo_i (N : Nat) (w : World) :
    Calls Try.prog 82 #[.int .i64 N] w fun e w' => e = .returned (.func (.func 106) #[] #[.pointer (some ⟨w.heap.size, 0, none⟩)]) ∧ w.alloc (.cells #[.int .i64 N] 3) = w' := by
  go_enter Try.func82, Try.ntmps82
  go_wp2
  go_ret
  exact ⟨rfl, rfl⟩
end Go.Proofs.Ytkclecfjpabplaa
