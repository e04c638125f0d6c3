/- The iterator over pieces as one whose values come in a known order. -/
import Derived.Test.YtmncdpiojhgcdaaSa
namespace Go.Proofs.Ytmncdpiojhgcdaa
open Go.ChangeShapes Go.WideShapes Go.ChangeAt Go.RowKit Go.Shelf
set_option linter.unusedVariables false
attribute [local go_sem] Oper.semAt_some

abbrev encN (s : Int) (E : List Int) (k : Nat) : Array Value := #[.int .i64 (frm s E k), .int .i64 (ng E k)]
set_option maxRecDepth 100000 in
set_option maxHeartbeats 2000000 in
theorem piecesN_in (F : Fence) (n : Nat) (h7 : F.fn 151) (hro : F.round = none) (hn : 1 ≤ n) (l B1 B2 n₀ : Nat) (s : Int) (A : Option Addr) (c : Nat) (E : List Int) (hl : E.length ≤ 4611686018427387904) (J : Nat → World → Prop)
    (hY : ∀ k W1, k < E.length → J k W1 → YieldAt F (n - 1) Try.prog l (encN s E k) W1 fun e W' => e = .returned (.bool true) ∧ J (k + 1) W' ∧ Below n₀ W1 W')
    (W : World) (hB1 : W.cell? ⟨B1, 0, none⟩ = some (.int .i64 s)) (hB2 : W.cell? ⟨B2, 0, none⟩ = some (.slice A E.length c))
    (hE : ∀ j, j < E.length → ∃ b o, A = some ⟨b, o, none⟩ ∧ b < n₀ ∧ W.cell? ⟨b, o + j, none⟩ = some (.int .i64 (ng E j))) (h0 : J 0 W) :
    CallsIn F n Try.prog 151 #[.func (.yield l) #[] #[], .pointer (some ⟨B1, 0, none⟩), .pointer (some ⟨B2, 0, none⟩)] W fun e W' => (∃ v, e = .returned v) ∧ J E.length W' := by
  refine callsIn_of_wp Try.func151 rfl h7 ?_ hro
  simp only [Try.ntmps151, List.size_toArray, List.length_cons, List.length_nil, Nat.reduceAdd, Nat.reduceSub, Array.replicate_succ, Array.replicate_zero, List.push_toArray, List.append_toArray, List.nil_append, List.cons_append]
  gi_wp2
  clear hB1 hB2
  gi_loopw [4, 10] (fun f i wr => ∃ k : Nat, k ≤ E.length ∧ f = .int .i64 (frm s E k) ∧ i = .int .i64 k ∧ J k wr ∧ Below n₀ W wr) (fun _ i _ => E.length - (intOf i).toNat)
  case atStart => exact ⟨0, Nat.zero_le _, rfl, rfl, h0, Below.refl _ _⟩
  case round =>
    obtain ⟨k, hk, rfl, rfl, hJs, hnx⟩ := hrel
    by_cases hlt : k < E.length
    · obtain ⟨b, o, rfl, hb, hc⟩ := hE k hlt
      have hc' := (hnx.cell (p := ⟨b, o + k, none⟩) hb).trans hc
      obtain ⟨fn, tmps, assign, body, hy, hR⟩ := hY k wr hlt hJs
      dsimp only [encN] at hy
      clear hc
      gi_wp2
      refine hR.mono ?_
      rintro e W3 ⟨rfl, hJ3, hk3⟩
      gi_wp2
      go_roundw
      case rel => exact ⟨k + 1, by omega, by rw [frm_succ], by simp, hJ3, hnx.trans hk3⟩
      case measure => simp [intOf]; omega
    · obtain rfl : k = E.length := by omega
      gi_wp2
      go_end0
      exact ⟨⟨_, rfl⟩, hJs⟩
theorem pieces_seq (F : Fence) (n : Nat) (h7 : F.fn 151) (hro : F.round = none) (hn : 1 ≤ n) (B1 B2 n₀ : Nat) (s : Int) (A : Option Addr) (c : Nat) (E : List Int) (hl : E.length ≤ 4611686018427387904) (w : World) (hb1 : B1 < w.heap.size) (hb2 : B2 < w.heap.size) (hn₀ : n₀ ≤ w.heap.size)
    (hB1 : w.cell? ⟨B1, 0, none⟩ = some (.int .i64 s)) (hB2 : w.cell? ⟨B2, 0, none⟩ = some (.slice A E.length c))
    (hE : ∀ j, j < E.length → ∃ b o, A = some ⟨b, o, none⟩ ∧ b < n₀ ∧ w.cell? ⟨b, o + j, none⟩ = some (.int .i64 (ng E j))) :
    SeqN F n Try.prog 151 #[.pointer (some ⟨B1, 0, none⟩), .pointer (some ⟨B2, 0, none⟩)] (encN s E) (Below n₀) E.length w := fun l J W hW _ hY h0 =>
  piecesN_in F n h7 hro hn l B1 B2 n₀ s A c E hl J hY W ((hW.cell (p := ⟨B1, 0, none⟩) hb1).trans hB1) ((hW.cell (p := ⟨B2, 0, none⟩) hb2).trans hB2)
    (fun j hj => by
      obtain ⟨b, o, e, hb, hc⟩ := hE j hj
      exact ⟨b, o, e, hb, (hW.cell (p := ⟨b, o + j, none⟩) (Nat.lt_of_lt_of_le hb hn₀)).trans hc⟩) h0
end Go.Proofs.Ytmncdpiojhgcdaa
