/- StackBox, in the program and in its model. -/
import Derived.Test.YtonkbakoifdmiacBoxRow
import Derived.Deep.RegionHeld3
namespace Go.Proofs.Ytonkbakoifdmiac
open Go.ChangeShapes Go.WideShapes Go.ChangeAt Go.RowKit
set_option linter.unusedVariables false

set_option maxHeartbeats 4000000 in
theorem stkJoin_i (a b c p q r sk : Int) (w : World) (b1 : Nat) (h1 : w.cell? ⟨b1, 0, none⟩ = some (.int .i64 sk)) (s0 : 0 ≤ sk) (s1 : sk ≤ 10000) (b0 : 0 ≤ b) (bb : b ≤ 1000000) (c0 : 0 ≤ c) (cc : c ≤ 10000) (q0 : 0 ≤ q) (qq : q ≤ 10000) :
    Calls Try.prog 48 #[gv a b c, gv p q r, .pointer (some ⟨b1, 0, none⟩)] w fun e w' => e = .returned (gv (max a p) (b + c + il sk c q + q) r) ∧ Below w.heap.size w w' := by
  have hlt := World.block_lt_of_cell? w _ h1
  simp only at hlt
  have hlt1 : b1 < w.heap.size + 1 := by omega
  have hlt2 : b1 < w.heap.size + 1 + 1 := by omega
  have IB : 1 ≤ il sk c q ∧ il sk c q ≤ 10001 := by unfold il; omega
  obtain ⟨t, ht⟩ : ∃ t, t = il sk c q := ⟨_, rfl⟩
  have CI := fun (u : World) => interline_i a b c p q r sk u s0 s1 c0 cc q0 qq
  rw [← ht] at CI IB
  rw [← ht]
  obtain ⟨t0, t1⟩ := IB
  have HCI := hide CI
  clear CI ht
  rcases (by omega : a < p ∨ p ≤ a) with hm | hm
  all_goals
    go_enter Try.func48, Try.ntmps48
    go_wp2_with fail
    go_region_held3 (fun u : World => (u.cell? ⟨w.heap.size, 0, none⟩ = some (.int .i64 a) ∧ u.cell? ⟨w.heap.size, 1, none⟩ = some (.int .i64 b) ∧ u.cell? ⟨w.heap.size, 2, none⟩ = some (.int .i64 c)) ∧ (u.cell? ⟨w.heap.size + 1, 0, none⟩ = some (.int .i64 p) ∧ u.cell? ⟨w.heap.size + 1, 1, none⟩ = some (.int .i64 q) ∧ u.cell? ⟨w.heap.size + 1, 2, none⟩ = some (.int .i64 r)) ∧ u.cell? ⟨b1, 0, none⟩ = some (.int .i64 sk)) (first | (simp [go_sem, *]; done) | exact ⟨⟨ka0, ka1, ka2⟩, ⟨kb0, kb1, kb2⟩, ks⟩) (first | (go_at_call 49; (with_reducible refine (HCI.out _).mono ?_); rintro e u1 ⟨rfl, hb⟩; (try (with_reducible have hb := bl_undrew hb)); (have ka0 : u1.cell? ⟨w.heap.size, 0, none⟩ = some (.int .i64 (a)) := keep_cell hb (by simp [go_sem])); (have ka1 : u1.cell? ⟨w.heap.size, 1, none⟩ = some (.int .i64 (b)) := keep_cell hb (by simp [go_sem])); (have ka2 : u1.cell? ⟨w.heap.size, 2, none⟩ = some (.int .i64 (c)) := keep_cell hb (by simp [go_sem])); (have kb0 : u1.cell? ⟨w.heap.size + 1, 0, none⟩ = some (.int .i64 (p)) := keep_cell hb (by simp [go_sem])); (have kb1 : u1.cell? ⟨w.heap.size + 1, 1, none⟩ = some (.int .i64 (q)) := keep_cell hb (by simp [go_sem])); (have kb2 : u1.cell? ⟨w.heap.size + 1, 2, none⟩ = some (.int .i64 (r)) := keep_cell hb (by simp [go_sem])); (have kc0 : u1.cell? ⟨w.heap.size + 1 + 1, 0, none⟩ = some (.int .i64 (0)) := keep_cell hb (by simp [go_sem])); (have kc1 : u1.cell? ⟨w.heap.size + 1 + 1, 1, none⟩ = some (.int .i64 (0)) := keep_cell hb (by simp [go_sem])); (have kc2 : u1.cell? ⟨w.heap.size + 1 + 1, 2, none⟩ = some (.int .i64 (0)) := keep_cell hb (by simp [go_sem])); (have kf0 : u1.frozen? ⟨w.heap.size + 1 + 1, 0, none⟩ = false := (hb.frozen (p := ⟨w.heap.size + 1 + 1, 0, none⟩) (by first | (simp; done) | (simp; omega))).trans (by simp [go_sem])); (have kf1 : u1.frozen? ⟨w.heap.size + 1 + 1, 1, none⟩ = false := (hb.frozen (p := ⟨w.heap.size + 1 + 1, 1, none⟩) (by first | (simp; done) | (simp; omega))).trans (by simp [go_sem])); (have kf2 : u1.frozen? ⟨w.heap.size + 1 + 1, 2, none⟩ = false := (hb.frozen (p := ⟨w.heap.size + 1 + 1, 2, none⟩) (by first | (simp; done) | (simp; omega))).trans (by simp [go_sem])); (have ks : u1.cell? ⟨b1, 0, none⟩ = some (.int .i64 sk) := keep_cell hb (by simp [go_sem, *])); have hz := hb.size; simp at hz; have hlm : w.heap.size + 1 + 1 < u1.heap.size := by omega))
    all_goals
      go_wp2
      have W1 : IntKind.i64.wrap (b + c) = b + c := IntWalk.i64_in _ (by omega)
      have W2 : IntKind.i64.wrap (b + c + t) = b + c + t := IntWalk.i64_in _ (by omega)
      have W3 : IntKind.i64.wrap (b + c + t + q) = b + c + t + q := IntWalk.i64_in _ (by omega)
      first | (refine bodyPost_ret (v := gv a (b + c + t + q) r) (by simp [results, Try.results48, go_sem, *]) rfl ⟨by rw [show max a p = a from by omega], ?_⟩) | (refine bodyPost_ret (v := gv p (b + c + t + q) r) (by simp [results, Try.results48, go_sem, *]) rfl ⟨by rw [show max a p = p from by omega], ?_⟩)
      repeat' (first | with_reducible exact bl_refl _ | with_reducible assumption | with_reducible refine bl_alloc ?_ _ | with_reducible refine bl_set ?_ ?_ _ | with_reducible refine bl_drewN ?_ _ | with_reducible refine bl_drew ?_ | with_reducible refine bl_call (by assumption) ?_)
      all_goals (first | omega | (simp; done) | (simp; omega))
end Go.Proofs.Ytonkbakoifdmiac
