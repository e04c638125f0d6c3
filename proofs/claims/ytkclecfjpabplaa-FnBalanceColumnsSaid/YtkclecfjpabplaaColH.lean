/- BalancedHeight and BalanceColumns, in the program and in its model. -/
import Derived.Test.YtkclecfjpabplaaColB
namespace Go.Proofs.Ytkclecfjpabplaa
open Go.ChangeShapes Go.WideShapes Go.ChangeAt Go.RowKit
set_option linter.unusedVariables false
open Classical

theorem bh1_i (w : World) (b1 b2 c : Nat) (A : Option Addr) (l : List Int) (m : Int) (k : Nat) (h1 : w.cell? ⟨b1, 0, none⟩ = some (.slice A l.length c)) (h2 : w.cell? ⟨b2, 0, none⟩ = some (.int .i64 m)) (ha : IL w A l.length l) (hc : l.length ≤ c) (hl : l.length ≤ 40) (hb : ∀ j, j < l.length → 1 ≤ ng l j ∧ ng l j ≤ 1000) :
    Calls Try.prog 67 #[.int .i64 k, .pointer (some ⟨b1, 0, none⟩), .pointer (some ⟨b2, 0, none⟩)] w fun e w' => e = .returned (.bool (decide (gd l m k))) ∧ Below w.heap.size w w' := by
  have CN := hide (fillColumns_i w A c l k ha hc hl hb (by omega))
  have CL := hide (fun a => cends_len (l := l) (h := k) (fun j hj => (hb j hj).1) a (by omega))
  clear ha hb
  go_enter Try.func67, Try.ntmps67
  go_wp2_with fail
  (with_reducible refine CN.out.mono ?_)
  rintro e u1 ⟨(⟨Y, B, d, rfl, ho⟩ | ⟨Y, rfl⟩), hb⟩
  · have HB := hide hb
    have E : Hid (decide (gd l m k) = decide (((cends l k).length : Int) ≤ m)) := hide (by
      rw [decide_eq_decide, CL.out Y]
      exact ⟨fun h => h.2, fun h => ⟨Y, h⟩⟩)
    have k2 := keep_cell hb h2
    obtain ⟨z, hz⟩ : ∃ z, z = (cends l k).length := ⟨_, rfl⟩
    rw [← hz] at E
    rw [← hz]
    clear ho hb h1 h2 hz
    go_wp2
    go_ret
    exact ⟨bool_ret E.out.symm, HB.out⟩
  · have HB := hide hb
    have E : Hid (decide (gd l m k) = false) := hide (decide_eq_false (fun h => Y h.1))
    clear hb h1 h2
    go_wp2
    go_ret
    exact ⟨bool_ret E.out.symm, HB.out⟩

/-- What BalancedHeight returns. -/
noncomputable def bhV (l : List Int) (m : Int) : Int := if okH l && (inB m 1 8 && decide (sl l ≤ 10000)) then (bh l m : Int) else -1
theorem bhV_no {l : List Int} {m : Int} (e : (okH l && (inB m 1 8 && decide (sl l ≤ 10000))) = false) : bhV l m = -1 := by simp only [bhV, e]; rfl
theorem bhV_yes {l : List Int} {m : Int} (e : (okH l && (inB m 1 8 && decide (sl l ≤ 10000))) = true) : bhV l m = (bh l m : Int) := by simp only [bhV, e, if_true]

set_option maxHeartbeats 1000000 in
theorem BalancedHeight_i (w : World) (A : Option Addr) (n c : Nat) (l : List Int) (m : Int) (ha : IL w A n l) (hn : n ≤ 4611686018427387904) (hnc : n ≤ c) :
    Calls Try.prog 27 #[.slice A n c, .int .i64 m] w fun e w' => e = .returned (.int .i64 (bhV l m)) ∧ Below w.heap.size w w' := by
  obtain rfl : n = l.length := ha.1
  have HA := hide ha
  clear ha
  cases q1 : okLen l 0 40 1 1000
  · have E := hide (bhV_no (l := l) (m := m) (by rw [okH, q1]; rfl))
    go_enter Try.func27, Try.ntmps27
    go_wp2_with (first | (go_at_call 56; (with_reducible refine (validHeights_i _ _ _ _ l (HA.out.below (by (repeat' (first | with_reducible exact bl_refl _ | with_reducible assumption | with_reducible refine bl_alloc ?_ _ | with_reducible refine bl_set ?_ ?_ _ | with_reducible refine bl_drewN ?_ _ | with_reducible refine bl_drew ?_ | with_reducible refine bl_call (by assumption) ?_)); (all_goals (first | omega | (simp; done) | (simp; omega))))) hn).mono ?_); rintro e w' ⟨rfl, rfl⟩) | (go_at_call 65; refine (within_any _ _ _ _).mono ?_; rintro e w' ⟨rfl, rfl⟩))
    go_ret
    exact ⟨int_ret E.out.symm, (by (repeat' (first | with_reducible exact bl_refl _ | with_reducible assumption | with_reducible refine bl_alloc ?_ _ | with_reducible refine bl_set ?_ ?_ _ | with_reducible refine bl_drewN ?_ _ | with_reducible refine bl_drew ?_ | with_reducible refine bl_call (by assumption) ?_)); (all_goals (first | omega | (simp; done) | (simp; omega))))⟩
  obtain ⟨k1, k2⟩ := okH_iff.1 q1
  cases q2 : inB m 1 8
  · have E := hide (bhV_no (l := l) (m := m) (by rw [q2, Bool.false_and, Bool.and_false]))
    clear k1 k2
    go_enter Try.func27, Try.ntmps27
    go_wp2_with (first | (go_at_call 56; (with_reducible refine (validHeights_i _ _ _ _ l (HA.out.below (by (repeat' (first | with_reducible exact bl_refl _ | with_reducible assumption | with_reducible refine bl_alloc ?_ _ | with_reducible refine bl_set ?_ ?_ _ | with_reducible refine bl_drewN ?_ _ | with_reducible refine bl_drew ?_ | with_reducible refine bl_call (by assumption) ?_)); (all_goals (first | omega | (simp; done) | (simp; omega))))) hn).mono ?_); rintro e w' ⟨rfl, rfl⟩) | (go_at_call 65; refine (within_any _ _ _ _).mono ?_; rintro e w' ⟨rfl, rfl⟩))
    go_ret
    exact ⟨int_ret E.out.symm, (by (repeat' (first | with_reducible exact bl_refl _ | with_reducible assumption | with_reducible refine bl_alloc ?_ _ | with_reducible refine bl_set ?_ ?_ _ | with_reducible refine bl_drewN ?_ _ | with_reducible refine bl_drew ?_ | with_reducible refine bl_call (by assumption) ?_)); (all_goals (first | omega | (simp; done) | (simp; omega))))⟩
  obtain ⟨k3, k4⟩ := inB_iff.1 q2
  have SU := fun (u : World) (h : IL u A l.length l) => sumOf_i u A l.length c l h (by omega) (fun j hj => by have := k2 j hj; omega)
  have hp : allPos l := fun j hj => (k2 j hj).1
  have hs0 := sl_pos (allPos_mem.1 hp)
  obtain ⟨s, hs⟩ := Int.eq_ofNat_of_zero_le (show 0 ≤ sl l by omega)
  rw [hs] at SU
  have HS := hide SU
  clear SU
  rcases (by omega : 10000 < (s : Int) ∨ (s : Int) ≤ 10000) with q3 | q3
  · have E := hide (bhV_no (l := l) (m := m) (by rw [hs, decide_eq_false (show ¬ (s : Int) ≤ 10000 by omega), Bool.and_false, Bool.and_false]))
    clear k1 k2 hp hs hs0
    go_enter Try.func27, Try.ntmps27
    go_wp2_with (first | (go_at_call 56; (with_reducible refine (validHeights_i _ _ _ _ l (HA.out.below (by (repeat' (first | with_reducible exact bl_refl _ | with_reducible assumption | with_reducible refine bl_alloc ?_ _ | with_reducible refine bl_set ?_ ?_ _ | with_reducible refine bl_drewN ?_ _ | with_reducible refine bl_drew ?_ | with_reducible refine bl_call (by assumption) ?_)); (all_goals (first | omega | (simp; done) | (simp; omega))))) hn).mono ?_); rintro e w' ⟨rfl, rfl⟩) | (go_at_call 65; refine (within_any _ _ _ _).mono ?_; rintro e w' ⟨rfl, rfl⟩) | (go_at_call 59; (with_reducible refine (HS.out _ (HA.out.below (by (repeat' (first | with_reducible exact bl_refl _ | with_reducible assumption | with_reducible refine bl_alloc ?_ _ | with_reducible refine bl_set ?_ ?_ _ | with_reducible refine bl_drewN ?_ _ | with_reducible refine bl_drew ?_ | with_reducible refine bl_call (by assumption) ?_)); (all_goals (first | omega | (simp; done) | (simp; omega)))))).mono ?_); rintro e w' ⟨rfl, rfl⟩))
    go_ret
    exact ⟨int_ret E.out.symm, (by (repeat' (first | with_reducible exact bl_refl _ | with_reducible assumption | with_reducible refine bl_alloc ?_ _ | with_reducible refine bl_set ?_ ?_ _ | with_reducible refine bl_drewN ?_ _ | with_reducible refine bl_drew ?_ | with_reducible refine bl_call (by assumption) ?_)); (all_goals (first | omega | (simp; done) | (simp; omega))))⟩
  · have E := hide (bhV_yes (l := l) (m := m) (by rw [okH, q1, q2, hs, decide_eq_true q3]; rfl))
    have CB := hide (fun (u : World) (b1 b2 k : Nat) (h1 : u.cell? ⟨b1, 0, none⟩ = some (.slice A l.length c)) (h2 : u.cell? ⟨b2, 0, none⟩ = some (.int .i64 m)) (hi : IL u A l.length l) => bh1_i u b1 b2 c A l m k h1 h2 hi hnc k1 k2)
    have MO := hide (fun (a b : Nat) (h : a ≤ b) (e : decide (gd l m a) = true) => (decide_eq_true (gd_mono hp h (of_decide_eq_true e)) : decide (gd l m b) = true))
    have BH : Hid (∀ x : Nat, x ≤ s → (∀ k, k < x → decide (gd l m k) = false) → (∀ k, x ≤ k → k < s → decide (gd l m k) = true) → bh l m = x) := hide (fun x hx h1 h2 => bh_eq ⟨by
      rcases (by omega : x = s ∨ x < s) with e | e
      · exact gd_sum hp k3 (by rw [hs, e])
      · exact of_decide_eq_true (h2 x (Nat.le_refl _) e), fun k hk => of_decide_eq_false (h1 k hk)⟩)
    clear k1 k2 hp hs hs0
    go_enter Try.func27, Try.ntmps27
    go_wp2_with (first | (go_at_call 56; (with_reducible refine (validHeights_i _ _ _ _ l (HA.out.below (by (repeat' (first | with_reducible exact bl_refl _ | with_reducible assumption | with_reducible refine bl_alloc ?_ _ | with_reducible refine bl_set ?_ ?_ _ | with_reducible refine bl_drewN ?_ _ | with_reducible refine bl_drew ?_ | with_reducible refine bl_call (by assumption) ?_)); (all_goals (first | omega | (simp; done) | (simp; omega))))) hn).mono ?_); rintro e w' ⟨rfl, rfl⟩) | (go_at_call 65; refine (within_any _ _ _ _).mono ?_; rintro e w' ⟨rfl, rfl⟩) | (go_at_call 59; (with_reducible refine (HS.out _ (HA.out.below (by (repeat' (first | with_reducible exact bl_refl _ | with_reducible assumption | with_reducible refine bl_alloc ?_ _ | with_reducible refine bl_set ?_ ?_ _ | with_reducible refine bl_drewN ?_ _ | with_reducible refine bl_drew ?_ | with_reducible refine bl_call (by assumption) ?_)); (all_goals (first | omega | (simp; done) | (simp; omega)))))).mono ?_); rintro e w' ⟨rfl, rfl⟩) | fail)
    (with_reducible refine (Search_BalancedHeight_1 _ s _ _ (fun k => decide (gd l m k)) (by omega) MO.out (fun u k hb hk => CB.out u _ _ k (keep_cell hb (by simp [go_sem])) (keep_cell hb (by simp [go_sem])) ((HA.out.below (by (repeat' (first | with_reducible exact bl_refl _ | with_reducible assumption | with_reducible refine bl_alloc ?_ _ | with_reducible refine bl_set ?_ ?_ _ | with_reducible refine bl_drewN ?_ _ | with_reducible refine bl_drew ?_ | with_reducible refine bl_call (by assumption) ?_)); (all_goals (first | omega | (simp; done) | (simp; omega))))).below hb))).mono ?_)
    rintro e u1 ⟨⟨x, hx, rfl, h1, h2⟩, hb⟩
    have E2 := hide (E.out.trans (congrArg (fun k : Nat => (k : Int)) (BH.out x hx h1 h2)))
    have HB := hide (bl_call hb (show Below w.heap.size w _ from (by (repeat' (first | with_reducible exact bl_refl _ | with_reducible assumption | with_reducible refine bl_alloc ?_ _ | with_reducible refine bl_set ?_ ?_ _ | with_reducible refine bl_drewN ?_ _ | with_reducible refine bl_drew ?_ | with_reducible refine bl_call (by assumption) ?_)); (all_goals (first | omega | (simp; done) | (simp; omega))))))
    clear h1 h2 hb BH MO CB
    go_wp2
    go_ret
    exact ⟨int_ret E2.out.symm, HB.out⟩
end Go.Proofs.Ytkclecfjpabplaa
