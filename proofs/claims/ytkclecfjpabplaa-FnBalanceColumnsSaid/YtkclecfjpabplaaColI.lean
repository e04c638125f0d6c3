/- The model of BalancedHeight; BalanceColumns in the program and in its model. -/
import Derived.Test.YtkclecfjpabplaaColH
namespace Go.Proofs.Ytkclecfjpabplaa
open Go.ChangeShapes Go.WideShapes Go.ChangeAt Go.RowKit
set_option linter.unusedVariables false
open Classical

theorem balanced_s (w : World) (A : Option Addr) (c : Nat) (l : List Int) (m : Int) (s : Nat) (ha : IL w A l.length l) (hl : l.length ≤ 40) (hb : ∀ j, j < l.length → 1 ≤ ng l j ∧ ng l j ≤ 1000) (m1 : 1 ≤ m) (hs : sl l = s) (hs1 : s ≤ 10000) :
    Calls Try.prog 70 #[.slice A l.length c, .int .i64 m] w fun e w' => e = .returned (.int .i64 (bh l m)) ∧ w' = w := by
  have CN := hide (fun (k : Nat) (hk : k ≤ s) => columnsNeeded_s w A l.length c l k ha hl hb (by omega) (by omega))
  have hp : allPos l := fun j hj => (hb j hj).1
  have GS := hide (gd_sum hp m1 hs.symm)
  clear ha hb hs hp
  go_enter Try.func70, Try.ntmps70
  go_wp2
  go_loop [5] (fun i => ∃ k : Nat, k ≤ s ∧ i = .int .i64 k ∧ ∀ j, j < k → ¬ gd l m j) (fun i => s + 1 - (intOf i).toNat)
  case atStart => exact ⟨0, by omega, rfl, fun j hj => by omega⟩
  case round =>
    obtain ⟨k, hk, rfl, hno⟩ := hrel
    have HN := hide hno
    have C := CN.out k hk
    obtain ⟨v, hv⟩ : ∃ v, v = cnv l k := ⟨_, rfl⟩
    rw [← hv] at C
    have HC := hide C
    clear C hno
    by_cases hg : gd l m k
    · have E := hide (bh_eq ⟨hg, HN.out⟩)
      have v0 : 0 ≤ v := by rw [hv]; exact (cnv_le hg.1).1
      have v1 : v ≤ m := by rw [hv]; exact hg.2
      clear hv hg
      go_wp2_with (go_at_call 96; (with_reducible refine HC.out.mono ?_); rintro e w' ⟨rfl, rfl⟩)
      go_ret
      exact ⟨int_ret (by rw [E.out]), rfl⟩
    · have N : Hid (∀ j, j < k + 1 → ¬ gd l m j) := hide (fun j hj => by
        rcases (by omega : j < k ∨ j = k) with e | e
        · exact HN.out j e
        · rw [e]; exact hg)
      have hks : k < s := by
        rcases (by omega : k < s ∨ k = s) with e | e
        · exact e
        · exact absurd (e ▸ GS.out) hg
      rcases (by
        by_cases y : allLe l k
        · right
          refine ⟨(cnv_le y).1, ?_⟩
          false_or_by_contra
          exact hg ⟨y, by omega⟩
        · left; rw [cnv_no y]; omega : cnv l k < 0 ∨ 0 ≤ cnv l k ∧ m < cnv l k) with h | ⟨h, h'⟩
      · rw [← hv] at h
        clear hv hg
        go_wp2_with (go_at_call 96; (with_reducible refine HC.out.mono ?_); rintro e w' ⟨rfl, rfl⟩)
        go_round
        case rel => exact ⟨k + 1, by omega, by go_num, N.out⟩
        case measure => simp [intOf]; omega
      · rw [← hv] at h h'
        clear hv hg
        go_wp2_with (go_at_call 96; (with_reducible refine HC.out.mono ?_); rintro e w' ⟨rfl, rfl⟩)
        go_round
        case rel => exact ⟨k + 1, by omega, by go_num, N.out⟩
        case measure => simp [intOf]; omega

set_option maxHeartbeats 1000000 in
theorem BalancedHeight_s (w : World) (A : Option Addr) (n c : Nat) (l : List Int) (m : Int) (ha : IL w A n l) (hn : n ≤ 4611686018427387904) :
    Calls Try.prog 29 #[.slice A n c, .int .i64 m] w fun e w' => e = .returned (.int .i64 (bhV l m)) ∧ w' = w := by
  obtain rfl : n = l.length := ha.1
  have HA := hide ha
  clear ha
  cases q1 : okLen l 0 40 1 1000
  · have E := hide (bhV_no (l := l) (m := m) (by rw [okH, q1]; rfl))
    go_enter Try.func29, Try.ntmps29
    go_wp2_with (first | (go_at_call 55; (with_reducible refine (validHeights_s _ _ _ _ l HA.out hn).mono ?_); rintro e w' ⟨rfl, rfl⟩) | (go_at_call 69; refine (inRange_any _ _ _ _).mono ?_; rintro e w' ⟨rfl, rfl⟩))
    go_ret
    exact ⟨int_ret E.out.symm, rfl⟩
  obtain ⟨k1, k2⟩ := okH_iff.1 q1
  cases q2 : inB m 1 8
  · have E := hide (bhV_no (l := l) (m := m) (by rw [q2, Bool.false_and, Bool.and_false]))
    clear k1 k2
    go_enter Try.func29, Try.ntmps29
    go_wp2_with (first | (go_at_call 55; (with_reducible refine (validHeights_s _ _ _ _ l HA.out hn).mono ?_); rintro e w' ⟨rfl, rfl⟩) | (go_at_call 69; refine (inRange_any _ _ _ _).mono ?_; rintro e w' ⟨rfl, rfl⟩))
    go_ret
    exact ⟨int_ret E.out.symm, rfl⟩
  obtain ⟨k3, k4⟩ := inB_iff.1 q2
  have hp : allPos l := fun j hj => (k2 j hj).1
  have hs0 := sl_pos (allPos_mem.1 hp)
  obtain ⟨s, hs⟩ := Int.eq_ofNat_of_zero_le (show 0 ≤ sl l by omega)
  have hs' : sl l = (s : Int) := hs
  have FIN : Hid (∀ y : Int, y = s → (10000 < y → bhV l m = -1) ∧ (y ≤ 10000 → bhV l m = bh l m)) := hide (fun y hy => ⟨fun h => bhV_no (by rw [hs', decide_eq_false (show ¬ (s : Int) ≤ 10000 by omega), Bool.and_false, Bool.and_false]), fun h => bhV_yes (by rw [okH, q1, q2, hs', decide_eq_true (show (s : Int) ≤ 10000 by omega)]; rfl)⟩)
  have BA := hide (fun (h : s ≤ 10000) => balanced_s w A c l m s HA.out k1 k2 k3 hs' h)
  have PB := hide (fun (p : Nat) (hp : p ≤ l.length) => pfx_bd (b := 1000) (fun j hj => by have := k2 j hj; omega) hp)
  have PA := hide ((pfx_all l).trans hs')
  have K2 := hide k2
  clear hs hs' hp hs0 k2
  go_enter Try.func29, Try.ntmps29
  go_wp2_with (first | (go_at_call 55; (with_reducible refine (validHeights_s _ _ _ _ l HA.out hn).mono ?_); rintro e w' ⟨rfl, rfl⟩) | (go_at_call 69; refine (inRange_any _ _ _ _).mono ?_; rintro e w' ⟨rfl, rfl⟩))
  go_loop [5, 6] (fun v i => ∃ p : Nat, p ≤ l.length ∧ v = .int .i64 (pfx l p) ∧ i = .int .i64 p) (fun _ i => l.length - (intOf i).toNat)
  case atStart => exact ⟨0, by omega, rfl, rfl⟩
  case round =>
    obtain ⟨p, hp, rfl, rfl⟩ := hrel
    obtain ⟨b1, b2⟩ := PB.out p hp
    obtain ⟨y, hy⟩ : ∃ y, y = pfx l p := ⟨_, rfl⟩
    rw [← hy] at b1 b2
    rw [← hy]
    have HY := hide hy
    clear hy
    have b3 : y ≤ 40000 := by omega
    clear b2
    by_cases hlt : p < l.length
    · obtain ⟨b, o, rfl, _, hc⟩ := HA.out.at_ hlt
      obtain ⟨x0, x1⟩ := K2.out p hlt
      obtain ⟨x, hx⟩ : ∃ x, x = ng l p := ⟨_, rfl⟩
      rw [← hx] at hc x0 x1
      have HX := hide hx
      clear hx
      go_wp2
      go_round
      case rel => exact ⟨p + 1, by omega, by rw [HY.out, HX.out]; rfl, by go_num⟩
      case measure => simp [intOf]; omega
    · have ys : y = (s : Int) := by
        have h1 := PA.out
        rw [show l.length = p from by omega] at h1
        rw [HY.out]; exact h1
      obtain ⟨F1, F2⟩ := FIN.out y ys
      rcases (by omega : 10000 < y ∨ y ≤ 10000) with h | h
      · have E := hide (F1 h)
        clear F1 F2 ys
        go_wp2
        go_ret
        exact ⟨int_ret E.out.symm, rfl⟩
      · have E := hide (F2 h)
        have B := hide (BA.out (by omega))
        clear F1 F2 ys
        go_wp2_with (go_at_call 70; (with_reducible refine B.out.mono ?_); rintro e w' ⟨rfl, rfl⟩)
        go_ret
        exact ⟨int_ret E.out.symm, rfl⟩
end Go.Proofs.Ytkclecfjpabplaa
