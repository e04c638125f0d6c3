/- WidthOfLine answers as its model does. -/
import Derived.Test.YtbbicijmekinkacShape
namespace Go.Proofs.Ytbbicijmekinkac
open Go.ChangeShapes Go.WideShapes Go.ChangeAt Go.RowKit
set_option linter.unusedVariables false

theorem WidthOfLine_s (w : World) (A : Option Addr) (m c : Nat) (l : List Int) (n : Int) (ha : IL w A m l) (hm : m ≤ 4611686018427387904) :
    Calls Try.prog 33 #[.slice A m c, .int .i64 n] w fun e w' => e = .returned (.int .i64 (wol l n)) ∧ w = w' := by
  cases q : okShape l
  · have E := hide (wol_no (n := n) q)
    go_enter Try.func33, Try.ntmps33
    go_wp2_with (go_at_call 72; refine (validShape_s _ _ _ _ _ ha hm).mono ?_; rintro e w' ⟨rfl, rfl⟩)
    go_ret
    exact ⟨int_ret E.out.symm, rfl⟩
  · rcases (by omega : n < 0 ∨ 0 ≤ n) with h | h
    · have E := hide (wol_neg (l := l) h)
      go_enter Try.func33, Try.ntmps33
      go_wp2_with (go_at_call 72; refine (validShape_s _ _ _ _ _ ha hm).mono ?_; rintro e w' ⟨rfl, rfl⟩)
      go_ret
      exact ⟨int_ret E.out.symm, rfl⟩
    · obtain ⟨k, rfl⟩ := Int.eq_ofNat_of_zero_le h
      have E := hide (wol_yes (n := k) q)
      have L := (okShape_iff.1 q).1
      have L2 : 1 ≤ m ∧ m ≤ 1000000 := by rw [ha.1]; omega
      go_enter Try.func33, Try.ntmps33
      go_wp2_with (first | (go_at_call 72; refine (validShape_s _ _ _ _ _ ha hm).mono ?_; rintro e w' ⟨rfl, rfl⟩) | (go_at_call 73; refine (widthOf_s _ _ _ _ _ _ ha L2).mono ?_; rintro e w' ⟨rfl, rfl⟩))
      go_ret
      exact ⟨int_ret E.out.symm, rfl⟩

theorem WidthOfLine_i (w : World) (A : Option Addr) (m c : Nat) (l : List Int) (n : Int) (ha : IL w A m l) (hm : m ≤ 4611686018427387904) :
    Calls Try.prog 32 #[.slice A m c, .int .i64 n] w fun e w' => e = .returned (.int .i64 (wol l n)) ∧ Below w.heap.size w w' := by
  cases q : okShape l
  · have E := hide (wol_no (n := n) q)
    go_enter Try.func32, Try.ntmps32
    go_wp2_with (go_at_call 70; refine (validShape_i _ _ _ _ _ ha hm).mono ?_; rintro e w' ⟨rfl, rfl⟩)
    go_ret
    exact ⟨int_ret E.out.symm, bl_refl _⟩
  · rcases (by omega : n < 0 ∨ 0 ≤ n) with h | h
    · have E := hide (wol_neg (l := l) h)
      go_enter Try.func32, Try.ntmps32
      go_wp2_with (go_at_call 70; refine (validShape_i _ _ _ _ _ ha hm).mono ?_; rintro e w' ⟨rfl, rfl⟩)
      go_ret
      exact ⟨int_ret E.out.symm, bl_refl _⟩
    · obtain ⟨k, rfl⟩ := Int.eq_ofNat_of_zero_le h
      have E := hide (wol_yes (n := k) q)
      have L := (okShape_iff.1 q).1
      obtain rfl : m = l.length := ha.1
      obtain ⟨L0, L1⟩ := L
      rcases (by omega : k ≤ l.length - 1 ∨ l.length - 1 < k) with h | h
      · obtain ⟨b, o, rfl, hb, hc⟩ := ha.at_ (i := k) (by omega)
        have E2 := hide (E.out.trans (by rw [show min k (l.length - 1) = k from by omega]))
        have h' : (k : Int) ≤ (l.length : Int) - 1 := by omega
        have h2 : k < l.length := by omega
        go_enter Try.func32, Try.ntmps32
        go_wp2_with (first | (go_at_call 70; refine (validShape_i _ _ _ _ _ ha hm).mono ?_; rintro e w' ⟨rfl, rfl⟩) | go_in)
        go_ret
        refine ⟨int_ret E2.out.symm, ?_⟩
        repeat' (first | with_reducible exact bl_refl _ | with_reducible assumption | with_reducible refine bl_alloc ?_ _ | with_reducible refine bl_set ?_ ?_ _ | with_reducible refine bl_drewN ?_ _ | with_reducible refine bl_drew ?_ | with_reducible refine bl_call (by assumption) ?_)
        all_goals (first | omega | (simp; done) | (simp; omega))
      · obtain ⟨j, hj⟩ : ∃ k, k = l.length - 1 := ⟨_, rfl⟩
        obtain ⟨b, o, rfl, hb, hc⟩ := ha.at_ (i := j) (by omega)
        have E2 := hide (E.out.trans (by rw [show min k (l.length - 1) = j from by omega]))
        have h1 : l.length = j + 1 := by omega
        have h' : ¬ (k : Int) ≤ (j : Int) := by omega
        rw [h1] at ha hm ⊢
        have hk2 : j ≤ 1000000 := by omega
        clear h1 hj h L0 L1 E
        go_enter Try.func32, Try.ntmps32
        go_wp2_with (first | (go_at_call 70; refine (validShape_i _ _ _ _ _ ha hm).mono ?_; rintro e w' ⟨rfl, rfl⟩) | go_in)
        go_ret
        refine ⟨int_ret E2.out.symm, ?_⟩
        repeat' (first | with_reducible exact bl_refl _ | with_reducible assumption | with_reducible refine bl_alloc ?_ _ | with_reducible refine bl_set ?_ ?_ _ | with_reducible refine bl_drewN ?_ _ | with_reducible refine bl_drew ?_ | with_reducible refine bl_call (by assumption) ?_)
        all_goals (first | omega | (simp; done) | (simp; omega))
end Go.Proofs.Ytbbicijmekinkac
