/- How many elements two lists of integers have in common at their beginnings. -/
import Derived.Test.YtlkfpcajpdohiaaSa
import Derived.Test.YtlkfpcajpdohiaaKpM
import Derived.BigQuiet
namespace Go.Proofs.Ytlkfpcajpdohiaa
open Go.ChangeShapes Go.WideShapes Go.ChangeAt Go.RowKit
set_option linter.unusedVariables false

theorem kp_stop {l m : List Int} {p : Nat} (ha : Agr l m p) (hl : p ≤ l.length) (hm : p ≤ m.length) (h : p = l.length ∨ p = m.length ∨ ng l p ≠ ng m p) : kp l m = p := kp_stopD 0 ha hl hm h

set_option maxHeartbeats 1000000 in
theorem KeptLines_s (w : World) (A B : Option Addr) (n m c d : Nat) (l k : List Int) (ha : IL w A n l) (hb : IL w B m k) (hn : n ≤ 4611686018427387904) (hm : m ≤ 4611686018427387904) :
    Calls Try.prog 51 #[.slice A n c, .slice B m d] w fun e w' => e = .returned (.int .i64 (kp l k)) ∧ ∃ j, w.drewN j = w' := by
  obtain rfl : n = l.length := ha.1
  obtain rfl : m = k.length := hb.1
  go_enter Try.func51, Try.ntmps51
  go_wp2
  go_loopw [5] (fun i u => ∃ p j : Nat, p ≤ l.length ∧ p ≤ k.length ∧ i = .int .i64 p ∧ Agr l k p ∧ u = w.drewN j) (fun i _ => l.length - (intOf i).toNat)
  case atStart => exact ⟨0, 0, by omega, by omega, rfl, Agr.zero _ _, rfl⟩
  case round =>
    obtain ⟨p, j, hp, hp2, rfl, hag, rfl⟩ := hrel
    have Hag := hide hag
    clear hag
    rcases (by omega : p = l.length ∨ p < l.length) with h1 | h1
    · have E := hide (kp_stop Hag.out hp hp2 (.inl h1))
      have g1 : decide ((p : Int) < (l.length : Int)) = false := decide_eq_false (by omega)
      have g1' : decide (p < l.length) = false := decide_eq_false (by omega)
      clear h1
      go_wp2_with fail
      go_quiet (fail)
      go_wp2
      go_ret
      exact ⟨int_ret (by rw [E.out]), j + nq, by rw [World.drewN_drewN]⟩
    rcases (by omega : p = k.length ∨ p < k.length) with h2 | h2
    · have E := hide (kp_stop Hag.out hp hp2 (.inr (.inl h2)))
      have g2 : decide ((p : Int) < (k.length : Int)) = false := decide_eq_false (by omega)
      have g2' : decide (p < k.length) = false := decide_eq_false (by omega)
      clear h2
      have g1 : decide ((p : Int) < (l.length : Int)) = true := decide_eq_true (by omega)
      have g1' : decide (p < l.length) = true := decide_eq_true (by omega)
      go_wp2_with fail
      go_quiet (fail)
      go_wp2
      go_ret
      exact ⟨int_ret (by rw [E.out]), j + nq, by rw [World.drewN_drewN]⟩
    obtain ⟨b, o, rfl, hbl, hc⟩ := ha.at_ h1
    obtain ⟨b', o', rfl, hbl', hc'⟩ := hb.at_ h2
    have g2 : decide ((p : Int) < (k.length : Int)) = true := decide_eq_true (by omega)
    have g2' : decide (p < k.length) = true := decide_eq_true (by omega)
    have g1 : decide ((p : Int) < (l.length : Int)) = true := decide_eq_true (by omega)
    have g1' : decide (p < l.length) = true := decide_eq_true (by omega)
    by_cases he : ng l p = ng k p
    · have q : (ng l p == ng k p) = true := by simp [he]
      have M := hide (Hag.out.step he)
      clear he
      go_wp2_with fail
      go_quiet (fail)
      go_wp2
      go_roundw
      case rel => exact ⟨p + 1, _, by omega, by omega, by go_num, M.out, rfl⟩
      case measure => simp [intOf]; omega
    · have q : (ng l p == ng k p) = false := by simp [he]
      have E := hide (kp_stop Hag.out hp hp2 (.inr (.inr he)))
      clear he
      go_wp2_with fail
      go_quiet (fail)
      go_wp2
      go_ret
      exact ⟨int_ret (by rw [E.out]), j + nq, by rw [World.drewN_drewN]⟩
set_option maxHeartbeats 1000000 in
theorem prefInt_i (w : World) (A B : Option Addr) (n m c d : Nat) (l k : List Int) (ha : IL w A n l) (hb : IL w B m k) (hn : n ≤ 4611686018427387904) (hm : m ≤ 4611686018427387904) :
    Calls Try.prog 55 #[.slice A n c, .slice B m d] w fun e w' => e = .returned (.int .i64 (kp l k)) ∧ ∃ j, w.drewN j = w' := by
  obtain rfl : n = l.length := ha.1
  obtain rfl : m = k.length := hb.1
  go_enter Try.func55, Try.ntmps55
  go_wp2
  go_loopw [5] (fun i u => ∃ p j : Nat, p ≤ l.length ∧ p ≤ k.length ∧ i = .int .i64 p ∧ Agr l k p ∧ u = w.drewN j) (fun i _ => l.length - (intOf i).toNat)
  case atStart => exact ⟨0, 0, by omega, by omega, rfl, Agr.zero _ _, rfl⟩
  case round =>
    obtain ⟨p, j, hp, hp2, rfl, hag, rfl⟩ := hrel
    have Hag := hide hag
    clear hag
    rcases (by omega : p = l.length ∨ p < l.length) with h1 | h1
    · have E := hide (kp_stop Hag.out hp hp2 (.inl h1))
      have g1 : decide ((p : Int) < (l.length : Int)) = false := decide_eq_false (by omega)
      have g1' : decide (p < l.length) = false := decide_eq_false (by omega)
      clear h1
      go_wp2_with fail
      go_quiet (fail)
      go_wp2
      go_ret
      exact ⟨int_ret (by rw [E.out]), j + nq, by rw [World.drewN_drewN]⟩
    rcases (by omega : p = k.length ∨ p < k.length) with h2 | h2
    · have E := hide (kp_stop Hag.out hp hp2 (.inr (.inl h2)))
      have g2 : decide ((p : Int) < (k.length : Int)) = false := decide_eq_false (by omega)
      have g2' : decide (p < k.length) = false := decide_eq_false (by omega)
      clear h2
      have g1 : decide ((p : Int) < (l.length : Int)) = true := decide_eq_true (by omega)
      have g1' : decide (p < l.length) = true := decide_eq_true (by omega)
      go_wp2_with fail
      go_quiet (fail)
      go_wp2
      go_ret
      exact ⟨int_ret (by rw [E.out]), j + nq, by rw [World.drewN_drewN]⟩
    obtain ⟨b, o, rfl, hbl, hc⟩ := ha.at_ h1
    obtain ⟨b', o', rfl, hbl', hc'⟩ := hb.at_ h2
    have g2 : decide ((p : Int) < (k.length : Int)) = true := decide_eq_true (by omega)
    have g2' : decide (p < k.length) = true := decide_eq_true (by omega)
    have g1 : decide ((p : Int) < (l.length : Int)) = true := decide_eq_true (by omega)
    have g1' : decide (p < l.length) = true := decide_eq_true (by omega)
    by_cases he : ng l p = ng k p
    · have q : (ng l p == ng k p) = true := by simp [he]
      have M := hide (Hag.out.step he)
      clear he
      go_wp2_with fail
      go_quiet (fail)
      go_wp2
      go_roundw
      case rel => exact ⟨p + 1, _, by omega, by omega, by go_num, M.out, rfl⟩
      case measure => simp [intOf]; omega
    · have q : (ng l p == ng k p) = false := by simp [he]
      have E := hide (kp_stop Hag.out hp hp2 (.inr (.inr he)))
      clear he
      go_wp2_with fail
      go_quiet (fail)
      go_wp2
      go_ret
      exact ⟨int_ret (by rw [E.out]), j + nq, by rw [World.drewN_drewN]⟩
end Go.Proofs.Ytlkfpcajpdohiaa
