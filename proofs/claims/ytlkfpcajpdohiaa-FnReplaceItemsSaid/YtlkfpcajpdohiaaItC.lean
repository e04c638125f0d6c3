/- The common items at the beginning of two paragraphs, in the program and in its model. -/
import Derived.Test.YtlkfpcajpdohiaaSd
import Derived.Test.YtlkfpcajpdohiaaKpM
import Derived.Laws.StructEq
import Derived.BigQuiet
namespace Go.Proofs.Ytlkfpcajpdohiaa
open Go.ChangeShapes Go.WideShapes Go.ChangeAt Go.RowKit
set_option linter.unusedVariables false
open Classical

theorem it_eq {x y : It} : x = y ↔ x.k = y.k ∧ x.w = y.w ∧ x.st = y.st ∧ x.sh = y.sh ∧ x.p = y.p ∧ x.f = y.f := by
  constructor
  · rintro rfl; exact ⟨rfl, rfl, rfl, rfl, rfl, rfl⟩
  · obtain ⟨a, b, c, d, e, f⟩ := x
    obtain ⟨a', b', c', d', e', f'⟩ := y
    rintro ⟨h1, h2, h3, h4, h5, h6⟩
    simp only at h1 h2 h3 h4 h5 h6
    rw [h1, h2, h3, h4, h5, h6]
theorem item_eql (x y : It) (W : World) : (binOp .eql 67 (itv x) (itv y)).run Try.prog W = .ok (.bool (decide (x = y))) W := by
  have hS : Try.prog.underlying 67 = some (.struct (Try.prog.fieldsOf 67)) := by kernel_rfl
  have hp : Try.prog.stoodInHeld 67 = false := by kernel_rfl
  have hS2 : Try.prog.underlying 65 = some (.struct (Try.prog.fieldsOf 65)) := by kernel_rfl
  have hp2 : Try.prog.stoodInHeld 65 = false := by kernel_rfl
  have u1 := Try.underlying3
  have u2 := Try.underlying4
  have a1 := Try.isAgg3
  have a2 := Try.isAgg4
  have a3 := Try.isAgg65
  have z1 := Try.sizeOf3
  have z2 := Try.sizeOf4
  have z3 := Try.sizeOf65
  rw [run_eql_struct, show (10000 : Nat) = 9999 + 1 from rfl, run_equalIn_agg W 9999 67 _ _ hS hp]
  simp only [Program.fieldsOf, Try.underlying67, Try.underlying65] at *
  go_simp
  by_cases h1 : x.k = y.k <;> by_cases h2 : x.w = y.w <;> by_cases h3 : x.st = y.st <;> by_cases h4 : x.sh = y.sh <;> by_cases h5 : x.p = y.p <;> by_cases h6 : x.f = y.f <;> simp [it_eq, h1, h2, h3, h4, h5, h6]
theorem kpi_stop {L M : List It} {p : Nat} (ha : ∀ j, j < p → tg L j = tg M j) (hl : p ≤ L.length) (hm : p ≤ M.length) (h : p = L.length ∨ p = M.length ∨ tg L p ≠ tg M p) : kp L M = p := kp_stopD Rec.dflt ha hl hm h
set_option maxHeartbeats 2000000 in
theorem common_s (w : World) (A B : Option Addr) (n m c d : Nat) (L M : List It) (ha : TL w A n L) (hb : TL w B m M) (hn : n ≤ 4611686018427387904) (hm : m ≤ 4611686018427387904) :
    Calls Try.prog 52 #[.slice A n c, .slice B m d] w fun e w' => e = .returned (.int .i64 (kp L M)) ∧ ∃ j, w.drewN j = w' := by
  obtain rfl : n = L.length := ha.1
  obtain rfl : m = M.length := hb.1
  have hq := item_eql
  have HA := hide ha
  have HB := hide hb
  clear ha hb
  go_enter Try.func52, Try.ntmps52
  go_wp2
  go_loopw [5] (fun i u => ∃ p j : Nat, p ≤ L.length ∧ p ≤ M.length ∧ i = .int .i64 p ∧ (∀ j, j < p → tg L j = tg M j) ∧ u = w.drewN j) (fun i _ => L.length - (intOf i).toNat)
  case atStart => exact ⟨0, 0, by omega, by omega, rfl, fun j hj => by omega, rfl⟩
  case round =>
    obtain ⟨p, j, hp, hp2, rfl, hag, rfl⟩ := hrel
    have Hag := hide hag
    clear hag
    rcases (by omega : p = L.length ∨ p < L.length) with h1 | h1
    · have E := hide (kpi_stop Hag.out hp hp2 (.inl h1))
      have g1 : decide ((p : Int) < (L.length : Int)) = false := decide_eq_false (by omega)
      have g1' : decide (p < L.length) = false := decide_eq_false (by omega)
      clear h1
      go_wp2_with fail
      go_quiet (fail)
      go_wp2
      go_ret
      exact ⟨int_ret (by rw [E.out]), j + nq, by rw [World.drewN_drewN]⟩
    have g1 : decide ((p : Int) < (L.length : Int)) = true := decide_eq_true (by omega)
    have g1' : decide (p < L.length) = true := decide_eq_true (by omega)
    rcases (by omega : p = M.length ∨ p < M.length) with h2 | h2
    · have E := hide (kpi_stop Hag.out hp hp2 (.inr (.inl h2)))
      have g2 : decide ((p : Int) < (M.length : Int)) = false := decide_eq_false (by omega)
      have g2' : decide (p < M.length) = false := decide_eq_false (by omega)
      clear h2
      go_wp2_with fail
      go_quiet (fail)
      go_wp2
      go_ret
      exact ⟨int_ret (by rw [E.out]), j + nq, by rw [World.drewN_drewN]⟩
    have g2 : decide ((p : Int) < (M.length : Int)) = true := decide_eq_true (by omega)
    have g2' : decide (p < M.length) = true := decide_eq_true (by omega)
    obtain ⟨b, o, rfl, hbl, c0, c1, c2, c3, c4, c5⟩ := HA.out.at6 h1
    obtain ⟨b', o', rfl, hbl', d0, d1, d2, d3, d4, d5⟩ := HB.out.at6 h2
    by_cases he : tg L p = tg M p
    · have q := fun W => hq (tg L p) (tg M p) W
      rw [decide_eq_true he] at q
      have M1 : Hid (∀ j, j < p + 1 → tg L j = tg M j) := hide (fun j hj => by
        rcases (by omega : j < p ∨ j = p) with e | e
        · exact Hag.out j e
        · rw [e]; exact he)
      clear he hq
      go_wp2_with fail
      go_quiet (fail)
      go_wp2
      go_roundw
      case rel => exact ⟨p + 1, _, by omega, by omega, by go_num, M1.out, rfl⟩
      case measure => simp [intOf]; omega
    · have q := fun W => hq (tg L p) (tg M p) W
      rw [decide_eq_false he] at q
      have E := hide (kpi_stop Hag.out hp hp2 (.inr (.inr he)))
      clear he hq
      go_wp2_with fail
      go_quiet (fail)
      go_wp2
      go_ret
      exact ⟨int_ret (by rw [E.out]), j + nq, by rw [World.drewN_drewN]⟩
set_option maxHeartbeats 2000000 in
theorem common_i (w : World) (A B : Option Addr) (n m c d : Nat) (L M : List It) (ha : TL w A n L) (hb : TL w B m M) (hn : n ≤ 4611686018427387904) (hm : m ≤ 4611686018427387904) :
    Calls Try.prog 64 #[.slice A n c, .slice B m d] w fun e w' => e = .returned (.int .i64 (kp L M)) ∧ ∃ j, w.drewN j = w' := by
  obtain rfl : n = L.length := ha.1
  obtain rfl : m = M.length := hb.1
  have hq := item_eql
  have HA := hide ha
  have HB := hide hb
  clear ha hb
  go_enter Try.func64, Try.ntmps64
  go_wp2
  go_loopw [5] (fun i u => ∃ p j : Nat, p ≤ L.length ∧ p ≤ M.length ∧ i = .int .i64 p ∧ (∀ j, j < p → tg L j = tg M j) ∧ u = w.drewN j) (fun i _ => L.length - (intOf i).toNat)
  case atStart => exact ⟨0, 0, by omega, by omega, rfl, fun j hj => by omega, rfl⟩
  case round =>
    obtain ⟨p, j, hp, hp2, rfl, hag, rfl⟩ := hrel
    have Hag := hide hag
    clear hag
    rcases (by omega : p = L.length ∨ p < L.length) with h1 | h1
    · have E := hide (kpi_stop Hag.out hp hp2 (.inl h1))
      have g1 : decide ((p : Int) < (L.length : Int)) = false := decide_eq_false (by omega)
      have g1' : decide (p < L.length) = false := decide_eq_false (by omega)
      clear h1
      go_wp2_with fail
      go_quiet (fail)
      go_wp2
      go_ret
      exact ⟨int_ret (by rw [E.out]), j + nq, by rw [World.drewN_drewN]⟩
    have g1 : decide ((p : Int) < (L.length : Int)) = true := decide_eq_true (by omega)
    have g1' : decide (p < L.length) = true := decide_eq_true (by omega)
    rcases (by omega : p = M.length ∨ p < M.length) with h2 | h2
    · have E := hide (kpi_stop Hag.out hp hp2 (.inr (.inl h2)))
      have g2 : decide ((p : Int) < (M.length : Int)) = false := decide_eq_false (by omega)
      have g2' : decide (p < M.length) = false := decide_eq_false (by omega)
      clear h2
      go_wp2_with fail
      go_quiet (fail)
      go_wp2
      go_ret
      exact ⟨int_ret (by rw [E.out]), j + nq, by rw [World.drewN_drewN]⟩
    have g2 : decide ((p : Int) < (M.length : Int)) = true := decide_eq_true (by omega)
    have g2' : decide (p < M.length) = true := decide_eq_true (by omega)
    obtain ⟨b, o, rfl, hbl, c0, c1, c2, c3, c4, c5⟩ := HA.out.at6 h1
    obtain ⟨b', o', rfl, hbl', d0, d1, d2, d3, d4, d5⟩ := HB.out.at6 h2
    by_cases he : tg L p = tg M p
    · have q := fun W => hq (tg L p) (tg M p) W
      rw [decide_eq_true he] at q
      have M1 : Hid (∀ j, j < p + 1 → tg L j = tg M j) := hide (fun j hj => by
        rcases (by omega : j < p ∨ j = p) with e | e
        · exact Hag.out j e
        · rw [e]; exact he)
      clear he hq
      go_wp2_with fail
      go_quiet (fail)
      go_wp2
      go_roundw
      case rel => exact ⟨p + 1, _, by omega, by omega, by go_num, M1.out, rfl⟩
      case measure => simp [intOf]; omega
    · have q := fun W => hq (tg L p) (tg M p) W
      rw [decide_eq_false he] at q
      have E := hide (kpi_stop Hag.out hp hp2 (.inr (.inr he)))
      clear he hq
      go_wp2_with fail
      go_quiet (fail)
      go_wp2
      go_ret
      exact ⟨int_ret (by rw [E.out]), j + nq, by rw [World.drewN_drewN]⟩
end Go.Proofs.Ytlkfpcajpdohiaa
