/- Sums of lists, and pieces that are filled one after the other. -/
import Derived.Test.YtlfhfbeacleggaaGlue
import Derived.Test.YtlfhfbeacleggaaInts
import Derived.Test.YtlfhfbeacleggaaFil
namespace Go.Proofs.Ytlfhfbeacleggaa
open Go.ChangeShapes Go.WideShapes Go.ChangeAt Go.RowKit
set_option linter.unusedVariables false
set_option linter.unusedSimpArgs false

/-- The numbers from the f-th up to the t-th. -/
theorem ng_sub {l : List Int} {f t i : Nat} (hi : i < t - f) : ng ((l.drop f).take (t - f)) i = ng l (f + i) := by
  simp [ng, List.getD, List.getElem?_take, hi, List.getElem?_drop]
theorem IL.sub {w : World} {b o : Nat} {l : List Int} {f t : Nat} (h : IL w (some ⟨b, o, none⟩) l.length l) (hft : f ≤ t) (ht : t ≤ l.length) : IL w (some ⟨b, o + f, none⟩) (t - f) ((l.drop f).take (t - f)) := by
  refine ⟨by simp; omega, fun h0 => ?_⟩
  obtain ⟨b', o', e, hb, hc⟩ := h.2 (by omega)
  injection e with e
  cases e
  refine ⟨b, _, rfl, hb, fun i hi => ?_⟩
  rw [ng_sub hi, ← hc (f + i) (by omega), Nat.add_assoc o]
theorem sumOf_i (w : World) (A : Option Addr) (n c : Nat) (l : List Int) (ha : IL w A n l) (hl : l.length ≤ 1000) (hb : ∀ j, j < l.length → 0 ≤ ng l j ∧ ng l j ≤ 100000) :
    Calls Try.prog 130 #[.slice A n c] w fun e w' => e = .returned (.int .i64 (sl l)) ∧ w' = w := by
  obtain rfl : n = l.length := ha.1
  have HB := hide hb
  clear hb
  go_enter Try.func130, Try.ntmps130
  go_wp2
  go_loop [3, 8] (fun v i => ∃ p : Nat, p ≤ l.length ∧ v = .int .i64 (pfx l p) ∧ i = .int .i64 p) (fun _ i => l.length - (intOf i).toNat)
  case atStart => exact ⟨0, by omega, rfl, rfl⟩
  case round =>
    obtain ⟨p, hp, rfl, rfl⟩ := hrel
    obtain ⟨b1, b2⟩ := pfx_bd HB.out hp
    obtain ⟨y, hy⟩ : ∃ y, y = pfx l p := ⟨_, rfl⟩
    rw [← hy] at b1 b2
    rw [← hy]
    have HY := hide hy
    clear hy
    have b3 : y ≤ 100000000 := by omega
    clear b2
    by_cases hlt : p < l.length
    · obtain ⟨b, o, rfl, _, hc⟩ := ha.at_ hlt
      obtain ⟨x0, x1⟩ := HB.out p hlt
      obtain ⟨x, hx⟩ : ∃ x, x = ng l p := ⟨_, rfl⟩
      rw [← hx] at hc x0 x1
      have HX := hide hx
      clear hx
      go_wp2
      go_round
      case rel => exact ⟨p + 1, by omega, by rw [HY.out, HX.out]; rfl, by go_num⟩
      case measure => simp [intOf]; omega
    · have E : Hid (sl l = y) := hide (by rw [HY.out, show p = l.length from by omega, pfx_all])
      go_wp2
      go_ret
      exact ⟨int_ret E.out.symm, rfl⟩
theorem sum_l (w : World) (A : Option Addr) (n c : Nat) (l : List Int) (ha : IL w A n l) (hl : l.length ≤ 1000) (hb : ∀ j, j < l.length → 0 ≤ ng l j ∧ ng l j ≤ 100000) :
    Calls Try.prog 41 #[.slice A n c] w fun e w' => e = .returned (.int .i64 (sl l)) ∧ w' = w := by
  obtain rfl : n = l.length := ha.1
  have HB := hide hb
  clear hb
  go_enter Try.func41, Try.ntmps41
  go_wp2
  go_loop [3, 4] (fun v i => ∃ p : Nat, p ≤ l.length ∧ v = .int .i64 (pfx l p) ∧ i = .int .i64 p) (fun _ i => l.length - (intOf i).toNat)
  case atStart => exact ⟨0, by omega, rfl, rfl⟩
  case round =>
    obtain ⟨p, hp, rfl, rfl⟩ := hrel
    obtain ⟨b1, b2⟩ := pfx_bd HB.out hp
    obtain ⟨y, hy⟩ : ∃ y, y = pfx l p := ⟨_, rfl⟩
    rw [← hy] at b1 b2
    rw [← hy]
    have HY := hide hy
    clear hy
    have b3 : y ≤ 100000000 := by omega
    clear b2
    by_cases hlt : p < l.length
    · obtain ⟨b, o, rfl, _, hc⟩ := ha.at_ hlt
      obtain ⟨x0, x1⟩ := HB.out p hlt
      obtain ⟨x, hx⟩ : ∃ x, x = ng l p := ⟨_, rfl⟩
      rw [← hx] at hc x0 x1
      have HX := hide hx
      clear hx
      go_wp2
      go_round
      case rel => exact ⟨p + 1, by omega, by rw [HY.out, HX.out]; rfl, by go_num⟩
      case measure => simp [intOf]; omega
    · have E : Hid (sl l = y) := hide (by rw [HY.out, show p = l.length from by omega, pfx_all])
      go_wp2
      go_ret
      exact ⟨int_ret E.out.symm, rfl⟩


end Go.Proofs.Ytlfhfbeacleggaa
