/- The least height with which columns suffice, in the program and in its model. -/
import Derived.Test.YtkclecfjpabplaaColL
namespace Go.Proofs.Ytkclecfjpabplaa
open Go.ChangeShapes Go.WideShapes Go.ChangeAt Go.RowKit
set_option linter.unusedVariables false
open Classical

set_option maxHeartbeats 1000000 in
theorem Search_BalancedHeight_1 (w : World) (n : Nat) (v1 v2 : Value) (g : Nat → Bool) (hn : n ≤ 1000000) (hm : ∀ a b, a ≤ b → g a = true → g b = true)
    (hg : ∀ (u : World) (k : Nat), Below w.heap.size w u → k < n → Calls Try.prog 67 #[.int .i64 k, v1, v2] u fun e u' => e = .returned (.bool (g k)) ∧ Below u.heap.size u u') :
    Calls Try.prog 66 #[.int .i64 n, .func (.func 67) #[] #[v1, v2]] w fun e w' => (∃ m : Nat, m ≤ n ∧ e = .returned (.int .i64 m) ∧ (∀ k, k < m → g k = false) ∧ (∀ k, m ≤ k → k < n → g k = true)) ∧ Below w.heap.size w w' := by
  have HG := hide hg
  have HM := hide hm
  clear hg hm
  go_enter Try.func66, Try.ntmps66
  go_wp2
  go_loopw [5, 6] (fun lo hi u => ∃ i j : Nat, i ≤ j ∧ j ≤ n ∧ lo = .int .i64 i ∧ hi = .int .i64 j ∧ (∀ k, k < i → g k = false) ∧ (∀ k, j ≤ k → k < n → g k = true) ∧ Below w.heap.size w u) (fun lo hi _ => (intOf hi).toNat - (intOf lo).toNat)
  case atStart => exact ⟨0, n, by omega, by omega, rfl, rfl, fun k hk => by omega, fun k h1 h2 => by omega, bl_refl _⟩
  case round =>
    obtain ⟨i, j, hij, hj, rfl, rfl, h1, h2, hbl⟩ := hrel
    have H1 := hide h1
    have H2 := hide h2
    clear h1 h2
    by_cases hlt : i < j
    · obtain ⟨m, hm⟩ : ∃ m : Nat, m = (i + j) / 2 := ⟨_, rfl⟩
      have hm0 : i ≤ m := by omega
      have hm1 : m < j := by omega
      have hme : ((i : Int) + (j : Int)) / 2 = (m : Int) := by omega
      clear hm
      have CG := HG.out wr m hbl (by omega)
      cases q : g m
      · rw [q] at CG
        have HCG := hide CG
        have M : Hid (∀ k, k < m + 1 → g k = false) := hide (fun k hk => by
          cases q2 : g k
          · rfl
          · rw [HM.out k m (by omega) q2] at q; cases q)
        have HB := hide hbl
        clear CG q hbl
        go_wp2_with fail
        (with_reducible refine HCG.out.mono ?_)
        rintro e u1 ⟨rfl, hb⟩
        have HB1 := hide (bl_call hb HB.out)
        clear hb
        go_wp2
        go_roundw
        case rel => exact ⟨m + 1, j, by omega, by omega, by go_num, rfl, M.out, H2.out, HB1.out⟩
        case measure => simp [intOf]; omega
      · rw [q] at CG
        have HCG := hide CG
        have M : Hid (∀ k, m ≤ k → k < n → g k = true) := hide (fun k hk _ => HM.out m k hk q)
        have HB := hide hbl
        clear CG q hbl
        go_wp2_with fail
        (with_reducible refine HCG.out.mono ?_)
        rintro e u1 ⟨rfl, hb⟩
        have HB1 := hide (bl_call hb HB.out)
        clear hb
        go_wp2
        go_roundw
        case rel => exact ⟨i, m, by omega, by omega, rfl, rfl, H1.out, M.out, HB1.out⟩
        case measure => simp [intOf]; omega
    · have e : i = j := by omega
      have HE := hide e
      clear e
      have HB := hide hbl
      go_wp2
      go_ret
      exact ⟨⟨i, by omega, rfl, H1.out, fun k h1 h2 => H2.out k (by have := HE.out; omega) h2⟩, HB.out⟩
end Go.Proofs.Ytkclecfjpabplaa
