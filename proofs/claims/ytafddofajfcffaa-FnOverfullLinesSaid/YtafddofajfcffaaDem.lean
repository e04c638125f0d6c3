/- The exact law on Demerits holds at every input: it answers as its model does. No condition. -/
import Derived.Test.YtafddofajfcffaaFrame
import Derived.Test.YtafddofajfcffaaGlue
namespace Go.Proofs.Ytafddofajfcffaa
open Go.ChangeShapes Go.WideShapes Go.ChangeAt Go.RowKit
set_option linter.unusedVariables false

def dem (b p : Int) (f : Bool) : Int := (if 0 ≤ p then (1 + b + p) * (1 + b + p) else if -1000 < p then (1 + b) * (1 + b) - p * p else (1 + b) * (1 + b)) + if f then 3000 else 0
def demv (b p : Int) (f : Bool) : Int := if inB b 0 10000 && inB p (-1000) 999 then dem b p f else -1
theorem demv_yes {b p : Int} (f : Bool) (h : 0 ≤ b ∧ b ≤ 10000) (k : -1000 ≤ p ∧ p ≤ 999) : demv b p f = dem b p f := by simp [demv, inB_yes h.1 h.2, inB_yes k.1 k.2]
theorem demv_no {b p : Int} (f : Bool) (h : ¬ ((0 ≤ b ∧ b ≤ 10000) ∧ (-1000 ≤ p ∧ p ≤ 999))) : demv b p f = -1 := by
  unfold demv; rw [if_neg]; simp only [Bool.and_eq_true, inB_iff]; exact h
theorem sq_mono {a b : Int} (h0 : 0 ≤ a) (h : a ≤ b) : a * a ≤ b * b := Int.mul_le_mul h h h0 (by omega)
theorem sq_nn (a : Int) : 0 ≤ a * a := by
  rcases (by omega : 0 ≤ a ∨ a ≤ 0) with h | h
  · exact Int.mul_nonneg h h
  · exact Int.mul_nonneg_of_nonpos_of_nonpos h h

theorem demerits_s (b p : Int) (f : Bool) (w : World) (h0 : 0 ≤ b) (h1 : b ≤ 10000) (p0 : -1000 ≤ p) (p1 : p ≤ 999) :
    Calls Try.prog 145 #[.int .i64 b, .int .i64 p, .bool f] w fun e w' => e = .returned (.int .i64 (dem b p f)) ∧ w = w' := by
  have a0 := sq_nn (1 + b)
  have a1 := sq_mono (a := 1 + b) (b := 10001) (by omega) (by omega)
  have c0 := sq_nn (1 + b + p)
  rcases (by omega : 0 ≤ p ∨ -1000 < p ∧ p < 0 ∨ p = -1000) with q | ⟨q, q'⟩ | rfl
  · have c1 := sq_mono (a := 1 + b + p) (b := 11000) (by omega) (by omega)
    cases f
    · have E := hide (show dem b p false = (1 + b + p) * (1 + b + p) by simp [dem, q])
      go_enter Try.func145, Try.ntmps145
      go_wp2; all_goals (go_ret; exact ⟨int_ret (by rw [E.out]), rfl⟩)
    · have E := hide (show dem b p true = (1 + b + p) * (1 + b + p) + 3000 by simp [dem, q])
      go_enter Try.func145, Try.ntmps145
      go_wp2; all_goals (go_ret; exact ⟨int_ret (by rw [E.out]), rfl⟩)
  · have d0 := sq_nn p
    have d1 := sq_mono (a := -p) (b := 1000) (by omega) (by omega)
    rw [Int.neg_mul_neg] at d1
    cases f
    · have E := hide (show dem b p false = (1 + b) * (1 + b) - p * p by simp [dem, q, show ¬ 0 ≤ p from by omega])
      go_enter Try.func145, Try.ntmps145
      go_wp2; all_goals (go_ret; exact ⟨int_ret (by rw [E.out]), rfl⟩)
    · have E := hide (show dem b p true = (1 + b) * (1 + b) - p * p + 3000 by simp [dem, q, show ¬ 0 ≤ p from by omega])
      go_enter Try.func145, Try.ntmps145
      go_wp2; all_goals (go_ret; exact ⟨int_ret (by rw [E.out]), rfl⟩)
  · cases f
    · have E := hide (show dem b (-1000) false = (1 + b) * (1 + b) by simp [dem])
      go_enter Try.func145, Try.ntmps145
      go_wp2; all_goals (go_ret; exact ⟨int_ret (by rw [E.out]), rfl⟩)
    · have E := hide (show dem b (-1000) true = (1 + b) * (1 + b) + 3000 by simp [dem])
      go_enter Try.func145, Try.ntmps145
      go_wp2; all_goals (go_ret; exact ⟨int_ret (by rw [E.out]), rfl⟩)


theorem Demerits_i (b p : Int) (f : Bool) (w : World) :
    Calls Try.prog 147 #[.int .i64 b, .int .i64 p, .bool f] w fun e w' => e = .returned (.int .i64 (demv b p f)) ∧ w = w' := by
  by_cases hv : (0 ≤ b ∧ b ≤ 10000) ∧ (-1000 ≤ p ∧ p ≤ 999)
  · obtain ⟨⟨h0, h1⟩, p0, p1⟩ := hv
    have q1 := inB_yes h0 h1
    have q2 := inB_yes p0 p1
    have a0 := sq_nn (1 + b)
    have a1 := sq_mono (a := 1 + b) (b := 10001) (by omega) (by omega)
    have c0 := sq_nn (1 + b + p)
    have V := hide (demv_yes f ⟨h0, h1⟩ ⟨p0, p1⟩)
    rcases (by omega : 0 ≤ p ∨ -1000 < p ∧ p < 0 ∨ p = -1000) with q | ⟨q, q'⟩ | rfl
    · have c1 := sq_mono (a := 1 + b + p) (b := 11000) (by omega) (by omega)
      cases f
      · have E := hide (V.out.trans (show dem b p false = (1 + b + p) * (1 + b + p) by simp [dem, q]))
        go_enter Try.func147, Try.ntmps147
        go_wp2_with (go_at_call 119; refine (within_any _ _ _ _).mono ?_; rintro e w' ⟨rfl, rfl⟩)
        go_ret
        exact ⟨int_ret (by rw [E.out]), rfl⟩
      · have E := hide (V.out.trans (show dem b p true = (1 + b + p) * (1 + b + p) + 3000 by simp [dem, q]))
        go_enter Try.func147, Try.ntmps147
        go_wp2_with (go_at_call 119; refine (within_any _ _ _ _).mono ?_; rintro e w' ⟨rfl, rfl⟩)
        go_ret
        exact ⟨int_ret (by rw [E.out]), rfl⟩
    · have d0 := sq_nn p
      have d1 := sq_mono (a := -p) (b := 1000) (by omega) (by omega)
      rw [Int.neg_mul_neg] at d1
      cases f
      · have E := hide (V.out.trans (show dem b p false = (1 + b) * (1 + b) - p * p by simp [dem, q, show ¬ 0 ≤ p from by omega]))
        go_enter Try.func147, Try.ntmps147
        go_wp2_with (go_at_call 119; refine (within_any _ _ _ _).mono ?_; rintro e w' ⟨rfl, rfl⟩)
        go_ret
        exact ⟨int_ret (by rw [E.out]), rfl⟩
      · have E := hide (V.out.trans (show dem b p true = (1 + b) * (1 + b) - p * p + 3000 by simp [dem, q, show ¬ 0 ≤ p from by omega]))
        go_enter Try.func147, Try.ntmps147
        go_wp2_with (go_at_call 119; refine (within_any _ _ _ _).mono ?_; rintro e w' ⟨rfl, rfl⟩)
        go_ret
        exact ⟨int_ret (by rw [E.out]), rfl⟩
    · cases f
      · have E := hide (V.out.trans (show dem b (-1000) false = (1 + b) * (1 + b) by simp [dem]))
        go_enter Try.func147, Try.ntmps147
        go_wp2_with (go_at_call 119; refine (within_any _ _ _ _).mono ?_; rintro e w' ⟨rfl, rfl⟩)
        go_ret
        exact ⟨int_ret (by rw [E.out]), rfl⟩
      · have E := hide (V.out.trans (show dem b (-1000) true = (1 + b) * (1 + b) + 3000 by simp [dem]))
        go_enter Try.func147, Try.ntmps147
        go_wp2_with (go_at_call 119; refine (within_any _ _ _ _).mono ?_; rintro e w' ⟨rfl, rfl⟩)
        go_ret
        exact ⟨int_ret (by rw [E.out]), rfl⟩
  · have V := hide (demv_no f hv)
    cases q1 : inB b 0 10000 <;> cases q2 : inB p (-1000) 999
    all_goals first | (exfalso; exact hv ⟨inB_iff.1 (by assumption), inB_iff.1 (by assumption)⟩) | skip
    all_goals
      clear hv
      go_enter Try.func147, Try.ntmps147
      go_wp2_with (go_at_call 119; refine (within_any _ _ _ _).mono ?_; rintro e w' ⟨rfl, rfl⟩)
      go_ret
      exact ⟨int_ret (by rw [V.out]), rfl⟩

end Go.Proofs.Ytafddofajfcffaa
