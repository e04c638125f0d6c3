/- The exact law on Demerits holds at every input: it answers as its model does. No condition. -/
import Derived.Test.YtfcoheakecfolaaFrame
import Derived.Test.YtfcoheakecfolaaGlue
namespace Go.Proofs.Ytfcoheakecfolaa
open Go.ChangeShapes Go.WideShapes Go.ChangeAt Go.RowKit
set_option linter.unusedVariables false

def dem (b p : Int) (f : Bool) : Int := (if 0 ≤ p then (1 + b + p) * (1 + b + p) else if -1000 < p then (1 + b) * (1 + b) - p * p else (1 + b) * (1 + b)) + if f then 3000 else 0
def demv (b p : Int) (f : Bool) : Int := if inB b 0 10000 && inB p (-1000) 999 then dem b p f else -1
theorem demv_yes {b p : Int} (f : Bool) (h : 0 ≤ b ∧ b ≤ 10000) (k : -1000 ≤ p ∧ p ≤ 999) : demv b p f = dem b p f := by simp [demv, inB_yes h.1 h.2, inB_yes k.1 k.2]
theorem demv_no {b p : Int} (f : Bool) (h : ¬ ((0 ≤ b ∧ b ≤ 10000) ∧ (-1000 ≤ p ∧ p ≤ 999))) : demv b p f = -1 := by
  unfold demv; rw [if_neg]; simp only [Bool.and_eq_true, inB_iff]; exact h
theorem sq_mono {a b : Int} (h0 : 0 ≤ a) (h : a ≤ b) : a * a ≤ b * b := Int.mul_le_mul h h h0 (by omega)
theorem sq_nn (a : Int) : 0 ≤ a * a := by
  rcases (by omega : 0 ≤ a ∨ a ≤ 0) with h | h
  · exact Int.mul_nonneg h h
  · exact Int.mul_nonneg_of_nonpos_of_nonpos h h

theorem demerits_s (b p : Int) (f : Bool) (w : World) (h0 : 0 ≤ b) (h1 : b ≤ 10000) (p0 : -1000 ≤ p) (p1 : p ≤ 999) :
    Calls Try.prog 46 #[.int .i64 b, .int .i64 p, .bool f] w fun e w' => e = .returned (.int .i64 (dem b p f)) ∧ w = w' := by
  have a0 := sq_nn (1 + b)
  have a1 := sq_mono (a := 1 + b) (b := 10001) (by omega) (by omega)
  have c0 := sq_nn (1 + b + p)
  rcases (by omega : 0 ≤ p ∨ -1000 < p ∧ p < 0 ∨ p = -1000) with q | ⟨q, q'⟩ | rfl
  · have c1 := sq_mono (a := 1 + b + p) (b := 11000) (by omega) (by omega)
    cases f
    · have E := hide (show dem b p false = (1 + b + p) * (1 + b + p) by simp [dem, q])
      go_enter Try.func46, Try.ntmps46
      go_wp2; all_goals (go_ret; exact ⟨int_ret (by rw [E.out]), rfl⟩)
    · have E := hide (show dem b p true = (1 + b + p) * (1 + b + p) + 3000 by simp [dem, q])
      go_enter Try.func46, Try.ntmps46
      go_wp2; all_goals (go_ret; exact ⟨int_ret (by rw [E.out]), rfl⟩)
  · have d0 := sq_nn p
    have d1 := sq_mono (a := -p) (b := 1000) (by omega) (by omega)
    rw [Int.neg_mul_neg] at d1
    cases f
    · have E := hide (show dem b p false = (1 + b) * (1 + b) - p * p by simp [dem, q, show ¬ 0 ≤ p from by omega])
      go_enter Try.func46, Try.ntmps46
      go_wp2; all_goals (go_ret; exact ⟨int_ret (by rw [E.out]), rfl⟩)
    · have E := hide (show dem b p true = (1 + b) * (1 + b) - p * p + 3000 by simp [dem, q, show ¬ 0 ≤ p from by omega])
      go_enter Try.func46, Try.ntmps46
      go_wp2; all_goals (go_ret; exact ⟨int_ret (by rw [E.out]), rfl⟩)
  · cases f
    · have E := hide (show dem b (-1000) false = (1 + b) * (1 + b) by simp [dem])
      go_enter Try.func46, Try.ntmps46
      go_wp2; all_goals (go_ret; exact ⟨int_ret (by rw [E.out]), rfl⟩)
    · have E := hide (show dem b (-1000) true = (1 + b) * (1 + b) + 3000 by simp [dem])
      go_enter Try.func46, Try.ntmps46
      go_wp2; all_goals (go_ret; exact ⟨int_ret (by rw [E.out]), rfl⟩)

theorem Demerits_s (b p : Int) (f : Bool) (w : World) :
    Calls Try.prog 17 #[.int .i64 b, .int .i64 p, .bool f] w fun e w' => e = .returned (.int .i64 (demv b p f)) ∧ w = w' := by
  cases q1 : inB b 0 10000 <;> cases q2 : inB p (-1000) 999
  all_goals
    try have k1 := inB_iff.1 q1
    try have k2 := inB_iff.1 q2
    go_enter Try.func17, Try.ntmps17
    go_wp2_with (first | (go_at_call 45; refine (inRange_any _ _ _ _).mono ?_; rintro e w' ⟨rfl, rfl⟩) | (go_at_call 46; refine (demerits_s _ _ _ _ (by omega) (by omega) (by omega) (by omega)).mono ?_; rintro e w' ⟨rfl, rfl⟩))
    go_ret
    exact ⟨int_ret (by simp [demv, q1, q2]), rfl⟩

theorem Demerits_i (b p : Int) (f : Bool) (w : World) :
    Calls Try.prog 16 #[.int .i64 b, .int .i64 p, .bool f] w fun e w' => e = .returned (.int .i64 (demv b p f)) ∧ w = w' := by
  by_cases hv : (0 ≤ b ∧ b ≤ 10000) ∧ (-1000 ≤ p ∧ p ≤ 999)
  · obtain ⟨⟨h0, h1⟩, p0, p1⟩ := hv
    have q1 := inB_yes h0 h1
    have q2 := inB_yes p0 p1
    have a0 := sq_nn (1 + b)
    have a1 := sq_mono (a := 1 + b) (b := 10001) (by omega) (by omega)
    have c0 := sq_nn (1 + b + p)
    have V := hide (demv_yes f ⟨h0, h1⟩ ⟨p0, p1⟩)
    rcases (by omega : 0 ≤ p ∨ -1000 < p ∧ p < 0 ∨ p = -1000) with q | ⟨q, q'⟩ | rfl
    · have c1 := sq_mono (a := 1 + b + p) (b := 11000) (by omega) (by omega)
      cases f
      · have E := hide (V.out.trans (show dem b p false = (1 + b + p) * (1 + b + p) by simp [dem, q]))
        go_enter Try.func16, Try.ntmps16
        go_wp2_with (go_at_call 44; refine (within_any _ _ _ _).mono ?_; rintro e w' ⟨rfl, rfl⟩)
        go_ret
        exact ⟨int_ret (by rw [E.out]), rfl⟩
      · have E := hide (V.out.trans (show dem b p true = (1 + b + p) * (1 + b + p) + 3000 by simp [dem, q]))
        go_enter Try.func16, Try.ntmps16
        go_wp2_with (go_at_call 44; refine (within_any _ _ _ _).mono ?_; rintro e w' ⟨rfl, rfl⟩)
        go_ret
        exact ⟨int_ret (by rw [E.out]), rfl⟩
    · have d0 := sq_nn p
      have d1 := sq_mono (a := -p) (b := 1000) (by omega) (by omega)
      rw [Int.neg_mul_neg] at d1
      cases f
      · have E := hide (V.out.trans (show dem b p false = (1 + b) * (1 + b) - p * p by simp [dem, q, show ¬ 0 ≤ p from by omega]))
        go_enter Try.func16, Try.ntmps16
        go_wp2_with (go_at_call 44; refine (within_any _ _ _ _).mono ?_; rintro e w' ⟨rfl, rfl⟩)
        go_ret
        exact ⟨int_ret (by rw [E.out]), rfl⟩
      · have E := hide (V.out.trans (show dem b p true = (1 + b) * (1 + b) - p * p + 3000 by simp [dem, q, show ¬ 0 ≤ p from by omega]))
        go_enter Try.func16, Try.ntmps16
        go_wp2_with (go_at_call 44; refine (within_any _ _ _ _).mono ?_; rintro e w' ⟨rfl, rfl⟩)
        go_ret
        exact ⟨int_ret (by rw [E.out]), rfl⟩
    · cases f
      · have E := hide (V.out.trans (show dem b (-1000) false = (1 + b) * (1 + b) by simp [dem]))
        go_enter Try.func16, Try.ntmps16
        go_wp2_with (go_at_call 44; refine (within_any _ _ _ _).mono ?_; rintro e w' ⟨rfl, rfl⟩)
        go_ret
        exact ⟨int_ret (by rw [E.out]), rfl⟩
      · have E := hide (V.out.trans (show dem b (-1000) true = (1 + b) * (1 + b) + 3000 by simp [dem]))
        go_enter Try.func16, Try.ntmps16
        go_wp2_with (go_at_call 44; refine (within_any _ _ _ _).mono ?_; rintro e w' ⟨rfl, rfl⟩)
        go_ret
        exact ⟨int_ret (by rw [E.out]), rfl⟩
  · have V := hide (demv_no f hv)
    cases q1 : inB b 0 10000 <;> cases q2 : inB p (-1000) 999
    all_goals first | (exfalso; exact hv ⟨inB_iff.1 (by assumption), inB_iff.1 (by assumption)⟩) | skip
    all_goals
      clear hv
      go_enter Try.func16, Try.ntmps16
      go_wp2_with (go_at_call 44; refine (within_any _ _ _ _).mono ?_; rintro e w' ⟨rfl, rfl⟩)
      go_ret
      exact ⟨int_ret (by rw [V.out]), rfl⟩

theorem walk_FnExactDemerits (b p : Int) (f : Bool) (w : World) (_ : (Lit.int .i64 b).wf = true) (_ : (Lit.int .i64 p).wf = true) :
    Calls Try.prog 5 #[.int .i64 b, .int .i64 p, .bool f] w fun e w' => e = .returned (.bool true) ∧ Below w.heap.size w w' := by
  go_enter Try.func5, Try.ntmps5
  go_wp2_with (first | (go_at_call 17; refine (Demerits_s _ _ _ _).mono ?_; rintro e w' ⟨rfl, rfl⟩) | (go_at_call 16; refine (Demerits_i _ _ _ _).mono ?_; rintro e w' ⟨rfl, rfl⟩))
  go_ret
  refine ⟨rfl, ?_⟩
  repeat' (first | with_reducible exact bl_refl _ | with_reducible assumption | with_reducible refine bl_alloc ?_ _ | with_reducible refine bl_set ?_ ?_ _ | with_reducible refine bl_drewN ?_ _ | with_reducible refine bl_drew ?_ | with_reducible refine bl_call (by assumption) ?_)
set_option maxRecDepth 100000 in
theorem lifted_FnExactDemerits (os : Os) (started : os.Started) (H : Type) (enc : TypeId × Value → H) :
    ReturnsInHanded {} Try.checked os 5 .any (Rows.fnExactDemeritsSpec.pre6 enc Try.prog Try.f5 Rows.fnExactDemeritsRow.domain false) (Rows.fnExactDemeritsSpec.post enc Try.prog Try.f5 false true false false) := by
  refine returnsInHanded_of_change (C := Try.checked) own_knob started (by kernel_rfl) Try.func5
    (ChangeSpec.witness6 (enc := enc) (C := Try.checked) false ⟨#[], #[.int .i64 0, .int .i64 0, .bool false], []⟩ 8 (by kernel_rfl) (by kernel_rfl) (by kernel_rfl) (by kernel_rfl)) ?_
  intro W base args ds gs before hval0 hW hcnd _
  have hval : ∀ (j : Nat) t v, Try.f5.params[j]? = some t → args[j]? = some v → Value.okWide Try.prog W .any base t v := hval0
  have hW' := hW
  obtain ⟨p, q, hA0, hV, rfl, hfz, hnd⟩ := hW
  have hA : DataW.TrodAll enc Try.prog W 0 (fun _ => true) true Try.f5.params.toList args.toList ds p := hA0
  rw [Try.params5] at hA hval
  obtain ⟨v0, vs0, d0, ds0, p0, q0, hargs, rfl, rfl, zh0, r0⟩ := trodAll_cons hA
  obtain ⟨v1, vs1, d1, ds1, p1, q1, rfl, rfl, rfl, zh1, r1⟩ := trodAll_cons r0
  obtain ⟨v2, vs2, d2, ds2, p2, q2, rfl, rfl, rfl, zh2, r2⟩ := trodAll_cons r1
  obtain ⟨rfl, rfl, rfl⟩ := trodAll_nil r2
  obtain rfl : args = #[v0, v1, v2] := by cases args; simp_all
  obtain ⟨rfl, rfl⟩ := trodVars_none hV
  have zk0 := zh0
  have zl0 : ∀ x ∈ p0, x.block < W.heap.size := by obtain ⟨m, hm⟩ := zk0; exact DataW.trod_lt m _ _ _ hm
  have zk1 := zh1
  have zl1 : ∀ x ∈ p1, x.block < W.heap.size := by obtain ⟨m, hm⟩ := zk1; exact DataW.trod_lt m _ _ _ hm
  have zk2 := zh2
  have zl2 : ∀ x ∈ p2, x.block < W.heap.size := by obtain ⟨m, hm⟩ := zk2; exact DataW.trod_lt m _ _ _ hm
  clear hA0 hval0
  obtain ⟨b, rfl, rfl, rfl, w_b⟩ := open_int Try.underlying3 (hval 0 3 v0 rfl rfl) zh0
  obtain ⟨p, rfl, rfl, rfl, w_p⟩ := open_int Try.underlying3 (hval 1 3 v1 rfl rfl) zh1
  obtain ⟨f, rfl, rfl, rfl⟩ := Go.RowKit.open_bool Try.underlying4 (hval 2 4 v2 rfl rfl) zh2
  refine (walk_FnExactDemerits b p f W w_b w_p ).mono fun e W' ⟨he, bel⟩ => ?_
  subst he
  exact ⟨_, rfl, _, _, _, [], _, [], hW', trodAll_mk1 (shut_bool Try.underlying4 _), (trodAll_cons_mk (Below.trod laid_out (by kernel_rfl) (of_decide_eq_true (by kernel_rfl)) zk0 bel zl0) (trodAll_cons_mk (Below.trod laid_out (by kernel_rfl) (of_decide_eq_true (by kernel_rfl)) zk1 bel zl1) (trodAll_cons_mk (Below.trod laid_out (by kernel_rfl) (of_decide_eq_true (by kernel_rfl)) zk2 bel zl2) trodAll_mk0))), rfl, bel.frame _, fun h => by cases h⟩

/-- The statement. -/
theorem FnExactDemerits_holds : Rows.FnExactDemeritsSaid :=
  OpenClaim.holds_of_wide 5 Try.f5 rfl rfl rfl rfl rfl rfl rfl ⟨rfl, rfl, rfl, rfl, rfl⟩ rfl rfl rfl rfl rfl (by kernel_rfl) Try.func5 (by kernel_rfl)
    (of_decide_eq_true (by kernel_rfl)) (by unfold Func.isWrapper; first | (rw [if_pos (by decide +kernel)]; kernel_rfl) | (rw [if_neg (by decide +kernel)]; exact ⟨rfl, rfl⟩))
    (fun os started H enc _ => lifted_FnExactDemerits os started H enc)
end Go.Proofs.Ytfcoheakecfolaa
