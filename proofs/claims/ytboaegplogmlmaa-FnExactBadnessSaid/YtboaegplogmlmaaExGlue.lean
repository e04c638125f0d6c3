/- The exact laws on glue hold: whatever the arguments, ValidGlue, AddGlue, Badness and FitGlue answer as their models do. No condition. -/
import Derived.Test.YtboaegplogmlmaaFrame
import Derived.Test.YtboaegplogmlmaaGlueB
namespace Go.Proofs.Ytboaegplogmlmaa
open Go.ChangeShapes Go.WideShapes Go.ChangeAt Go.RowKit
set_option linter.unusedVariables false

theorem walk_FnExactBadness (n h : Int) (w : World) (_ : (Lit.int .i64 n).wf = true) (_ : (Lit.int .i64 h).wf = true) :
    Calls Try.prog 10 #[.int .i64 n, .int .i64 h] w fun e w' => e = .returned (.bool true) ∧ Below w.heap.size w w' := by
  go_enter Try.func10, Try.ntmps10
  go_wp2_with (first | (go_at_call 18; refine (Badness_s _ _ _).mono ?_; rintro e w' ⟨rfl, rfl⟩) | (go_at_call 17; refine (Badness_i _ _ _).mono ?_; rintro e w' ⟨rfl, rfl⟩))
  go_ret
  refine ⟨rfl, ?_⟩
  repeat' (first | exact bl_refl _ | refine bl_alloc ?_ _ | refine bl_set ?_ ?_ _ | refine bl_drewN ?_ _ | refine bl_drew ?_ | refine bl_call (by assumption) ?_)
set_option maxRecDepth 100000 in
theorem lifted_FnExactBadness (os : Os) (started : os.Started) (H : Type) (enc : TypeId × Value → H) :
    ReturnsInHanded {} Try.checked os 10 .any (Rows.fnExactBadnessSpec.pre6 enc Try.prog Try.f10 Rows.fnExactBadnessRow.domain false) (Rows.fnExactBadnessSpec.post enc Try.prog Try.f10 false true false false) := by
  refine returnsInHanded_of_change (C := Try.checked) own_knob started (by kernel_rfl) Try.func10
    (ChangeSpec.witness6 (enc := enc) (C := Try.checked) false ⟨#[], #[.int .i64 0, .int .i64 0], []⟩ 8 (by kernel_rfl) (by kernel_rfl) (by kernel_rfl) (by kernel_rfl)) ?_
  intro W base args ds gs before hval0 hW hcnd _
  have hval : ∀ (j : Nat) t v, Try.f10.params[j]? = some t → args[j]? = some v → Value.okWide Try.prog W .any base t v := hval0
  have hW' := hW
  obtain ⟨p, q, hA0, hV, rfl, hfz, hnd⟩ := hW
  have hA : DataW.TrodAll enc Try.prog W 0 (fun _ => true) true Try.f10.params.toList args.toList ds p := hA0
  rw [Try.params10] at hA hval
  obtain ⟨v0, vs0, d0, ds0, p0, q0, hargs, rfl, rfl, zh0, r0⟩ := trodAll_cons hA
  obtain ⟨v1, vs1, d1, ds1, p1, q1, rfl, rfl, rfl, zh1, r1⟩ := trodAll_cons r0
  obtain ⟨rfl, rfl, rfl⟩ := trodAll_nil r1
  obtain rfl : args = #[v0, v1] := by cases args; simp_all
  obtain ⟨rfl, rfl⟩ := trodVars_none hV
  have zk0 := zh0
  have zl0 : ∀ x ∈ p0, x.block < W.heap.size := by obtain ⟨m, hm⟩ := zk0; exact DataW.trod_lt m _ _ _ hm
  have zk1 := zh1
  have zl1 : ∀ x ∈ p1, x.block < W.heap.size := by obtain ⟨m, hm⟩ := zk1; exact DataW.trod_lt m _ _ _ hm
  clear hA0 hval0
  obtain ⟨n, rfl, rfl, rfl, w_n⟩ := open_int Try.underlying3 (hval 0 3 v0 rfl rfl) zh0
  obtain ⟨h, rfl, rfl, rfl, w_h⟩ := open_int Try.underlying3 (hval 1 3 v1 rfl rfl) zh1
  refine (walk_FnExactBadness n h W w_n w_h).mono fun e W' ⟨he, bel⟩ => ?_
  subst he
  exact ⟨_, rfl, _, _, _, [], _, [], hW', trodAll_mk1 (shut_bool Try.underlying4 _), (trodAll_cons_mk (Below.trod laid_out (by kernel_rfl) (of_decide_eq_true (by kernel_rfl)) zk0 bel zl0) (trodAll_cons_mk (Below.trod laid_out (by kernel_rfl) (of_decide_eq_true (by kernel_rfl)) zk1 bel zl1) trodAll_mk0)), rfl, bel.frame _, fun h => by cases h⟩

/-- The statement. -/
theorem FnExactBadness_holds : Rows.FnExactBadnessSaid :=
  OpenClaim.holds_of_wide 10 Try.f10 rfl rfl rfl rfl rfl rfl rfl ⟨rfl, rfl, rfl, rfl, rfl⟩ rfl rfl rfl rfl rfl (by kernel_rfl) Try.func10 (by kernel_rfl)
    (of_decide_eq_true (by kernel_rfl)) (by unfold Func.isWrapper; first | (rw [if_pos (by decide +kernel)]; kernel_rfl) | (rw [if_neg (by decide +kernel)]; exact ⟨rfl, rfl⟩))
    (fun os started H enc _ => lifted_FnExactBadness os started H enc)

theorem walk_FnExactValidGlue (a b c : Int) (w : World) :
    Calls Try.prog 8 #[gv a b c] w fun e w' => e = .returned (.bool true) ∧ Below w.heap.size w w' := by
  go_enter Try.func8, Try.ntmps8
  go_wp2_with (first | (go_at_call 23; refine (toGlue_l _ _ _ _).mono ?_; rintro e w' ⟨rfl, hb⟩; obtain ⟨hc, hf⟩ := bcell hb; have hz := bl_sz hb; (try simp at hz); (try (have z0 : w.heap.size < w'.heap.size := (by omega); have y0 := Nat.le_of_lt z0)); (try (have z1 : w.heap.size + 1 < w'.heap.size := (by omega); have y1 := Nat.le_of_lt z1)); (try (have z2 : w.heap.size + 1 + 1 < w'.heap.size := (by omega); have y2 := Nat.le_of_lt z2)); (try (have z3 : w.heap.size + 1 + 1 + 1 < w'.heap.size := (by omega); have y3 := Nat.le_of_lt z3)); (try (have z4 : u1.heap.size < w'.heap.size := (by omega); have y4 := Nat.le_of_lt z4)); (try (have z5 : u1.heap.size + 1 < w'.heap.size := (by omega); have y5 := Nat.le_of_lt z5)); (try (have z6 : u2.heap.size < w'.heap.size := (by omega); have y6 := Nat.le_of_lt z6)); (try (have z7 : u2.heap.size + 1 < w'.heap.size := (by omega); have y7 := Nat.le_of_lt z7)); (try (have z8 : u3.heap.size < w'.heap.size := (by omega); have y8 := Nat.le_of_lt z8)); (try (have z9 : u3.heap.size + 1 < w'.heap.size := (by omega); have y9 := Nat.le_of_lt z9)); (try (have z10 : u4.heap.size < w'.heap.size := (by omega); have y10 := Nat.le_of_lt z10)); (try (have z11 : u4.heap.size + 1 < w'.heap.size := (by omega); have y11 := Nat.le_of_lt z11)); (try (have z12 : u5.heap.size < w'.heap.size := (by omega); have y12 := Nat.le_of_lt z12)); (try (have z13 : u5.heap.size + 1 < w'.heap.size := (by omega); have y13 := Nat.le_of_lt z13)); (try (have z14 : u6.heap.size < w'.heap.size := (by omega); have y14 := Nat.le_of_lt z14)); (try (have z15 : u6.heap.size + 1 < w'.heap.size := (by omega); have y15 := Nat.le_of_lt z15)); (first | (have _k := u7; clear _k; rename World => u8) | (have _k := u6; clear _k; rename World => u7) | (have _k := u5; clear _k; rename World => u6) | (have _k := u4; clear _k; rename World => u5) | (have _k := u3; clear _k; rename World => u4) | (have _k := u2; clear _k; rename World => u3) | (have _k := u1; clear _k; rename World => u2) | (rename World => u1))) | (go_at_call 22; refine (ValidGlue_s _ _ _ _).mono ?_; rintro e w' ⟨rfl, hb⟩; obtain ⟨hc, hf⟩ := bcell hb; have hz := bl_sz hb; (try simp at hz); (try (have z0 : w.heap.size < w'.heap.size := (by omega); have y0 := Nat.le_of_lt z0)); (try (have z1 : w.heap.size + 1 < w'.heap.size := (by omega); have y1 := Nat.le_of_lt z1)); (try (have z2 : w.heap.size + 1 + 1 < w'.heap.size := (by omega); have y2 := Nat.le_of_lt z2)); (try (have z3 : w.heap.size + 1 + 1 + 1 < w'.heap.size := (by omega); have y3 := Nat.le_of_lt z3)); (try (have z4 : u1.heap.size < w'.heap.size := (by omega); have y4 := Nat.le_of_lt z4)); (try (have z5 : u1.heap.size + 1 < w'.heap.size := (by omega); have y5 := Nat.le_of_lt z5)); (try (have z6 : u2.heap.size < w'.heap.size := (by omega); have y6 := Nat.le_of_lt z6)); (try (have z7 : u2.heap.size + 1 < w'.heap.size := (by omega); have y7 := Nat.le_of_lt z7)); (try (have z8 : u3.heap.size < w'.heap.size := (by omega); have y8 := Nat.le_of_lt z8)); (try (have z9 : u3.heap.size + 1 < w'.heap.size := (by omega); have y9 := Nat.le_of_lt z9)); (try (have z10 : u4.heap.size < w'.heap.size := (by omega); have y10 := Nat.le_of_lt z10)); (try (have z11 : u4.heap.size + 1 < w'.heap.size := (by omega); have y11 := Nat.le_of_lt z11)); (try (have z12 : u5.heap.size < w'.heap.size := (by omega); have y12 := Nat.le_of_lt z12)); (try (have z13 : u5.heap.size + 1 < w'.heap.size := (by omega); have y13 := Nat.le_of_lt z13)); (try (have z14 : u6.heap.size < w'.heap.size := (by omega); have y14 := Nat.le_of_lt z14)); (try (have z15 : u6.heap.size + 1 < w'.heap.size := (by omega); have y15 := Nat.le_of_lt z15)); (first | (have _k := u7; clear _k; rename World => u8) | (have _k := u6; clear _k; rename World => u7) | (have _k := u5; clear _k; rename World => u6) | (have _k := u4; clear _k; rename World => u5) | (have _k := u3; clear _k; rename World => u4) | (have _k := u2; clear _k; rename World => u3) | (have _k := u1; clear _k; rename World => u2) | (rename World => u1))) | (go_at_call 15; refine (ValidGlue_i _ _ _ _).mono ?_; rintro e w' ⟨rfl, hb⟩; obtain ⟨hc, hf⟩ := bcell hb; have hz := bl_sz hb; (try simp at hz); (try (have z0 : w.heap.size < w'.heap.size := (by omega); have y0 := Nat.le_of_lt z0)); (try (have z1 : w.heap.size + 1 < w'.heap.size := (by omega); have y1 := Nat.le_of_lt z1)); (try (have z2 : w.heap.size + 1 + 1 < w'.heap.size := (by omega); have y2 := Nat.le_of_lt z2)); (try (have z3 : w.heap.size + 1 + 1 + 1 < w'.heap.size := (by omega); have y3 := Nat.le_of_lt z3)); (try (have z4 : u1.heap.size < w'.heap.size := (by omega); have y4 := Nat.le_of_lt z4)); (try (have z5 : u1.heap.size + 1 < w'.heap.size := (by omega); have y5 := Nat.le_of_lt z5)); (try (have z6 : u2.heap.size < w'.heap.size := (by omega); have y6 := Nat.le_of_lt z6)); (try (have z7 : u2.heap.size + 1 < w'.heap.size := (by omega); have y7 := Nat.le_of_lt z7)); (try (have z8 : u3.heap.size < w'.heap.size := (by omega); have y8 := Nat.le_of_lt z8)); (try (have z9 : u3.heap.size + 1 < w'.heap.size := (by omega); have y9 := Nat.le_of_lt z9)); (try (have z10 : u4.heap.size < w'.heap.size := (by omega); have y10 := Nat.le_of_lt z10)); (try (have z11 : u4.heap.size + 1 < w'.heap.size := (by omega); have y11 := Nat.le_of_lt z11)); (try (have z12 : u5.heap.size < w'.heap.size := (by omega); have y12 := Nat.le_of_lt z12)); (try (have z13 : u5.heap.size + 1 < w'.heap.size := (by omega); have y13 := Nat.le_of_lt z13)); (try (have z14 : u6.heap.size < w'.heap.size := (by omega); have y14 := Nat.le_of_lt z14)); (try (have z15 : u6.heap.size + 1 < w'.heap.size := (by omega); have y15 := Nat.le_of_lt z15)); (first | (have _k := u7; clear _k; rename World => u8) | (have _k := u6; clear _k; rename World => u7) | (have _k := u5; clear _k; rename World => u6) | (have _k := u4; clear _k; rename World => u5) | (have _k := u3; clear _k; rename World => u4) | (have _k := u2; clear _k; rename World => u3) | (have _k := u1; clear _k; rename World => u2) | (rename World => u1))))
  go_ret
  refine ⟨rfl, ?_⟩
  repeat' (first | exact bl_refl _ | refine bl_alloc ?_ _ | refine bl_set ?_ ?_ _ | refine bl_drewN ?_ _ | refine bl_drew ?_ | refine bl_call (by assumption) ?_)
set_option maxRecDepth 100000 in
theorem lifted_FnExactValidGlue (os : Os) (started : os.Started) (H : Type) (enc : TypeId × Value → H) :
    ReturnsInHanded {} Try.checked os 8 .any (Rows.fnExactValidGlueSpec.pre6 enc Try.prog Try.f8 Rows.fnExactValidGlueRow.domain false) (Rows.fnExactValidGlueSpec.post enc Try.prog Try.f8 false true false false) := by
  refine returnsInHanded_of_change (C := Try.checked) own_knob started (by kernel_rfl) Try.func8
    (ChangeSpec.witness6 (enc := enc) (C := Try.checked) false ⟨#[], #[.agg #[.int .i64 0, .int .i64 0, .int .i64 0]], []⟩ 8 (by kernel_rfl) (by kernel_rfl) (by kernel_rfl) (by kernel_rfl)) ?_
  intro W base args ds gs before hval0 hW hcnd _
  have hval : ∀ (j : Nat) t v, Try.f8.params[j]? = some t → args[j]? = some v → Value.okWide Try.prog W .any base t v := hval0
  have hW' := hW
  obtain ⟨p, q, hA0, hV, rfl, hfz, hnd⟩ := hW
  have hA : DataW.TrodAll enc Try.prog W 0 (fun _ => true) true Try.f8.params.toList args.toList ds p := hA0
  rw [Try.params8] at hA hval
  obtain ⟨v0, vs0, d0, ds0, p0, q0, hargs, rfl, rfl, zh0, r0⟩ := trodAll_cons hA
  obtain ⟨rfl, rfl, rfl⟩ := trodAll_nil r0
  obtain rfl : args = #[v0] := by cases args; simp_all
  obtain ⟨rfl, rfl⟩ := trodVars_none hV
  have zk0 := zh0
  have zl0 : ∀ x ∈ p0, x.block < W.heap.size := by obtain ⟨m, hm⟩ := zk0; exact DataW.trod_lt m _ _ _ hm
  clear hA0 hval0
  obtain ⟨c_g0, c_g1, c_g2, y_g0, y_g1, y_g2, m0, rfl, rfl, rfl, t_g0, t_g1, t_g2⟩ := Joins.open_agg3 Try.underlying38 (by kernel_rfl) (by kernel_rfl) (hval 0 38 v0 rfl rfl) zh0
  obtain ⟨g0, e_g0, _, w_g0⟩ := DataW.trod_int Try.underlying3 t_g0
  simp at e_g0
  subst e_g0
  obtain ⟨g1, e_g1, _, w_g1⟩ := DataW.trod_int Try.underlying3 t_g1
  simp at e_g1
  subst e_g1
  obtain ⟨g2, e_g2, _, w_g2⟩ := DataW.trod_int Try.underlying3 t_g2
  simp at e_g2
  subst e_g2
  refine (walk_FnExactValidGlue g0 g1 g2 W ).mono fun e W' ⟨he, bel⟩ => ?_
  subst he
  exact ⟨_, rfl, _, _, _, [], _, [], hW', trodAll_mk1 (shut_bool Try.underlying4 _), (trodAll_cons_mk (Below.trod laid_out (by kernel_rfl) (of_decide_eq_true (by kernel_rfl)) zk0 bel zl0) trodAll_mk0), rfl, bel.frame _, fun h => by cases h⟩

/-- The statement. -/
theorem FnExactValidGlue_holds : Rows.FnExactValidGlueSaid :=
  OpenClaim.holds_of_wide 8 Try.f8 rfl rfl rfl rfl rfl rfl rfl ⟨rfl, rfl, rfl, rfl, rfl⟩ rfl rfl rfl rfl rfl (by kernel_rfl) Try.func8 (by kernel_rfl)
    (of_decide_eq_true (by kernel_rfl)) (by unfold Func.isWrapper; first | (rw [if_pos (by decide +kernel)]; kernel_rfl) | (rw [if_neg (by decide +kernel)]; exact ⟨rfl, rfl⟩))
    (fun os started H enc _ => lifted_FnExactValidGlue os started H enc)

end Go.Proofs.Ytboaegplogmlmaa
