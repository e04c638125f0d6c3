/- The exact law on FitGlue holds: whatever the arguments, it answers as its model does. No condition. -/
import Derived.Test.YtboaegplogmlmaaFrame
import Derived.Test.YtboaegplogmlmaaGlueB
namespace Go.Proofs.Ytboaegplogmlmaa
open Go.ChangeShapes Go.WideShapes Go.ChangeAt Go.RowKit
set_option linter.unusedVariables false

theorem walk_FnExactFitGlue (a b c : Int) (d : Int) (w : World) (_ : (Lit.int .i64 d).wf = true) :
    Calls Try.prog 11 #[gv a b c, .int .i64 d] w fun e w' => e = .returned (.bool true) ∧ Below w.heap.size w w' := by
  have Hs := hide (fun W => FitGlue_s a b c d W)
  have Hi := hide (fun W => FitGlue_i a b c d W)
  generalize (fitv a b c d).1 = p at Hs Hi
  generalize (fitv a b c d).2 = q at Hs Hi
  go_enter Try.func11, Try.ntmps11
  go_wp2_with (first | (go_at_call 23; refine (toGlue_l _ _ _ _).mono ?_; rintro e w' ⟨rfl, hb⟩; obtain ⟨hc, hf⟩ := bcell hb; have hz := bl_sz hb; (try simp at hz); (try (have z0 : w.heap.size < w'.heap.size := (by omega); have y0 := Nat.le_of_lt z0)); (try (have z1 : w.heap.size + 1 < w'.heap.size := (by omega); have y1 := Nat.le_of_lt z1)); (try (have z2 : w.heap.size + 1 + 1 < w'.heap.size := (by omega); have y2 := Nat.le_of_lt z2)); (try (have z3 : w.heap.size + 1 + 1 + 1 < w'.heap.size := (by omega); have y3 := Nat.le_of_lt z3)); (try (have z4 : u1.heap.size < w'.heap.size := (by omega); have y4 := Nat.le_of_lt z4)); (try (have z5 : u1.heap.size + 1 < w'.heap.size := (by omega); have y5 := Nat.le_of_lt z5)); (try (have z6 : u2.heap.size < w'.heap.size := (by omega); have y6 := Nat.le_of_lt z6)); (try (have z7 : u2.heap.size + 1 < w'.heap.size := (by omega); have y7 := Nat.le_of_lt z7)); (try (have z8 : u3.heap.size < w'.heap.size := (by omega); have y8 := Nat.le_of_lt z8)); (try (have z9 : u3.heap.size + 1 < w'.heap.size := (by omega); have y9 := Nat.le_of_lt z9)); (try (have z10 : u4.heap.size < w'.heap.size := (by omega); have y10 := Nat.le_of_lt z10)); (try (have z11 : u4.heap.size + 1 < w'.heap.size := (by omega); have y11 := Nat.le_of_lt z11)); (try (have z12 : u5.heap.size < w'.heap.size := (by omega); have y12 := Nat.le_of_lt z12)); (try (have z13 : u5.heap.size + 1 < w'.heap.size := (by omega); have y13 := Nat.le_of_lt z13)); (try (have z14 : u6.heap.size < w'.heap.size := (by omega); have y14 := Nat.le_of_lt z14)); (try (have z15 : u6.heap.size + 1 < w'.heap.size := (by omega); have y15 := Nat.le_of_lt z15)); (first | (have _k := u7; clear _k; rename World => u8) | (have _k := u6; clear _k; rename World => u7) | (have _k := u5; clear _k; rename World => u6) | (have _k := u4; clear _k; rename World => u5) | (have _k := u3; clear _k; rename World => u4) | (have _k := u2; clear _k; rename World => u3) | (have _k := u1; clear _k; rename World => u2) | (rename World => u1))) | (go_at_call 21; refine (Hs.out _).mono ?_; rintro e w' ⟨rfl, hb⟩; obtain ⟨hc, hf⟩ := bcell hb; have hz := bl_sz hb; (try simp at hz); (try (have z0 : w.heap.size < w'.heap.size := (by omega); have y0 := Nat.le_of_lt z0)); (try (have z1 : w.heap.size + 1 < w'.heap.size := (by omega); have y1 := Nat.le_of_lt z1)); (try (have z2 : w.heap.size + 1 + 1 < w'.heap.size := (by omega); have y2 := Nat.le_of_lt z2)); (try (have z3 : w.heap.size + 1 + 1 + 1 < w'.heap.size := (by omega); have y3 := Nat.le_of_lt z3)); (try (have z4 : u1.heap.size < w'.heap.size := (by omega); have y4 := Nat.le_of_lt z4)); (try (have z5 : u1.heap.size + 1 < w'.heap.size := (by omega); have y5 := Nat.le_of_lt z5)); (try (have z6 : u2.heap.size < w'.heap.size := (by omega); have y6 := Nat.le_of_lt z6)); (try (have z7 : u2.heap.size + 1 < w'.heap.size := (by omega); have y7 := Nat.le_of_lt z7)); (try (have z8 : u3.heap.size < w'.heap.size := (by omega); have y8 := Nat.le_of_lt z8)); (try (have z9 : u3.heap.size + 1 < w'.heap.size := (by omega); have y9 := Nat.le_of_lt z9)); (try (have z10 : u4.heap.size < w'.heap.size := (by omega); have y10 := Nat.le_of_lt z10)); (try (have z11 : u4.heap.size + 1 < w'.heap.size := (by omega); have y11 := Nat.le_of_lt z11)); (try (have z12 : u5.heap.size < w'.heap.size := (by omega); have y12 := Nat.le_of_lt z12)); (try (have z13 : u5.heap.size + 1 < w'.heap.size := (by omega); have y13 := Nat.le_of_lt z13)); (try (have z14 : u6.heap.size < w'.heap.size := (by omega); have y14 := Nat.le_of_lt z14)); (try (have z15 : u6.heap.size + 1 < w'.heap.size := (by omega); have y15 := Nat.le_of_lt z15)); (first | (have _k := u7; clear _k; rename World => u8) | (have _k := u6; clear _k; rename World => u7) | (have _k := u5; clear _k; rename World => u6) | (have _k := u4; clear _k; rename World => u5) | (have _k := u3; clear _k; rename World => u4) | (have _k := u2; clear _k; rename World => u3) | (have _k := u1; clear _k; rename World => u2) | (rename World => u1))) | (go_at_call 20; refine (Hi.out _).mono ?_; rintro e w' ⟨rfl, hb⟩; obtain ⟨hc, hf⟩ := bcell hb; have hz := bl_sz hb; (try simp at hz); (try (have z0 : w.heap.size < w'.heap.size := (by omega); have y0 := Nat.le_of_lt z0)); (try (have z1 : w.heap.size + 1 < w'.heap.size := (by omega); have y1 := Nat.le_of_lt z1)); (try (have z2 : w.heap.size + 1 + 1 < w'.heap.size := (by omega); have y2 := Nat.le_of_lt z2)); (try (have z3 : w.heap.size + 1 + 1 + 1 < w'.heap.size := (by omega); have y3 := Nat.le_of_lt z3)); (try (have z4 : u1.heap.size < w'.heap.size := (by omega); have y4 := Nat.le_of_lt z4)); (try (have z5 : u1.heap.size + 1 < w'.heap.size := (by omega); have y5 := Nat.le_of_lt z5)); (try (have z6 : u2.heap.size < w'.heap.size := (by omega); have y6 := Nat.le_of_lt z6)); (try (have z7 : u2.heap.size + 1 < w'.heap.size := (by omega); have y7 := Nat.le_of_lt z7)); (try (have z8 : u3.heap.size < w'.heap.size := (by omega); have y8 := Nat.le_of_lt z8)); (try (have z9 : u3.heap.size + 1 < w'.heap.size := (by omega); have y9 := Nat.le_of_lt z9)); (try (have z10 : u4.heap.size < w'.heap.size := (by omega); have y10 := Nat.le_of_lt z10)); (try (have z11 : u4.heap.size + 1 < w'.heap.size := (by omega); have y11 := Nat.le_of_lt z11)); (try (have z12 : u5.heap.size < w'.heap.size := (by omega); have y12 := Nat.le_of_lt z12)); (try (have z13 : u5.heap.size + 1 < w'.heap.size := (by omega); have y13 := Nat.le_of_lt z13)); (try (have z14 : u6.heap.size < w'.heap.size := (by omega); have y14 := Nat.le_of_lt z14)); (try (have z15 : u6.heap.size + 1 < w'.heap.size := (by omega); have y15 := Nat.le_of_lt z15)); (first | (have _k := u7; clear _k; rename World => u8) | (have _k := u6; clear _k; rename World => u7) | (have _k := u5; clear _k; rename World => u6) | (have _k := u4; clear _k; rename World => u5) | (have _k := u3; clear _k; rename World => u4) | (have _k := u2; clear _k; rename World => u3) | (have _k := u1; clear _k; rename World => u2) | (rename World => u1))))
  go_ret
  refine ⟨rfl, ?_⟩
  repeat' (first | exact bl_refl _ | refine bl_alloc ?_ _ | refine bl_set ?_ ?_ _ | refine bl_drewN ?_ _ | refine bl_drew ?_ | refine bl_call (by assumption) ?_)
set_option maxRecDepth 100000 in
theorem lifted_FnExactFitGlue (os : Os) (started : os.Started) (H : Type) (enc : TypeId × Value → H) :
    ReturnsInHanded {} Try.checked os 11 .any (Rows.fnExactFitGlueSpec.pre6 enc Try.prog Try.f11 Rows.fnExactFitGlueRow.domain false) (Rows.fnExactFitGlueSpec.post enc Try.prog Try.f11 false true false false) := by
  refine returnsInHanded_of_change (C := Try.checked) own_knob started (by kernel_rfl) Try.func11
    (ChangeSpec.witness6 (enc := enc) (C := Try.checked) false ⟨#[], #[.agg #[.int .i64 0, .int .i64 0, .int .i64 0], .int .i64 0], []⟩ 8 (by kernel_rfl) (by kernel_rfl) (by kernel_rfl) (by kernel_rfl)) ?_
  intro W base args ds gs before hval0 hW hcnd _
  have hval : ∀ (j : Nat) t v, Try.f11.params[j]? = some t → args[j]? = some v → Value.okWide Try.prog W .any base t v := hval0
  have hW' := hW
  obtain ⟨p, q, hA0, hV, rfl, hfz, hnd⟩ := hW
  have hA : DataW.TrodAll enc Try.prog W 0 (fun _ => true) true Try.f11.params.toList args.toList ds p := hA0
  rw [Try.params11] at hA hval
  obtain ⟨v0, vs0, d0, ds0, p0, q0, hargs, rfl, rfl, zh0, r0⟩ := trodAll_cons hA
  obtain ⟨v1, vs1, d1, ds1, p1, q1, rfl, rfl, rfl, zh1, r1⟩ := trodAll_cons r0
  obtain ⟨rfl, rfl, rfl⟩ := trodAll_nil r1
  obtain rfl : args = #[v0, v1] := by cases args; simp_all
  obtain ⟨rfl, rfl⟩ := trodVars_none hV
  have zk0 := zh0
  have zl0 : ∀ x ∈ p0, x.block < W.heap.size := by obtain ⟨m, hm⟩ := zk0; exact DataW.trod_lt m _ _ _ hm
  have zk1 := zh1
  have zl1 : ∀ x ∈ p1, x.block < W.heap.size := by obtain ⟨m, hm⟩ := zk1; exact DataW.trod_lt m _ _ _ hm
  clear hA0 hval0
  obtain ⟨c_ga0, c_ga1, c_ga2, y_ga0, y_ga1, y_ga2, m0, rfl, rfl, rfl, t_ga0, t_ga1, t_ga2⟩ := Joins.open_agg3 Try.underlying38 (by kernel_rfl) (by kernel_rfl) (hval 0 38 v0 rfl rfl) zh0
  obtain ⟨ga0, e_ga0, _, w_ga0⟩ := DataW.trod_int Try.underlying3 t_ga0
  simp at e_ga0
  subst e_ga0
  obtain ⟨ga1, e_ga1, _, w_ga1⟩ := DataW.trod_int Try.underlying3 t_ga1
  simp at e_ga1
  subst e_ga1
  obtain ⟨ga2, e_ga2, _, w_ga2⟩ := DataW.trod_int Try.underlying3 t_ga2
  simp at e_ga2
  subst e_ga2
  obtain ⟨d, rfl, rfl, rfl, w_d⟩ := open_int Try.underlying3 (hval 1 3 v1 rfl rfl) zh1
  refine (walk_FnExactFitGlue ga0 ga1 ga2 d W  w_d).mono fun e W' ⟨he, bel⟩ => ?_
  subst he
  exact ⟨_, rfl, _, _, _, [], _, [], hW', trodAll_mk1 (shut_bool Try.underlying4 _), (trodAll_cons_mk (Below.trod laid_out (by kernel_rfl) (of_decide_eq_true (by kernel_rfl)) zk0 bel zl0) (trodAll_cons_mk (Below.trod laid_out (by kernel_rfl) (of_decide_eq_true (by kernel_rfl)) zk1 bel zl1) trodAll_mk0)), rfl, bel.frame _, fun h => by cases h⟩

/-- The statement. -/
theorem FnExactFitGlue_holds : Rows.FnExactFitGlueSaid :=
  OpenClaim.holds_of_wide 11 Try.f11 rfl rfl rfl rfl rfl rfl rfl ⟨rfl, rfl, rfl, rfl, rfl⟩ rfl rfl rfl rfl rfl (by kernel_rfl) Try.func11 (by kernel_rfl)
    (of_decide_eq_true (by kernel_rfl)) (by unfold Func.isWrapper; first | (rw [if_pos (by decide +kernel)]; kernel_rfl) | (rw [if_neg (by decide +kernel)]; exact ⟨rfl, rfl⟩))
    (fun os started H enc _ => lifted_FnExactFitGlue os started H enc)
end Go.Proofs.Ytboaegplogmlmaa
