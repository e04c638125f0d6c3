/- The exact law on HangShape holds at every input: it answers as its model does, and what it returns is its own. No condition. -/
import Derived.Test.YtfcoheakecfolaaHang
namespace Go.Proofs.Ytfcoheakecfolaa
open Go.ChangeShapes Go.WideShapes Go.ChangeAt Go.RowKit
set_option linter.unusedVariables false

theorem own_upto {l : List Int} (z : Int) : (upto z l.length).length = l.length := upto_len _ _
theorem OL.of_len {w : World} {e : TypeId} {B : Nat} {A : Option Addr} {c n : Nat} {l : List Int} (h : OL w e B A c l) (hn : n = l.length) : w.ownsRow B e 1 (.slice A n c) n (l.map (Value.int .i64)) := by subst hn; exact h
/-- What was marked reads as it was marked; what lies elsewhere is as it was. -/
theorem hangOk_len (wd d f c : Int) : (hangA wd d f c).length ≤ 23 := by
  unfold hangA
  split
  · rename_i h
    have := hangOk_iff.1 h
    rw [hangL_len]; omega
  · simp

theorem walk_FnExactHangShape (wd d f c : Int) (w : World) (h1 : (Lit.int .i64 wd).wf = true) (h2 : (Lit.int .i64 d).wf = true) (h3 : (Lit.int .i64 f).wf = true) (h4 : (Lit.int .i64 c).wf = true) :
    Calls Try.prog 8 #[.int .i64 wd, .int .i64 d, .int .i64 f, .int .i64 c] w fun e w' => e = .returned (.bool true) ∧ Below w.heap.size w w' := by
  clear h1 h2 h3 h4
  obtain ⟨L, hL⟩ : ∃ L, L = hangA wd d f c := ⟨_, rfl⟩
  obtain ⟨ok, hok⟩ : ∃ ok, ok = hangOk wd d f c := ⟨_, rfl⟩
  have hlen : L.length ≤ 23 := by rw [hL]; exact hangOk_len _ _ _ _
  have CS := fun (u : World) => HangShape_s wd d f c u
  have CI := fun (u : World) => HangShape_i wd d f c u
  rw [← hL, ← hok] at CS CI
  have HCS := hide CS
  have HCI := hide CI
  clear CS CI hL hok
  go_enter Try.func8, Try.ntmps8
  go_wp2_with fail
  refine (HCS.out _).mono ?_
  rintro e u1 ⟨A1, c1, rfl, ho1, hb1⟩
  go_wp2_with fail
  refine (HCI.out _).mono ?_
  rintro e u2 ⟨A2, c2, rfl, ho2, hb2⟩
  have W1 := hide (OL.apart ho1 ho2)
  have ho1 := ho1.below hb2
  go_wp2_with fail
  refine (eqIntS_l _ _ _ _ _ _ _ _ _ ho2.reads ho1.reads (by omega) (by omega)).mono ?_
  rintro e u5 ⟨rfl, j, rfl⟩
  simp only [decide_true]
  go_wp2_with fail
  refine (markIntS_l _ _ _ _ _ L 1 (ho2.drewN _) (by omega) (by omega) (by omega)).mono ?_
  rintro e u6 ⟨rfl, ho6, hg6⟩
  have ho1 := (ho1.drewN j).kept hg6 W1.out
  have hb6 : Below u1.heap.size u1 u6 := marked ho2 hb2 hg6
  have hr6 := ho6.reads
  rw [upto_len] at hr6
  go_wp2_with fail
  refine (heldIntS_l _ _ _ _ 1 hr6 (by omega) (by omega) (by omega)).mono ?_
  rintro e w' ⟨rfl, rfl⟩
  go_wp2_with fail
  refine (HCI.out _).mono ?_
  rintro e u7 ⟨A3, c3, rfl, ho3, hb7⟩
  have ho1 := ho1.below hb7
  go_wp2_with fail
  refine (eqIntS_l _ _ _ _ _ _ _ _ _ ho3.reads ho1.reads (by omega) (by omega)).mono ?_
  rintro e u8 ⟨rfl, j2, rfl⟩
  simp only [decide_true]
  have hr8 := (hr6.below hb7).drewN j2
  go_wp2_with fail
  refine (heldIntS_l _ _ _ _ 1 hr8 (by omega) (by omega) (by omega)).mono ?_
  rintro e w' ⟨rfl, rfl⟩
  go_wp2
  go_ret
  refine ⟨rfl, ?_⟩
  repeat' (first | with_reducible exact bl_refl _ | with_reducible assumption | with_reducible refine bl_alloc ?_ _ | with_reducible refine bl_set ?_ ?_ _ | with_reducible refine bl_drewN ?_ _ | with_reducible refine bl_drew ?_ | with_reducible refine bl_call (by assumption) ?_)
set_option maxRecDepth 100000 in
theorem lifted_FnExactHangShape (os : Os) (started : os.Started) (H : Type) (enc : TypeId × Value → H) :
    ReturnsInHanded {} Try.checked os 8 .any (Rows.fnExactHangShapeSpec.pre6 enc Try.prog Try.f8 Rows.fnExactHangShapeRow.domain false) (Rows.fnExactHangShapeSpec.post enc Try.prog Try.f8 false true false false) := by
  refine returnsInHanded_of_change (C := Try.checked) own_knob started (by kernel_rfl) Try.func8
    (ChangeSpec.witness6 (enc := enc) (C := Try.checked) false ⟨#[], #[.int .i64 0, .int .i64 0, .int .i64 0, .int .i64 0], []⟩ 8 (by kernel_rfl) (by kernel_rfl) (by kernel_rfl) (by kernel_rfl)) ?_
  intro W base args ds gs before hval0 hW hcnd _
  have hval : ∀ (j : Nat) t v, Try.f8.params[j]? = some t → args[j]? = some v → Value.okWide Try.prog W .any base t v := hval0
  have hW' := hW
  obtain ⟨p, q, hA0, hV, rfl, hfz, hnd⟩ := hW
  have hA : DataW.TrodAll enc Try.prog W 0 (fun _ => true) true Try.f8.params.toList args.toList ds p := hA0
  rw [Try.params8] at hA hval
  obtain ⟨v0, vs0, d0, ds0, p0, q0, hargs, rfl, rfl, zh0, r0⟩ := trodAll_cons hA
  obtain ⟨v1, vs1, d1, ds1, p1, q1, rfl, rfl, rfl, zh1, r1⟩ := trodAll_cons r0
  obtain ⟨v2, vs2, d2, ds2, p2, q2, rfl, rfl, rfl, zh2, r2⟩ := trodAll_cons r1
  obtain ⟨v3, vs3, d3, ds3, p3, q3, rfl, rfl, rfl, zh3, r3⟩ := trodAll_cons r2
  obtain ⟨rfl, rfl, rfl⟩ := trodAll_nil r3
  obtain rfl : args = #[v0, v1, v2, v3] := by cases args; simp_all
  obtain ⟨rfl, rfl⟩ := trodVars_none hV
  have zk0 := zh0
  have zl0 : ∀ x ∈ p0, x.block < W.heap.size := by obtain ⟨m, hm⟩ := zk0; exact DataW.trod_lt m _ _ _ hm
  have zk1 := zh1
  have zl1 : ∀ x ∈ p1, x.block < W.heap.size := by obtain ⟨m, hm⟩ := zk1; exact DataW.trod_lt m _ _ _ hm
  have zk2 := zh2
  have zl2 : ∀ x ∈ p2, x.block < W.heap.size := by obtain ⟨m, hm⟩ := zk2; exact DataW.trod_lt m _ _ _ hm
  have zk3 := zh3
  have zl3 : ∀ x ∈ p3, x.block < W.heap.size := by obtain ⟨m, hm⟩ := zk3; exact DataW.trod_lt m _ _ _ hm
  clear hA0 hval0
  obtain ⟨a, rfl, rfl, rfl, w_a⟩ := open_int Try.underlying3 (hval 0 3 v0 rfl rfl) zh0
  obtain ⟨b, rfl, rfl, rfl, w_b⟩ := open_int Try.underlying3 (hval 1 3 v1 rfl rfl) zh1
  obtain ⟨c, rfl, rfl, rfl, w_c⟩ := open_int Try.underlying3 (hval 2 3 v2 rfl rfl) zh2
  obtain ⟨d, rfl, rfl, rfl, w_d⟩ := open_int Try.underlying3 (hval 3 3 v3 rfl rfl) zh3
  refine (walk_FnExactHangShape a b c d W w_a w_b w_c w_d).mono fun e W' ⟨he, bel⟩ => ?_
  subst he
  exact ⟨_, rfl, _, _, _, [], _, [], hW', trodAll_mk1 (shut_bool Try.underlying4 _), (trodAll_cons_mk (Below.trod laid_out (by kernel_rfl) (of_decide_eq_true (by kernel_rfl)) zk0 bel zl0) (trodAll_cons_mk (Below.trod laid_out (by kernel_rfl) (of_decide_eq_true (by kernel_rfl)) zk1 bel zl1) (trodAll_cons_mk (Below.trod laid_out (by kernel_rfl) (of_decide_eq_true (by kernel_rfl)) zk2 bel zl2) (trodAll_cons_mk (Below.trod laid_out (by kernel_rfl) (of_decide_eq_true (by kernel_rfl)) zk3 bel zl3) trodAll_mk0)))), rfl, bel.frame _, fun h => by cases h⟩

/-- The statement. -/
theorem FnExactHangShape_holds : Rows.FnExactHangShapeSaid :=
  OpenClaim.holds_of_wide 8 Try.f8 rfl rfl rfl rfl rfl rfl rfl ⟨rfl, rfl, rfl, rfl, rfl⟩ rfl rfl rfl rfl rfl (by kernel_rfl) Try.func8 (by kernel_rfl)
    (of_decide_eq_true (by kernel_rfl)) (by unfold Func.isWrapper; first | (rw [if_pos (by decide +kernel)]; kernel_rfl) | (rw [if_neg (by decide +kernel)]; exact ⟨rfl, rfl⟩))
    (fun os started H enc _ => lifted_FnExactHangShape os started H enc)
end Go.Proofs.Ytfcoheakecfolaa
