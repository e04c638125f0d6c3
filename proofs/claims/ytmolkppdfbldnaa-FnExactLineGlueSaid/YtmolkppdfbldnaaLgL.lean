/- The exact law on LineGlue holds at every input: it answers as its model does and writes into no argument. No condition. -/
import Derived.Test.YtmolkppdfbldnaaJn
import Derived.Test.YtmolkppdfbldnaaBxS
namespace Go.Proofs.Ytmolkppdfbldnaa
open Go.ChangeShapes Go.WideShapes Go.ChangeAt Go.RowKit
set_option linter.unusedVariables false

theorem lgO_form (L : List It) (a b : Int) : ∃ x y z t, lgO L a b = .tuple #[gv x y z, .bool t] := by
  cases h : okL L a b
  · exact ⟨0, 0, 0, false, lgO_no h⟩
  · exact ⟨lgW L a b, lgT L a b, lgS L a b, true, by simp [lgO, h]⟩
set_option maxHeartbeats 2000000 in
theorem walk_FnExactLineGlue (a : Option Addr) (n c : Nat) (L : List It) (a0 b0 : Int) (w : World) (h : TL w a n L) (hm : n ≤ maxLen) (wa : (Lit.int .i64 a0).wf = true) (wb : (Lit.int .i64 b0).wf = true) :
    Calls Try.prog 4 #[.slice a n c, .int .i64 a0, .int .i64 b0] w fun e w' => e = .returned (.bool true) ∧ Below w.heap.size w w' := by
  have wa' : -9223372036854775808 ≤ a0 ∧ a0 ≤ 9223372036854775807 := wf_bd wa
  have wb' : -9223372036854775808 ≤ b0 ∧ b0 ≤ 9223372036854775807 := wf_bd wb
  clear wa wb
  unfold maxLen at hm
  have hnl : n = L.length := h.1
  have HI := hide h
  clear h
  rcases (by omega : (1048576 : Int) - (n : Int) < 0 ∨ 0 ≤ (1048576 : Int) - (n : Int)) with q | q
  · clear hnl wa' wb'
    have SZ := fun (u : World) => szItemS_l u a n c 1048576 (by omega) (by omega) (by omega)
    rw [if_pos q] at SZ
    have HSZ := hide SZ
    clear SZ
    go_enter Try.func4, Try.ntmps4
    go_wp2_with fail
    (with_reducible refine (HSZ.out _).mono ?_)
    rintro e w' ⟨rfl, rfl⟩
    go_wp2
    go_ret
    exact ⟨rfl, bl_refl _⟩
  have hn : n ≤ 1048576 := by omega
  have hll : L.length ≤ 1048576 := by omega
  have q' : ¬ ((1048576 : Int) - (n : Int) < 0) := by omega
  clear hnl
  have SZ := fun (u : World) => szItemS_l u a n c 1048576 (by omega) (by omega) (by omega)
  rw [if_neg q'] at SZ
  have HSZ := hide SZ
  clear SZ
  have CS := fun (u : World) (A : Option Addr) (d : Nat) (h : TL u A L.length L) => LineGlue_s u A L.length d L h (by omega) a0 b0 wa' wb'
  have CI := fun (u : World) (A : Option Addr) (d : Nat) (h : TL u A L.length L) => LineGlue_i u A L.length d L h (by omega) a0 b0 wa' wb'
  obtain ⟨x, y, z, t, hR⟩ := lgO_form L a0 b0
  rw [hR] at CS CI
  have HCS := hide CS
  have HCI := hide CI
  clear CS CI hR wa' wb'
  go_enter Try.func4, Try.ntmps4
  go_wp2_with fail
  (with_reducible refine (HSZ.out _).mono ?_)
  rintro e w' ⟨rfl, rfl⟩
  go_wp2_with fail
  (with_reducible refine (toItemS_l _ _ _ _ L HI.out hn).mono ?_)
  rintro e u1 ⟨A1, c1, rfl, ho1, hb1⟩
  go_wp2_with fail
  (with_reducible refine (HCS.out _ _ _ ho1.reads).mono ?_)
  rintro e u2 ⟨rfl, hb2⟩
  have HB2 := hide (bl_alloc (bl_call hb2 hb1) (.cells #[.int .i64 x, .int .i64 y, .int .i64 z] 34))
  have m0 : (u2.alloc (.cells #[.int .i64 x, .int .i64 y, .int .i64 z] 34)).cell? ⟨u2.heap.size, 0, none⟩ = some (.int .i64 x) := by simp [go_sem]
  have m1 : (u2.alloc (.cells #[.int .i64 x, .int .i64 y, .int .i64 z] 34)).cell? ⟨u2.heap.size, 1, none⟩ = some (.int .i64 y) := by simp [go_sem]
  have m2 : (u2.alloc (.cells #[.int .i64 x, .int .i64 y, .int .i64 z] 34)).cell? ⟨u2.heap.size, 2, none⟩ = some (.int .i64 z) := by simp [go_sem]
  clear ho1 hb1 hb2
  go_wp2_with fail
  (with_reducible refine (toItemS_l _ _ _ _ L (HI.out.below HB2.out) hn).mono ?_)
  rintro e u3 ⟨A3, c3, rfl, ho3, hb3⟩
  have m0 := keep_cell hb3 m0
  have m1 := keep_cell hb3 m1
  have m2 := keep_cell hb3 m2
  have HB3 := hide (bl_call hb3 HB2.out)
  clear hb3
  go_wp2_with fail
  (with_reducible refine (HCI.out _ _ _ ho3.reads).mono ?_)
  rintro e u4 ⟨rfl, hb4⟩
  have m0 := keep_alloc (keep_cell hb4 m0) (.cells #[.int .i64 x, .int .i64 y, .int .i64 z] 34)
  have m1 := keep_alloc (keep_cell hb4 m1) (.cells #[.int .i64 x, .int .i64 y, .int .i64 z] 34)
  have m2 := keep_alloc (keep_cell hb4 m2) (.cells #[.int .i64 x, .int .i64 y, .int .i64 z] 34)
  have n0 : (u4.alloc (.cells #[.int .i64 x, .int .i64 y, .int .i64 z] 34)).cell? ⟨u4.heap.size, 0, none⟩ = some (.int .i64 x) := by simp [go_sem]
  have n1 : (u4.alloc (.cells #[.int .i64 x, .int .i64 y, .int .i64 z] 34)).cell? ⟨u4.heap.size, 1, none⟩ = some (.int .i64 y) := by simp [go_sem]
  have n2 : (u4.alloc (.cells #[.int .i64 x, .int .i64 y, .int .i64 z] 34)).cell? ⟨u4.heap.size, 2, none⟩ = some (.int .i64 z) := by simp [go_sem]
  have HB4 := hide (bl_alloc (bl_call hb4 HB3.out) (.cells #[.int .i64 x, .int .i64 y, .int .i64 z] 34))
  have ho3 := (ho3.below hb4).below (bl_alloc (bl_refl u4) (.cells #[.int .i64 x, .int .i64 y, .int .i64 z] 34))
  clear hb4
  go_wp2_with fail
  (with_reducible refine (eqGlue_h _ _ _ _).mono ?_)
  rintro e u5 ⟨rfl, hb5⟩
  have HB5 := hide (bl_call hb5 HB4.out)
  have ho3 := ho3.below hb5
  clear hb5 m0 m1 m2 n0 n1 n2
  go_wp2_with fail
  (with_reducible refine (toItemS_l _ _ _ _ L (HI.out.below HB5.out) hn).mono ?_)
  rintro e u6 ⟨A6, c6, rfl, ho6, hb6⟩
  have ho3 := ho3.below hb6
  go_wp2_with fail
  (with_reducible refine (eqItemS_l _ _ _ _ _ _ L ho3.reads ho6.reads hll).mono ?_)
  rintro e u7 ⟨rfl, hb7⟩
  go_wp2
  go_ret
  exact ⟨rfl, bl_call hb7 (bl_call hb6 HB5.out)⟩
set_option maxRecDepth 100000 in
theorem lifted_FnExactLineGlue (os : Os) (started : os.Started) (H : Type) (enc : TypeId × Value → H) :
    ReturnsInHanded {} Try.checked os 4 .any (Rows.fnExactLineGlueSpec.pre6 enc Try.prog Try.f4 Rows.fnExactLineGlueRow.domain false) (Rows.fnExactLineGlueSpec.post enc Try.prog Try.f4 false true false false) := by
  refine returnsInHanded_of_change (C := Try.checked) own_knob started (by kernel_rfl) Try.func4
    (ChangeSpec.witness6 (enc := enc) (C := Try.checked) false ⟨#[], #[.slice none 0 0, .int .i64 0, .int .i64 0], []⟩ 8 (by kernel_rfl) (by kernel_rfl) (by kernel_rfl) (by kernel_rfl)) ?_
  intro W base args ds gs before hval0 hW hcnd _
  have hval : ∀ (j : Nat) t v, Try.f4.params[j]? = some t → args[j]? = some v → Value.okWide Try.prog W .any base t v := hval0
  have hW' := hW
  obtain ⟨p, q, hA0, hV, rfl, hfz, hnd⟩ := hW
  have hA : DataW.TrodAll enc Try.prog W 0 (fun _ => true) true Try.f4.params.toList args.toList ds p := hA0
  rw [Try.params4] at hA hval
  obtain ⟨v0, vs0, d0, ds0, p0, q0, hargs, rfl, rfl, zh0, r0⟩ := trodAll_cons hA
  obtain ⟨v1, vs1, d1, ds1, p1, q1, rfl, rfl, rfl, zh1, r1⟩ := trodAll_cons r0
  obtain ⟨v2, vs2, d2, ds2, p2, q2, rfl, rfl, rfl, zh2, r2⟩ := trodAll_cons r1
  obtain ⟨rfl, rfl, rfl⟩ := trodAll_nil r2
  obtain rfl : args = #[v0, v1, v2] := by cases args; simp_all
  obtain ⟨rfl, rfl⟩ := trodVars_none hV
  have zk0 := zh0
  have zl0 : ∀ x ∈ p0, x.block < W.heap.size := by obtain ⟨m, hm⟩ := zk0; exact DataW.trod_lt m _ _ _ hm
  have zk1 := zh1
  have zl1 : ∀ x ∈ p1, x.block < W.heap.size := by obtain ⟨m, hm⟩ := zk1; exact DataW.trod_lt m _ _ _ hm
  have zk2 := zh2
  have zl2 : ∀ x ∈ p2, x.block < W.heap.size := by obtain ⟨m, hm⟩ := zk2; exact DataW.trod_lt m _ _ _ hm
  clear hA0 hval0
  obtain ⟨a_a, n_a, c_a, rfl⟩ := okWide_slice Try.underlying22 (hval 0 22 v0 rfl rfl)
  obtain ⟨L_a, t_a, m_a, _⟩ := items_in Try.underlying22 (by kernel_rfl) (by kernel_rfl) zh0
  obtain ⟨x, rfl, rfl, rfl, w_x⟩ := open_int Try.underlying3 (hval 1 3 v1 rfl rfl) zh1
  obtain ⟨y, rfl, rfl, rfl, w_y⟩ := open_int Try.underlying3 (hval 2 3 v2 rfl rfl) zh2
  refine (walk_FnExactLineGlue a_a n_a c_a L_a x y W t_a m_a w_x w_y).mono fun e W' ⟨he, bel⟩ => ?_
  subst he
  exact ⟨_, rfl, _, _, _, [], _, [], hW', trodAll_mk1 (shut_bool Try.underlying4 _), (trodAll_cons_mk (Below.trod laid_out (by kernel_rfl) (of_decide_eq_true (by kernel_rfl)) zk0 bel zl0) (trodAll_cons_mk (Below.trod laid_out (by kernel_rfl) (of_decide_eq_true (by kernel_rfl)) zk1 bel zl1) (trodAll_cons_mk (Below.trod laid_out (by kernel_rfl) (of_decide_eq_true (by kernel_rfl)) zk2 bel zl2) trodAll_mk0))), rfl, bel.frame _, fun h => by cases h⟩

/-- The statement. -/
theorem FnExactLineGlue_holds : Rows.FnExactLineGlueSaid :=
  OpenClaim.holds_of_wide 4 Try.f4 rfl rfl rfl rfl rfl rfl rfl ⟨rfl, rfl, rfl, rfl, rfl⟩ rfl rfl rfl rfl rfl (by kernel_rfl) Try.func4 (by unfold joinedFacts; rw [may_enter, lifts_final, make_cut]; kernel_rfl)
    (of_decide_eq_true (by kernel_rfl)) (by unfold Func.isWrapper; first | (rw [if_pos (by decide +kernel)]; kernel_rfl) | (rw [if_neg (by decide +kernel)]; exact ⟨rfl, rfl⟩))
    (fun os started H enc _ => lifted_FnExactLineGlue os started H enc)
end Go.Proofs.Ytmolkppdfbldnaa
