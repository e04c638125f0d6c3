/- The exact law on FirstChange holds at every input: it answers as its model does and writes into no argument. No condition. -/
import Derived.Test.YtlkfpcajpdohiaaSa
import Derived.Test.YtlkfpcajpdohiaaFc
namespace Go.Proofs.Ytlkfpcajpdohiaa
open Go.ChangeShapes Go.WideShapes Go.ChangeAt Go.RowKit
set_option linter.unusedVariables false
open Classical

set_option maxHeartbeats 4000000 in
theorem walk_FnExactFirstChange (a : Option Addr) (n c : Nat) (L : List It) (a2 : Option Addr) (n2 c2 : Nat) (M : List It) (wd : Int) (w : World) (h : TL w a n L) (hm : n ≤ maxLen) (h2 : TL w a2 n2 M) (hm2 : n2 ≤ maxLen) (_ : (Lit.int .i64 wd).wf = true) :
    Calls Try.prog 3 #[.slice a n c, .slice a2 n2 c2, .int .i64 wd] w fun e w' => e = .returned (.bool true) ∧ Below w.heap.size w w' := by
  unfold maxLen at hm hm2
  obtain rfl : n = L.length := h.1
  obtain rfl : n2 = M.length := h2.1
  have HI := hide h
  have HJ := hide h2
  clear h h2
  have SZ := fun (u : World) => szItemS_l u a L.length c 1048576 (by omega) (by omega) (by omega)
  rcases (by omega : (1048576 : Int) - (L.length : Int) < 0 ∨ 0 ≤ (1048576 : Int) - (L.length : Int)) with q | q
  · rw [if_pos q] at SZ
    have HSZ := hide SZ
    clear SZ
    go_enter Try.func3, Try.ntmps3
    go_wp2_with fail
    (with_reducible refine (HSZ.out _).mono ?_)
    rintro e w' ⟨rfl, rfl⟩
    go_wp2
    go_ret
    exact ⟨rfl, bl_refl _⟩
  have q' : ¬ ((1048576 : Int) - (L.length : Int) < 0) := by omega
  rw [if_neg q'] at SZ
  have HSZ := hide SZ
  clear SZ
  have SZ := fun (u : World) => szItemS_l u a2 M.length c2 (1048576 - (L.length : Int)) (by omega) (by omega) (by omega)
  rcases (by omega : (1048576 : Int) - (L.length : Int) - (M.length : Int) < 0 ∨ 0 ≤ (1048576 : Int) - (L.length : Int) - (M.length : Int)) with q2 | q2
  · rw [if_pos q2] at SZ
    have HSZ2 := hide SZ
    clear SZ
    go_enter Try.func3, Try.ntmps3
    go_wp2_with fail
    (with_reducible refine (HSZ.out _).mono ?_)
    rintro e w' ⟨rfl, rfl⟩
    go_wp2_with fail
    (with_reducible refine (HSZ2.out _).mono ?_)
    rintro e w' ⟨rfl, rfl⟩
    go_wp2
    go_ret
    exact ⟨rfl, bl_refl _⟩
  have q2' : ¬ ((1048576 : Int) - (L.length : Int) - (M.length : Int) < 0) := by omega
  rw [if_neg q2'] at SZ
  have HSZ2 := hide SZ
  clear SZ
  have hn : L.length ≤ 1048576 := by omega
  have hn2 : M.length ≤ 1048576 := by omega
  have CS := hide (fun (u : World) (A B : Option Addr) (c d : Nat) (h1 : TL u A L.length L) (h2 : TL u B M.length M) => FirstChange_s u A B L.length M.length c d L M wd h1 (by omega) h2 (by omega))
  have CI := hide (fun (u : World) (A B : Option Addr) (c d : Nat) (h1 : TL u A L.length L) (h2 : TL u B M.length M) => FirstChange_i u A B L.length M.length c d L M wd h1 (by omega) h2 (by omega))
  obtain ⟨z, hz⟩ : ∃ z, z = fcO L M wd := ⟨_, rfl⟩
  rw [← hz] at CS CI
  clear hz
  go_enter Try.func3, Try.ntmps3
  go_wp2_with fail
  (with_reducible refine (HSZ.out _).mono ?_)
  rintro e w' ⟨rfl, rfl⟩
  go_wp2_with fail
  (with_reducible refine (HSZ2.out _).mono ?_)
  rintro e w' ⟨rfl, rfl⟩
  clear HSZ HSZ2
  go_wp2_with fail
  (with_reducible refine (toItemS_l _ _ _ _ L HI.out hn).mono ?_)
  rintro e u1 ⟨A1, c1, rfl, ho1, hb1⟩
  have B1 := hide hb1
  clear hb1
  go_wp2_with fail
  (with_reducible refine (toItemS_l _ _ _ _ M (HJ.out.below B1.out) hn2).mono ?_)
  rintro e u2 ⟨A2, d2, rfl, ho2, hb2⟩
  have B2 := hide (bl_call hb2 B1.out)
  go_wp2_with fail
  (with_reducible refine (CS.out _ _ _ _ _ (ho1.below hb2).reads ho2.reads).mono ?_)
  rintro e u3 ⟨rfl, hb3⟩
  have B3 := hide (bl_call hb3 B2.out)
  clear ho1 ho2 hb2 hb3
  go_wp2_with fail
  (with_reducible refine (toItemS_l _ _ _ _ L (HI.out.below B3.out) hn).mono ?_)
  rintro e u4 ⟨A4, c4, rfl, ho4, hb4⟩
  have B4 := hide (bl_call hb4 B3.out)
  clear hb4
  go_wp2_with fail
  (with_reducible refine (toItemS_l _ _ _ _ M (HJ.out.below B4.out) hn2).mono ?_)
  rintro e u5 ⟨A5, c5, rfl, ho5, hb5⟩
  have B5 := hide (bl_call hb5 B4.out)
  have ho4 := ho4.below hb5
  clear hb5
  go_wp2_with fail
  (with_reducible refine (CI.out _ _ _ _ _ ho4.reads ho5.reads).mono ?_)
  rintro e u6 ⟨rfl, hb6⟩
  have B6 := hide (bl_call hb6 B5.out)
  have H4 := hide (ho4.below hb6)
  have H5 := hide (ho5.below hb6)
  clear ho4 ho5 hb6
  go_wp2_with fail
  (with_reducible refine (toItemS_l _ _ _ _ L (HI.out.below B6.out) hn).mono ?_)
  rintro e u7 ⟨A7, c7, rfl, ho7, hb7⟩
  have B7 := hide (bl_call hb7 B6.out)
  have H5 := hide (H5.out.below hb7)
  go_wp2_with fail
  (with_reducible refine (eqItemS_l _ _ _ _ _ _ L (H4.out.below hb7).reads ho7.reads hn).mono ?_)
  rintro e u8 ⟨rfl, hb8⟩
  have B8 := hide (bl_call hb8 B7.out)
  have H5 := hide (H5.out.below hb8)
  clear ho7 hb7 hb8
  go_wp2_with fail
  (with_reducible refine (toItemS_l _ _ _ _ M (HJ.out.below B8.out) hn2).mono ?_)
  rintro e u9 ⟨A9, c9, rfl, ho9, hb9⟩
  go_wp2_with fail
  (with_reducible refine (eqItemS_l _ _ _ _ _ _ M (H5.out.below hb9).reads ho9.reads hn2).mono ?_)
  rintro e u10 ⟨rfl, hb10⟩
  go_wp2
  go_ret
  exact ⟨rfl, bl_call hb10 (bl_call hb9 B8.out)⟩
set_option maxRecDepth 100000 in
theorem lifted_FnExactFirstChange (os : Os) (started : os.Started) (H : Type) (enc : TypeId × Value → H) :
    ReturnsInHanded {} Try.checked os 3 .any (Rows.fnExactFirstChangeSpec.pre6 enc Try.prog Try.f3 Rows.fnExactFirstChangeRow.domain false) (Rows.fnExactFirstChangeSpec.post enc Try.prog Try.f3 false true false false) := by
  refine returnsInHanded_of_change (C := Try.checked) own_knob started (by kernel_rfl) Try.func3
    (ChangeSpec.witness6 (enc := enc) (C := Try.checked) false ⟨#[], #[.slice none 0 0, .slice none 0 0, .int .i64 0], []⟩ 8 (by kernel_rfl) (by kernel_rfl) (by kernel_rfl) (by kernel_rfl)) ?_
  intro W base args ds gs before hval0 hW hcnd _
  have hval : ∀ (j : Nat) t v, Try.f3.params[j]? = some t → args[j]? = some v → Value.okWide Try.prog W .any base t v := hval0
  have hW' := hW
  obtain ⟨p, q, hA0, hV, rfl, hfz, hnd⟩ := hW
  have hA : DataW.TrodAll enc Try.prog W 0 (fun _ => true) true Try.f3.params.toList args.toList ds p := hA0
  rw [Try.params3] at hA hval
  obtain ⟨v0, vs0, d0, ds0, p0, q0, hargs, rfl, rfl, zh0, r0⟩ := trodAll_cons hA
  obtain ⟨v1, vs1, d1, ds1, p1, q1, rfl, rfl, rfl, zh1, r1⟩ := trodAll_cons r0
  obtain ⟨v2, vs2, d2, ds2, p2, q2, rfl, rfl, rfl, zh2, r2⟩ := trodAll_cons r1
  obtain ⟨rfl, rfl, rfl⟩ := trodAll_nil r2
  obtain rfl : args = #[v0, v1, v2] := by cases args; simp_all
  obtain ⟨rfl, rfl⟩ := trodVars_none hV
  have zk0 := zh0
  have zl0 : ∀ x ∈ p0, x.block < W.heap.size := by obtain ⟨m, hm⟩ := zk0; exact DataW.trod_lt m _ _ _ hm
  have zk1 := zh1
  have zl1 : ∀ x ∈ p1, x.block < W.heap.size := by obtain ⟨m, hm⟩ := zk1; exact DataW.trod_lt m _ _ _ hm
  have zk2 := zh2
  have zl2 : ∀ x ∈ p2, x.block < W.heap.size := by obtain ⟨m, hm⟩ := zk2; exact DataW.trod_lt m _ _ _ hm
  clear hA0 hval0
  obtain ⟨a_s, n_s, c_s, rfl⟩ := okWide_slice Try.underlying22 (hval 0 22 v0 rfl rfl)
  obtain ⟨L_s, t_s, m_s, _⟩ := items_in Try.underlying22 (by kernel_rfl) (by kernel_rfl) zh0
  obtain ⟨a_t, n_t, c_t, rfl⟩ := okWide_slice Try.underlying22 (hval 1 22 v1 rfl rfl)
  obtain ⟨L_t, t_t, m_t, _⟩ := items_in Try.underlying22 (by kernel_rfl) (by kernel_rfl) zh1
  obtain ⟨d, rfl, rfl, rfl, w_d⟩ := open_int Try.underlying3 (hval 2 3 v2 rfl rfl) zh2
  refine (walk_FnExactFirstChange a_s n_s c_s L_s a_t n_t c_t L_t d W t_s m_s t_t m_t w_d).mono fun e W' ⟨he, bel⟩ => ?_
  subst he
  exact ⟨_, rfl, _, _, _, [], _, [], hW', trodAll_mk1 (shut_bool Try.underlying4 _), (trodAll_cons_mk (Below.trod laid_out (by kernel_rfl) (of_decide_eq_true (by kernel_rfl)) zk0 bel zl0) (trodAll_cons_mk (Below.trod laid_out (by kernel_rfl) (of_decide_eq_true (by kernel_rfl)) zk1 bel zl1) (trodAll_cons_mk (Below.trod laid_out (by kernel_rfl) (of_decide_eq_true (by kernel_rfl)) zk2 bel zl2) trodAll_mk0))), rfl, bel.frame _, fun h => by cases h⟩

/-- The statement. -/
theorem FnExactFirstChange_holds : Rows.FnExactFirstChangeSaid :=
  OpenClaim.holds_of_wide 3 Try.f3 rfl rfl rfl rfl rfl rfl rfl ⟨rfl, rfl, rfl, rfl, rfl⟩ rfl rfl rfl rfl rfl (by kernel_rfl) Try.func3 (by unfold joinedFacts; rw [may_enter, lifts_final, make_cut]; kernel_rfl)
    (of_decide_eq_true (by kernel_rfl)) (by unfold Func.isWrapper; first | (rw [if_pos (by decide +kernel)]; kernel_rfl) | (rw [if_neg (by decide +kernel)]; exact ⟨rfl, rfl⟩))
    (fun os started H enc _ => lifted_FnExactFirstChange os started H enc)
end Go.Proofs.Ytlkfpcajpdohiaa
