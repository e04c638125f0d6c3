/- The exact law on CheckShape holds at every input: it answers as its model does and writes into no argument. No condition. -/
import Derived.Test.YtmncdpiojhgcdaaSa
import Derived.Test.YtmncdpiojhgcdaaCsS
namespace Go.Proofs.Ytmncdpiojhgcdaa
open Go.ChangeShapes Go.WideShapes Go.ChangeAt Go.RowKit
set_option linter.unusedVariables false
open Classical

theorem row_lenS {w : World} {a : Option Addr} {n c : Nat} {zs : List Int} (hr : IsRow .i64 w a n c zs) : n ≤ maxLen := by
  rcases hr with ⟨_, rfl, _, _⟩ | ⟨_, _, hl, hm, _⟩
  · exact Nat.zero_le _
  · omega
theorem row_wfS {w : World} {a : Option Addr} {n c : Nat} {zs : List Int} (hr : IsRow .i64 w a n c zs) : okW (zs.take n) := by
  intro k hk
  have hm : ng (zs.take n) k ∈ zs := List.mem_of_mem_take (ng_mem hk)
  rcases hr with ⟨_, _, _, rfl⟩ | ⟨_, _, _, _, _, _, hw⟩
  · simp at hm
  · exact wf_bd (hw _ hm)
set_option maxHeartbeats 4000000 in
theorem walk_FnExactCheckShape (a : Option Addr) (n c : Nat) (l : List It) (a1 : Option Addr) (n1 c1' : Nat) (ys : List Int) (tt : Int) (a2 : Option Addr) (n2 c2 : Nat) (zs : List Int) (w : World) (h : TL w a n l) (hm : n ≤ maxLen) (hr1 : IsRow .i64 w a1 n1 c1' ys) (wf2 : (Lit.int .i64 tt).wf = true) (hr2 : IsRow .i64 w a2 n2 c2 zs) :
    Calls Try.prog 7 #[.slice a n c, .slice a1 n1 c1', .int .i64 tt, .slice a2 n2 c2] w fun e w' => e = .returned (.bool true) ∧ Below w.heap.size w w' := by
  have hx := IL.of_row hr1
  have hy := IL.of_row hr2
  have hwf := row_wfS hr2
  obtain ⟨S, hS⟩ : ∃ E, E = ys.take n1 := ⟨_, rfl⟩
  obtain ⟨E, hE⟩ : ∃ E, E = zs.take n2 := ⟨_, rfl⟩
  rw [← hS] at hx
  rw [← hE] at hy hwf
  have HWF := hide hwf
  have hn1 : n1 ≤ maxLen := row_lenS hr1
  have hn2 : n2 ≤ maxLen := row_lenS hr2
  have HNL := hide h.1
  have HI := hide h
  unfold maxLen at hm hn2 hn1
  clear h wf2 hr2 hr1 hS hE hwf
  rcases (by omega : 1048576 < n1 ∨ n1 ≤ 1048576) with hb1 | hb1
  · go_enter Try.func7, Try.ntmps7
    go_wp2
    go_ret
    exact ⟨rfl, bl_refl _⟩
  rcases (by omega : 1048576 < n2 ∨ n2 ≤ 1048576) with hb2 | hb2
  · go_enter Try.func7, Try.ntmps7
    go_wp2
    go_ret
    exact ⟨rfl, bl_refl _⟩
  have HX := hide hx
  have HY := hide hy
  have HNS := hide (show S.length ≤ 1048576 by have := hx.1; omega)
  have HNE := hide (show E.length ≤ 1048576 by have := hy.1; omega)
  clear hy hx
  rcases (by omega : (1048576 : Int) - (n : Int) < 0 ∨ 0 ≤ (1048576 : Int) - (n : Int)) with q | q
  · have SZ := fun (u : World) => szItemS_l u a n c 1048576 (by omega) (by omega) (by omega)
    rw [if_pos q] at SZ
    have HSZ := hide SZ
    clear SZ
    go_enter Try.func7, Try.ntmps7
    go_wp2_with fail
    (with_reducible refine (HSZ.out _).mono ?_)
    rintro e w' ⟨rfl, rfl⟩
    go_wp2
    go_ret
    exact ⟨rfl, bl_refl _⟩
  have hn : n ≤ 1048576 := by omega
  have hll := hide (show l.length ≤ 1048576 by rw [← HNL.out]; exact hn)
  have q' : ¬ ((1048576 : Int) - (n : Int) < 0) := by omega
  have SZ := fun (u : World) => szItemS_l u a n c 1048576 (by omega) (by omega) (by omega)
  rw [if_neg q'] at SZ
  have HSZ := hide SZ
  clear SZ
  have CS := hide (fun (u : World) (A B D : Option Addr) (c d f : Nat) (h : TL u A l.length l) (h1 : IL u D S.length S) (h2 : IL u B E.length E) => CheckShape_s u A B D l.length c E.length d S.length f l E S tt h hll.out h1 HNS.out h2 HNE.out HWF.out)
  have CI := hide (fun (u : World) (A B D : Option Addr) (c d f : Nat) (h : TL u A l.length l) (h1 : IL u D S.length S) (h2 : IL u B E.length E) => CheckShape_i u A B D l.length c E.length d S.length f l E S tt h hll.out h1 HNS.out h2 HNE.out HWF.out)
  obtain ⟨t, ht⟩ : ∃ t, t = csO l S tt E := ⟨_, rfl⟩
  rw [← ht] at CS CI
  clear ht
  obtain ⟨t1, t2⟩ := t
  go_enter Try.func7, Try.ntmps7
  go_wp2_with fail
  (with_reducible refine (HSZ.out _).mono ?_)
  rintro e w' ⟨rfl, rfl⟩
  go_wp2_with fail
  (with_reducible refine (toItemS_l _ _ _ _ l HI.out hn).mono ?_)
  rintro e u1 ⟨A1, c1, rfl, ho1, hb1'⟩
  have B1 := hide hb1'
  clear hb1'
  go_wp2_with fail
  (with_reducible refine (toIntS_l _ _ _ _ _ (HX.out.below B1.out) hb1).mono ?_)
  rintro e ua ⟨Aa, da, rfl, hoa, hba⟩
  have Ba := hide (bl_call hba B1.out)
  have ho1 := TO.below ho1 hba
  clear hba
  go_wp2_with fail
  (with_reducible refine (toIntS_l _ _ _ _ _ (HY.out.below Ba.out) hb2).mono ?_)
  rintro e u2 ⟨A2, d2, rfl, ho2, hb2'⟩
  have B2 := hide (bl_call hb2' Ba.out)
  go_wp2_with fail
  (with_reducible refine (CS.out _ _ _ _ _ _ _ (TO.below ho1 hb2').reads (hoa.below hb2').reads ho2.reads).mono ?_)
  rintro e u9 ⟨rfl, hb9⟩
  have B3 := hide (bl_call hb9 B2.out)
  clear ho1 ho2 hoa hb2' hb9
  go_wp2_with fail
  (with_reducible refine (toItemS_l _ _ _ _ l (HI.out.below B3.out) hn).mono ?_)
  rintro e u3 ⟨A3, c3, rfl, ho3, hb3⟩
  have B4 := hide (bl_call hb3 B3.out)
  clear hb3
  go_wp2_with fail
  (with_reducible refine (toIntS_l _ _ _ _ _ (HX.out.below B4.out) hb1).mono ?_)
  rintro e uc ⟨Ac, dc, rfl, hoc, hbc⟩
  have Bc := hide (bl_call hbc B4.out)
  have ho3 := TO.below ho3 hbc
  clear hbc
  go_wp2_with fail
  (with_reducible refine (toIntS_l _ _ _ _ _ (HY.out.below Bc.out) hb2).mono ?_)
  rintro e u4 ⟨A4, d4, rfl, ho4, hb4⟩
  have B5 := hide (bl_call hb4 Bc.out)
  have ho3 := TO.below ho3 hb4
  have hoc := hoc.below hb4
  clear hb4
  go_wp2_with fail
  (with_reducible refine (CI.out _ _ _ _ _ _ _ ho3.reads hoc.reads ho4.reads).mono ?_)
  rintro e u5 ⟨rfl, hb5⟩
  have B6 := hide (bl_call hb5 B5.out)
  have H3 := hide (TO.below ho3 hb5)
  have HC := hide (hoc.below hb5)
  have H4 := hide (ho4.below hb5)
  clear ho3 hoc ho4 hb5
  go_wp2_with fail
  (with_reducible refine (toItemS_l _ _ _ _ l (HI.out.below B6.out) hn).mono ?_)
  rintro e u6 ⟨A6, c6, rfl, ho6, hb6⟩
  have B7 := hide (bl_call hb6 B6.out)
  have HC := hide (HC.out.below hb6)
  have H4 := hide (H4.out.below hb6)
  go_wp2_with fail
  (with_reducible refine (eqItemS_l _ _ _ _ _ _ l (TO.below H3.out hb6).reads ho6.reads hll.out).mono ?_)
  rintro e u7 ⟨rfl, hb7⟩
  have B8 := hide (bl_call hb7 B7.out)
  have HC := hide (HC.out.below hb7)
  have H4 := hide (H4.out.below hb7)
  clear hb6 ho6 hb7
  go_wp2_with fail
  (with_reducible refine (toIntS_l _ _ _ _ _ (HX.out.below B8.out) hb1).mono ?_)
  rintro e ud ⟨Ad, dd, rfl, hod, hbd⟩
  have Bd := hide (bl_call hbd B8.out)
  have H4 := hide (H4.out.below hbd)
  go_wp2_with fail
  (with_reducible refine (eqIntS_l _ _ _ _ _ _ _ _ _ (HC.out.below hbd).reads hod.reads (by have := HNS.out; omega) (by have := HNS.out; omega)).mono ?_)
  rintro e uf ⟨rfl, jf, rfl⟩
  simp only [decide_true]
  have Bf := hide (bl_drewN Bd.out jf)
  clear hbd hod
  go_wp2_with fail
  (with_reducible refine (toIntS_l _ _ _ _ _ (HY.out.below Bf.out) hb2).mono ?_)
  rintro e u8 ⟨A8, d8, rfl, ho8, hb8⟩
  go_wp2_with fail
  (with_reducible refine (eqIntS_l _ _ _ _ _ _ _ _ _ ((H4.out.drewN jf).below hb8).reads ho8.reads (by have := HNE.out; omega) (by have := HNE.out; omega)).mono ?_)
  rintro e u9 ⟨rfl, j9, rfl⟩
  simp only [decide_true]
  go_wp2
  go_ret
  exact ⟨rfl, bl_drewN (bl_call hb8 Bf.out) _⟩
set_option maxRecDepth 100000 in
theorem lifted_FnExactCheckShape (os : Os) (started : os.Started) (H : Type) (enc : TypeId × Value → H) :
    ReturnsInHanded {} Try.checked os 7 .any (Rows.fnExactCheckShapeSpec.pre6 enc Try.prog Try.f7 Rows.fnExactCheckShapeRow.domain false) (Rows.fnExactCheckShapeSpec.post enc Try.prog Try.f7 false true false false) := by
  refine returnsInHanded_of_change (C := Try.checked) own_knob started (by kernel_rfl) Try.func7
    (ChangeSpec.witness6 (enc := enc) (C := Try.checked) false ⟨#[], #[.slice none 0 0, .slice none 0 0, .int .i64 0, .slice none 0 0], []⟩ 8 (by kernel_rfl) (by kernel_rfl) (by kernel_rfl) (by kernel_rfl)) ?_
  intro W base args ds gs before hval0 hW hcnd _
  have hval : ∀ (j : Nat) t v, Try.f7.params[j]? = some t → args[j]? = some v → Value.okWide Try.prog W .any base t v := hval0
  have hW' := hW
  obtain ⟨p, q, hA0, hV, rfl, hfz, hnd⟩ := hW
  have hA : DataW.TrodAll enc Try.prog W 0 (fun _ => true) true Try.f7.params.toList args.toList ds p := hA0
  rw [Try.params7] at hA hval
  obtain ⟨v0, vs0, d0, ds0, p0, q0, hargs, rfl, rfl, zh0, r0⟩ := trodAll_cons hA
  obtain ⟨v1, vs1, d1, ds1, p1, q1, rfl, rfl, rfl, zh1, r1⟩ := trodAll_cons r0
  obtain ⟨v2, vs2, d2, ds2, p2, q2, rfl, rfl, rfl, zh2, r2⟩ := trodAll_cons r1
  obtain ⟨v3, vs3, d3, ds3, p3, q3, rfl, rfl, rfl, zh3, r3⟩ := trodAll_cons r2
  obtain ⟨rfl, rfl, rfl⟩ := trodAll_nil r3
  obtain rfl : args = #[v0, v1, v2, v3] := by cases args; simp_all
  obtain ⟨rfl, rfl⟩ := trodVars_none hV
  have zk0 := zh0
  have zl0 : ∀ x ∈ p0, x.block < W.heap.size := by obtain ⟨m, hm⟩ := zk0; exact DataW.trod_lt m _ _ _ hm
  have zk1 := zh1
  have zl1 : ∀ x ∈ p1, x.block < W.heap.size := by obtain ⟨m, hm⟩ := zk1; exact DataW.trod_lt m _ _ _ hm
  have zk2 := zh2
  have zl2 : ∀ x ∈ p2, x.block < W.heap.size := by obtain ⟨m, hm⟩ := zk2; exact DataW.trod_lt m _ _ _ hm
  have zk3 := zh3
  have zl3 : ∀ x ∈ p3, x.block < W.heap.size := by obtain ⟨m, hm⟩ := zk3; exact DataW.trod_lt m _ _ _ hm
  clear hA0 hval0
  obtain ⟨a_x, n_x, c_x, rfl⟩ := okWide_slice Try.underlying22 (hval 0 22 v0 rfl rfl)
  obtain ⟨L_x, t_x, m_x, _⟩ := items_in Try.underlying22 (by kernel_rfl) (by kernel_rfl) zh0
  obtain ⟨a_s, n_s, c_s, rfl⟩ := okWide_slice Try.underlying30 (hval 1 30 v1 rfl rfl)
  obtain ⟨s, w_s⟩ := isRow_of Try.underlying30 Try.underlying3 (by kernel_rfl) zh1
  obtain ⟨t, rfl, rfl, rfl, w_t⟩ := open_int Try.underlying3 (hval 2 3 v2 rfl rfl) zh2
  obtain ⟨a_b, n_b, c_b, rfl⟩ := okWide_slice Try.underlying30 (hval 3 30 v3 rfl rfl)
  obtain ⟨b, w_b⟩ := isRow_of Try.underlying30 Try.underlying3 (by kernel_rfl) zh3
  refine (walk_FnExactCheckShape a_x n_x c_x L_x a_s n_s c_s s t a_b n_b c_b b W t_x m_x w_s w_t w_b).mono fun e W' ⟨he, bel⟩ => ?_
  subst he
  exact ⟨_, rfl, _, _, _, [], _, [], hW', trodAll_mk1 (shut_bool Try.underlying4 _), (trodAll_cons_mk (Below.trod laid_out (by kernel_rfl) (of_decide_eq_true (by kernel_rfl)) zk0 bel zl0) (trodAll_cons_mk (Below.trod laid_out (by kernel_rfl) (of_decide_eq_true (by kernel_rfl)) zk1 bel zl1) (trodAll_cons_mk (Below.trod laid_out (by kernel_rfl) (of_decide_eq_true (by kernel_rfl)) zk2 bel zl2) (trodAll_cons_mk (Below.trod laid_out (by kernel_rfl) (of_decide_eq_true (by kernel_rfl)) zk3 bel zl3) trodAll_mk0)))), rfl, bel.frame _, fun h => by cases h⟩

/-- The statement. -/
theorem FnExactCheckShape_holds : Rows.FnExactCheckShapeSaid :=
  OpenClaim.holds_of_wide 7 Try.f7 rfl rfl rfl rfl rfl rfl rfl ⟨rfl, rfl, rfl, rfl, rfl⟩ rfl rfl rfl rfl rfl (by kernel_rfl) Try.func7 (by unfold joinedFacts; rw [may_enter, lifts_final, make_cut]; kernel_rfl)
    (of_decide_eq_true (by kernel_rfl)) (by unfold Func.isWrapper; first | (rw [if_pos (by decide +kernel)]; kernel_rfl) | (rw [if_neg (by decide +kernel)]; exact ⟨rfl, rfl⟩))
    (fun os started H enc _ => lifted_FnExactCheckShape os started H enc)
end Go.Proofs.Ytmncdpiojhgcdaa
