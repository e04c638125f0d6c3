/- The exact law on WrapCost holds at every input: it answers as its model does and writes into no argument. No condition. -/
import Derived.Test.YtmljmcckkbomcaaJn
import Derived.Test.YtmljmcckkbomcaaWcS
namespace Go.Proofs.Ytmljmcckkbomcaa
open Go.ChangeShapes Go.WideShapes Go.ChangeAt Go.RowKit
set_option linter.unusedVariables false
open Classical

theorem OS.cap {w : World} {e : TypeId} {B c : Nat} {A : Option Addr} {l : List ByteArray} (h : OS w e B A c l) : l.length ≤ c := by
  rcases Nat.eq_zero_or_pos l.length with h0 | h0
  · omega
  · obtain ⟨g, _, _, _, hc, _⟩ := h.form h0
    exact hc
theorem row_len {w : World} {a : Option Addr} {n c : Nat} {zs : List Int} (hr : IsRow .i64 w a n c zs) : n ≤ maxLen := by
  rcases hr with ⟨_, rfl, _, _⟩ | ⟨_, _, hl, hm, _⟩
  · exact Nat.zero_le _
  · omega
set_option maxHeartbeats 2000000 in
theorem walk_FnExactWrapCost (a : Option Addr) (n c : Nat) (l : List ByteArray) (wd : Int) (a2 : Option Addr) (n2 c2 : Nat) (zs : List Int) (w : World) (h : SL w a n l) (hm : n ≤ maxLen) (hs : ∀ k, k < l.length → (sg l k).size ≤ maxLen) (wf1 : (Lit.int .i64 wd).wf = true) (hr2 : IsRow .i64 w a2 n2 c2 zs) :
    Calls Try.prog 3 #[.slice a n c, .int .i64 wd, .slice a2 n2 c2] w fun e w' => e = .returned (.bool true) ∧ Below w.heap.size w w' := by
  have hy := IL.of_row hr2
  obtain ⟨E, hE⟩ : ∃ E, E = zs.take n2 := ⟨_, rfl⟩
  rw [← hE] at hy
  have hn2 : n2 ≤ maxLen := row_len hr2
  have SZ := hide (fun (u : World) (hu : SL u a n l) => szStringS_l u a n c 1048576 l hu hs hm (by omega) (by omega))
  have HNL := hide h.1
  have HI := hide h
  unfold maxLen at hm hn2
  clear h hs wf1 hr2 hE
  rcases (by omega : 1048576 < n2 ∨ n2 ≤ 1048576) with hb2 | hb2
  · go_enter Try.func3, Try.ntmps3
    go_wp2
    go_ret
    exact ⟨rfl, bl_refl _⟩
  have HY := hide hy
  have HNE := hide (show E.length ≤ 1048576 by have := hy.1; omega)
  clear hy
  go_enter Try.func3, Try.ntmps3
  go_wp2_with fail
  (with_reducible refine (SZ.out _ HI.out).mono ?_)
  rintro e w' ⟨⟨r, rfl, q⟩, rfl⟩
  rcases q with rfl | ⟨q0, q1, q2⟩
  · go_wp2
    go_ret
    exact ⟨rfl, bl_refl _⟩
  have hn : n ≤ 1048576 := by omega
  have hll := hide (show l.length ≤ 1048576 by rw [← HNL.out]; exact hn)
  have HK := hide (fun k (hk : k < l.length) => show (sg l k).size ≤ 1048576 by have := q2 k hk; omega)
  have CS := hide (fun (u : World) (A B : Option Addr) (c d : Nat) (h : SL u A l.length l) (hc : l.length ≤ c) (h2 : IL u B E.length E) => WrapCost_s u A B l.length c E.length d l wd E h hc HK.out hll.out h2 HNE.out)
  have CI := hide (fun (u : World) (A B : Option Addr) (c d : Nat) (h : SL u A l.length l) (hc : l.length ≤ c) (h2 : IL u B E.length E) => WrapCost_i u A B l.length c E.length d l wd E h hc HK.out hll.out h2 HNE.out)
  obtain ⟨t, ht⟩ : ∃ t, t = wcO l wd E := ⟨_, rfl⟩
  rw [← ht] at CS CI
  clear q1 q2 ht
  obtain ⟨t1, t2⟩ := t
  go_wp2_with fail
  (with_reducible refine (toStringS_l _ _ _ _ l HI.out hn).mono ?_)
  rintro e u1 ⟨A1, c1, rfl, ho1, hb1⟩
  have B1 := hide hb1
  clear hb1
  go_wp2_with fail
  (with_reducible refine (toIntS_l _ _ _ _ _ (HY.out.below B1.out) hb2).mono ?_)
  rintro e u2 ⟨A2, d2, rfl, ho2, hb2'⟩
  have B2 := hide (bl_call hb2' B1.out)
  go_wp2_with fail
  (with_reducible refine (CS.out _ _ _ _ _ (ho1.below hb2').reads ho1.cap ho2.reads).mono ?_)
  rintro e w' ⟨rfl, j1, rfl⟩
  clear ho1 ho2 hb2'
  have B3 := hide (bl_drewN B2.out j1)
  go_wp2_with fail
  (with_reducible refine (toStringS_l _ _ _ _ l (HI.out.below B3.out) hn).mono ?_)
  rintro e u3 ⟨A3, c3, rfl, ho3, hb3⟩
  have B4 := hide (bl_call hb3 B3.out)
  clear hb3
  go_wp2_with fail
  (with_reducible refine (toIntS_l _ _ _ _ _ (HY.out.below B4.out) hb2).mono ?_)
  rintro e u4 ⟨A4, d4, rfl, ho4, hb4⟩
  have B5 := hide (bl_call hb4 B4.out)
  have ho3 := ho3.below hb4
  clear hb4
  go_wp2_with fail
  (with_reducible refine (CI.out _ _ _ _ _ ho3.reads ho3.cap ho4.reads).mono ?_)
  rintro e u5 ⟨rfl, hb5⟩
  have B6 := hide (bl_call hb5 B5.out)
  have H3 := hide (ho3.below hb5)
  have H4 := hide (ho4.below hb5)
  clear ho3 ho4 hb5
  go_wp2_with fail
  (with_reducible refine (toStringS_l _ _ _ _ l (HI.out.below B6.out) hn).mono ?_)
  rintro e u6 ⟨A6, c6, rfl, ho6, hb6⟩
  have B7 := hide (bl_call hb6 B6.out)
  have H4 := hide (H4.out.below hb6)
  go_wp2_with fail
  (with_reducible refine (eqStringS_l _ _ _ _ _ _ _ _ _ (H3.out.below hb6).reads ho6.reads (by have := hll.out; omega) (by have := hll.out; omega)).mono ?_)
  rintro e u7 ⟨rfl, j7, rfl⟩
  simp only [decide_true]
  have B8 := hide (bl_drewN B7.out j7)
  clear hb6 ho6
  go_wp2_with fail
  (with_reducible refine (toIntS_l _ _ _ _ _ (HY.out.below B8.out) hb2).mono ?_)
  rintro e u8 ⟨A8, d8, rfl, ho8, hb8⟩
  go_wp2_with fail
  (with_reducible refine (eqIntS_l _ _ _ _ _ _ _ _ _ ((H4.out.drewN j7).below hb8).reads ho8.reads (by have := HNE.out; omega) (by have := HNE.out; omega)).mono ?_)
  rintro e u9 ⟨rfl, j9, rfl⟩
  simp only [decide_true]
  go_wp2
  go_ret
  exact ⟨rfl, bl_drewN (bl_call hb8 B8.out) _⟩
set_option maxRecDepth 100000 in
theorem lifted_FnExactWrapCost (os : Os) (started : os.Started) (H : Type) (enc : TypeId × Value → H) :
    ReturnsInHanded {} Try.checked os 3 .any (Rows.fnExactWrapCostSpec.pre6 enc Try.prog Try.f3 Rows.fnExactWrapCostRow.domain false) (Rows.fnExactWrapCostSpec.post enc Try.prog Try.f3 false true false false) := by
  refine returnsInHanded_of_change (C := Try.checked) own_knob started (by kernel_rfl) Try.func3
    (ChangeSpec.witness6 (enc := enc) (C := Try.checked) false ⟨#[], #[.slice none 0 0, .int .i64 0, .slice none 0 0], []⟩ 8 (by kernel_rfl) (by kernel_rfl) (by kernel_rfl) (by kernel_rfl)) ?_
  intro W base args ds gs before hval0 hW hcnd _
  have hval : ∀ (j : Nat) t v, Try.f3.params[j]? = some t → args[j]? = some v → Value.okWide Try.prog W .any base t v := hval0
  have hW' := hW
  obtain ⟨p, q, hA0, hV, rfl, hfz, hnd⟩ := hW
  have hA : DataW.TrodAll enc Try.prog W 0 (fun _ => true) true Try.f3.params.toList args.toList ds p := hA0
  rw [Try.params3] at hA hval
  obtain ⟨v0, vs0, d0, ds0, p0, q0, hargs, rfl, rfl, zh0, r0⟩ := trodAll_cons hA
  obtain ⟨v1, vs1, d1, ds1, p1, q1, rfl, rfl, rfl, zh1, r1⟩ := trodAll_cons r0
  obtain ⟨v2, vs2, d2, ds2, p2, q2, rfl, rfl, rfl, zh2, r2⟩ := trodAll_cons r1
  obtain ⟨rfl, rfl, rfl⟩ := trodAll_nil r2
  obtain rfl : args = #[v0, v1, v2] := by cases args; simp_all
  obtain ⟨rfl, rfl⟩ := trodVars_none hV
  have zk0 := zh0
  have zl0 : ∀ x ∈ p0, x.block < W.heap.size := by obtain ⟨m, hm⟩ := zk0; exact DataW.trod_lt m _ _ _ hm
  have zk1 := zh1
  have zl1 : ∀ x ∈ p1, x.block < W.heap.size := by obtain ⟨m, hm⟩ := zk1; exact DataW.trod_lt m _ _ _ hm
  have zk2 := zh2
  have zl2 : ∀ x ∈ p2, x.block < W.heap.size := by obtain ⟨m, hm⟩ := zk2; exact DataW.trod_lt m _ _ _ hm
  clear hA0 hval0
  obtain ⟨a_s, n_s, c_s, rfl⟩ := okWide_slice Try.underlying22 (hval 0 22 v0 rfl rfl)
  obtain ⟨l_s, t_s, m_s, s_s⟩ := strs_in Try.underlying22 (by kernel_rfl) (by kernel_rfl) zh0
  obtain ⟨m, rfl, rfl, rfl, w_m⟩ := open_int Try.underlying3 (hval 1 3 v1 rfl rfl) zh1
  obtain ⟨a_t, n_t, c_t, rfl⟩ := okWide_slice Try.underlying23 (hval 2 23 v2 rfl rfl)
  obtain ⟨t, w_t⟩ := isRow_of Try.underlying23 Try.underlying3 (by kernel_rfl) zh2
  refine (walk_FnExactWrapCost a_s n_s c_s l_s m a_t n_t c_t t W t_s m_s s_s w_m w_t).mono fun e W' ⟨he, bel⟩ => ?_
  subst he
  exact ⟨_, rfl, _, _, _, [], _, [], hW', trodAll_mk1 (shut_bool Try.underlying4 _), (trodAll_cons_mk (Below.trod laid_out (by kernel_rfl) (of_decide_eq_true (by kernel_rfl)) zk0 bel zl0) (trodAll_cons_mk (Below.trod laid_out (by kernel_rfl) (of_decide_eq_true (by kernel_rfl)) zk1 bel zl1) (trodAll_cons_mk (Below.trod laid_out (by kernel_rfl) (of_decide_eq_true (by kernel_rfl)) zk2 bel zl2) trodAll_mk0))), rfl, bel.frame _, fun h => by cases h⟩

/-- The statement. -/
theorem FnExactWrapCost_holds : Rows.FnExactWrapCostSaid :=
  OpenClaim.holds_of_wide 3 Try.f3 rfl rfl rfl rfl rfl rfl rfl ⟨rfl, rfl, rfl, rfl, rfl⟩ rfl rfl rfl rfl rfl (by kernel_rfl) Try.func3 (by unfold joinedFacts; rw [may_enter, lifts_final, make_cut]; kernel_rfl)
    (of_decide_eq_true (by kernel_rfl)) (by unfold Func.isWrapper; first | (rw [if_pos (by decide +kernel)]; kernel_rfl) | (rw [if_neg (by decide +kernel)]; exact ⟨rfl, rfl⟩))
    (fun os started H enc _ => lifted_FnExactWrapCost os started H enc)
end Go.Proofs.Ytmljmcckkbomcaa
