/- The exact law on CountWidows holds at every input: it answers as its model does and writes into no argument. No condition. -/
import Derived.Test.YtkclecfjpabplabJn
import Derived.Test.YtkclecfjpabplabCwS
namespace Go.Proofs.Ytkclecfjpabplab
open Go.ChangeShapes Go.WideShapes Go.ChangeAt Go.RowKit
set_option linter.unusedVariables false
open Classical

theorem OL.capc {w : World} {e : TypeId} {B c : Nat} {A : Option Addr} {l : List Int} (h : OL w e B A c l) : l.length ≤ c := by
  rcases Nat.eq_zero_or_pos l.length with h0 | h0
  · omega
  · obtain ⟨g, _, _, _, hc, _⟩ := h.form h0
    exact hc
theorem row_lenc {w : World} {a : Option Addr} {n c : Nat} {zs : List Int} (hr : IsRow .i64 w a n c zs) : n ≤ maxLen := by
  rcases hr with ⟨_, rfl, _, _⟩ | ⟨_, _, hl, hm, _⟩
  · exact Nat.zero_le _
  · omega
set_option maxHeartbeats 2000000 in
theorem walk_FnExactCountWidows (a : Option Addr) (n c : Nat) (zs : List Int) (a2 : Option Addr) (n2 c2 : Nat) (zs2 : List Int) (w : World) (hr : IsRow .i64 w a n c zs) (hr2 : IsRow .i64 w a2 n2 c2 zs2) :
    Calls Try.prog 4 #[.slice a n c, .slice a2 n2 c2] w fun e w' => e = .returned (.bool true) ∧ Below w.heap.size w w' := by
  have hx := IL.of_row hr
  have hy := IL.of_row hr2
  obtain ⟨l, hl⟩ : ∃ l, l = zs.take n := ⟨_, rfl⟩
  obtain ⟨E, hE⟩ : ∃ E, E = zs2.take n2 := ⟨_, rfl⟩
  rw [← hl] at hx
  rw [← hE] at hy
  have hn : n ≤ maxLen := row_lenc hr
  have hn2 : n2 ≤ maxLen := row_lenc hr2
  unfold maxLen at hn hn2
  clear hr hr2 hl hE
  rcases (by omega : 1048576 < n ∨ n ≤ 1048576 ∧ 1048576 < n2 ∨ n ≤ 1048576 ∧ n2 ≤ 1048576) with hb | ⟨hb, hb2⟩ | ⟨hb, hb2⟩
  · go_enter Try.func4, Try.ntmps4
    go_wp2
    go_ret
    exact ⟨rfl, bl_refl _⟩
  · go_enter Try.func4, Try.ntmps4
    go_wp2
    go_ret
    exact ⟨rfl, bl_refl _⟩
  have HX := hide hx
  have HY := hide hy
  have HL1 := hide (show l.length ≤ 1048576 by have := hx.1; omega)
  have HL2 := hide (show E.length ≤ 1048576 by have := hy.1; omega)
  have CS := hide (fun (u : World) (A B : Option Addr) (c d : Nat) (h : IL u A l.length l) (h2 : IL u B E.length E) => CountWidows_s u A B l.length c E.length d l E h HL1.out h2 HL2.out)
  have CI := hide (fun (u : World) (A B : Option Addr) (c d : Nat) (h : IL u A l.length l) (h2 : IL u B E.length E) => CountWidows_i u A B l.length c E.length d l E h HL1.out h2 HL2.out)
  obtain ⟨t, ht⟩ : ∃ t, t = cwV l E := ⟨_, rfl⟩
  rw [← ht] at CS CI
  clear hx hy ht
  obtain ⟨t1, t2⟩ := t
  go_enter Try.func4, Try.ntmps4
  go_wp2_with fail
  (with_reducible refine (toIntS_l _ _ _ _ _ HX.out hb).mono ?_)
  rintro e u1 ⟨A1, c1, rfl, ho1, hb1⟩
  have B1 := hide hb1
  clear hb1
  go_wp2_with fail
  (with_reducible refine (toIntS_l _ _ _ _ _ (HY.out.below B1.out) hb2).mono ?_)
  rintro e u2 ⟨A2, d2, rfl, ho2, hb2'⟩
  have B2 := hide (bl_call hb2' B1.out)
  go_wp2_with fail
  (with_reducible refine (CS.out _ _ _ _ _ (ho1.below hb2').reads ho2.reads).mono ?_)
  rintro e w' ⟨rfl, rfl⟩
  clear ho1 ho2 hb2'
  have B3 := B2
  go_wp2_with fail
  (with_reducible refine (toIntS_l _ _ _ _ _ (HX.out.below B3.out) hb).mono ?_)
  rintro e u3 ⟨A3, c3, rfl, ho3, hb3⟩
  have B4 := hide (bl_call hb3 B3.out)
  clear hb3
  go_wp2_with fail
  (with_reducible refine (toIntS_l _ _ _ _ _ (HY.out.below B4.out) hb2).mono ?_)
  rintro e u4 ⟨A4, d4, rfl, ho4, hb4⟩
  have B5 := hide (bl_call hb4 B4.out)
  have ho3 := ho3.below hb4
  clear hb4
  go_wp2_with fail
  (with_reducible refine (CI.out _ _ _ _ _ ho3.reads ho4.reads).mono ?_)
  rintro e u5 ⟨rfl, hb5⟩
  have B6 := hide (bl_call hb5 B5.out)
  have H3 := hide (ho3.below hb5)
  have H4 := hide (ho4.below hb5)
  clear ho3 ho4 hb5
  go_wp2_with fail
  (with_reducible refine (toIntS_l _ _ _ _ _ (HX.out.below B6.out) hb).mono ?_)
  rintro e u6 ⟨A6, c6, rfl, ho6, hb6⟩
  have B7 := hide (bl_call hb6 B6.out)
  have H4 := hide (H4.out.below hb6)
  go_wp2_with fail
  (with_reducible refine (eqIntS_l _ _ _ _ _ _ _ _ _ (H3.out.below hb6).reads ho6.reads (by have := HL1.out; omega) (by have := HL1.out; omega)).mono ?_)
  rintro e u7 ⟨rfl, j7, rfl⟩
  simp only [decide_true]
  have B8 := hide (bl_drewN B7.out j7)
  clear hb6 ho6
  go_wp2_with fail
  (with_reducible refine (toIntS_l _ _ _ _ _ (HY.out.below B8.out) hb2).mono ?_)
  rintro e u8 ⟨A8, d8, rfl, ho8, hb8⟩
  go_wp2_with fail
  (with_reducible refine (eqIntS_l _ _ _ _ _ _ _ _ _ ((H4.out.drewN j7).below hb8).reads ho8.reads (by have := HL2.out; omega) (by have := HL2.out; omega)).mono ?_)
  rintro e u9 ⟨rfl, j9, rfl⟩
  simp only [decide_true]
  go_wp2
  go_ret
  exact ⟨rfl, bl_drewN (bl_call hb8 B8.out) _⟩
set_option maxRecDepth 100000 in
theorem lifted_FnExactCountWidows (os : Os) (started : os.Started) (H : Type) (enc : TypeId × Value → H) :
    ReturnsInHanded {} Try.checked os 4 .any (Rows.fnExactCountWidowsSpec.pre6 enc Try.prog Try.f4 Rows.fnExactCountWidowsRow.domain false) (Rows.fnExactCountWidowsSpec.post enc Try.prog Try.f4 false true false false) := by
  refine returnsInHanded_of_change (C := Try.checked) own_knob started (by kernel_rfl) Try.func4
    (ChangeSpec.witness6 (enc := enc) (C := Try.checked) false ⟨#[], #[.slice none 0 0, .slice none 0 0], []⟩ 8 (by kernel_rfl) (by kernel_rfl) (by kernel_rfl) (by kernel_rfl)) ?_
  intro W base args ds gs before hval0 hW hcnd _
  have hval : ∀ (j : Nat) t v, Try.f4.params[j]? = some t → args[j]? = some v → Value.okWide Try.prog W .any base t v := hval0
  have hW' := hW
  obtain ⟨p, q, hA0, hV, rfl, hfz, hnd⟩ := hW
  have hA : DataW.TrodAll enc Try.prog W 0 (fun _ => true) true Try.f4.params.toList args.toList ds p := hA0
  rw [Try.params4] at hA hval
  obtain ⟨v0, vs0, d0, ds0, p0, q0, hargs, rfl, rfl, zh0, r0⟩ := trodAll_cons hA
  obtain ⟨v1, vs1, d1, ds1, p1, q1, rfl, rfl, rfl, zh1, r1⟩ := trodAll_cons r0
  obtain ⟨rfl, rfl, rfl⟩ := trodAll_nil r1
  obtain rfl : args = #[v0, v1] := by cases args; simp_all
  obtain ⟨rfl, rfl⟩ := trodVars_none hV
  have zk0 := zh0
  have zl0 : ∀ x ∈ p0, x.block < W.heap.size := by obtain ⟨m, hm⟩ := zk0; exact DataW.trod_lt m _ _ _ hm
  have zk1 := zh1
  have zl1 : ∀ x ∈ p1, x.block < W.heap.size := by obtain ⟨m, hm⟩ := zk1; exact DataW.trod_lt m _ _ _ hm
  clear hA0 hval0
  obtain ⟨a_s, n_s, c_s, rfl⟩ := okWide_slice Try.underlying22 (hval 0 22 v0 rfl rfl)
  obtain ⟨s, w_s⟩ := isRow_of Try.underlying22 Try.underlying3 (by kernel_rfl) zh0
  obtain ⟨a_t, n_t, c_t, rfl⟩ := okWide_slice Try.underlying22 (hval 1 22 v1 rfl rfl)
  obtain ⟨t, w_t⟩ := isRow_of Try.underlying22 Try.underlying3 (by kernel_rfl) zh1
  refine (walk_FnExactCountWidows a_s n_s c_s s a_t n_t c_t t W w_s w_t).mono fun e W' ⟨he, bel⟩ => ?_
  subst he
  exact ⟨_, rfl, _, _, _, [], _, [], hW', trodAll_mk1 (shut_bool Try.underlying4 _), (trodAll_cons_mk (Below.trod laid_out (by kernel_rfl) (of_decide_eq_true (by kernel_rfl)) zk0 bel zl0) (trodAll_cons_mk (Below.trod laid_out (by kernel_rfl) (of_decide_eq_true (by kernel_rfl)) zk1 bel zl1) trodAll_mk0)), rfl, bel.frame _, fun h => by cases h⟩

/-- The statement. -/
theorem FnExactCountWidows_holds : Rows.FnExactCountWidowsSaid :=
  OpenClaim.holds_of_wide 4 Try.f4 rfl rfl rfl rfl rfl rfl rfl ⟨rfl, rfl, rfl, rfl, rfl⟩ rfl rfl rfl rfl rfl (by kernel_rfl) Try.func4 (by unfold joinedFacts; rw [may_enter, lifts_final, make_cut]; kernel_rfl)
    (of_decide_eq_true (by kernel_rfl)) (by unfold Func.isWrapper; first | (rw [if_pos (by decide +kernel)]; kernel_rfl) | (rw [if_neg (by decide +kernel)]; exact ⟨rfl, rfl⟩))
    (fun os started H enc _ => lifted_FnExactCountWidows os started H enc)
end Go.Proofs.Ytkclecfjpabplab
