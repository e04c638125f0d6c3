/- The exact law on CheckPages holds at every input: it answers as its model does and writes into no argument. No condition. -/
import Derived.Test.YtkclecfjpabplaaFrame
import Derived.Test.YtkclecfjpabplaaCkp
namespace Go.Proofs.Ytkclecfjpabplaa
open Go.ChangeShapes Go.WideShapes Go.ChangeAt Go.RowKit
set_option linter.unusedVariables false
open Classical

theorem TO_capc {w : World} {e : TypeId} {B : Nat} {A : Option Addr} {c : Nat} {L : List Gp} (h : TO w e B A c L) : L.length ≤ c := by
  rcases Nat.eq_zero_or_pos L.length with h0 | h0
  · omega
  · obtain ⟨_, _, _, _, h1, _⟩ := h.form h0
    exact h1
theorem row_lenP {w : World} {a : Option Addr} {n c : Nat} {zs : List Int} (hr : IsRow .i64 w a n c zs) : n ≤ maxLen := by
  rcases hr with ⟨_, rfl, _, _⟩ | ⟨_, _, hl, hm, _⟩
  · exact Nat.zero_le _
  · omega
set_option maxHeartbeats 2000000 in
theorem walk_FnExactCheckPages (a : Option Addr) (n c : Nat) (l : List Gp) (wd : Int) (a2 : Option Addr) (n2 c2 : Nat) (zs : List Int) (w : World) (h : TL w a n l) (hm : n ≤ maxLen) (wf1 : (Lit.int .i64 wd).wf = true) (hr2 : IsRow .i64 w a2 n2 c2 zs) :
    Calls Try.prog 10 #[.slice a n c, .int .i64 wd, .slice a2 n2 c2] w fun e w' => e = .returned (.bool true) ∧ Below w.heap.size w w' := by
  have hy := IL.of_row hr2
  obtain ⟨E, hE⟩ : ∃ E, E = zs.take n2 := ⟨_, rfl⟩
  rw [← hE] at hy
  have hn2 : n2 ≤ maxLen := row_lenP hr2
  have HNL := hide h.1
  have HI := hide h
  unfold maxLen at hm hn2
  clear h wf1 hr2 hE
  rcases (by omega : 1048576 < n2 ∨ n2 ≤ 1048576) with hb2 | hb2
  · go_enter Try.func10, Try.ntmps10
    go_wp2
    go_ret
    exact ⟨rfl, bl_refl _⟩
  have HY := hide hy
  have HNE := hide (show E.length ≤ 1048576 by have := hy.1; omega)
  clear hy
  rcases (by omega : (1048576 : Int) - (n : Int) < 0 ∨ 0 ≤ (1048576 : Int) - (n : Int)) with q | q
  · have SZ := fun (u : World) => szLineS_l u a n c 1048576 (by omega) (by omega) (by omega)
    rw [if_pos q] at SZ
    have HSZ := hide SZ
    clear SZ
    go_enter Try.func10, Try.ntmps10
    go_wp2_with fail
    (with_reducible refine (HSZ.out _).mono ?_)
    rintro e w' ⟨rfl, rfl⟩
    go_wp2
    go_ret
    exact ⟨rfl, bl_refl _⟩
  have hn : n ≤ 1048576 := by omega
  have hll := hide (show l.length ≤ 1048576 by rw [← HNL.out]; exact hn)
  have q' : ¬ ((1048576 : Int) - (n : Int) < 0) := by omega
  have SZ := fun (u : World) => szLineS_l u a n c 1048576 (by omega) (by omega) (by omega)
  rw [if_neg q'] at SZ
  have HSZ := hide SZ
  clear SZ
  have CS := hide (fun (u : World) (A B : Option Addr) (c d : Nat) (h : TL u A l.length l) (hc : l.length ≤ c) (h2 : IL u B E.length E) => CheckPages_s u A B l.length c E.length d l wd E h (by have := hll.out; omega) h2 HNE.out)
  have CI := hide (fun (u : World) (A B : Option Addr) (c d : Nat) (h : TL u A l.length l) (hc : l.length ≤ c) (h2 : IL u B E.length E) => CheckPages_i u A B l.length c E.length d l wd E h (by have := hll.out; omega) hc h2 HNE.out)
  obtain ⟨t, ht⟩ : ∃ t, t = cpV l wd E := ⟨_, rfl⟩
  rw [← ht] at CS CI
  clear ht
  obtain ⟨t1, t2⟩ := t
  go_enter Try.func10, Try.ntmps10
  go_wp2_with fail
  (with_reducible refine (HSZ.out _).mono ?_)
  rintro e w' ⟨rfl, rfl⟩
  go_wp2_with fail
  (with_reducible refine (toLineS_l _ _ _ _ l HI.out hn).mono ?_)
  rintro e u1 ⟨A1, c1, rfl, ho1, hb1⟩
  have B1 := hide hb1
  clear hb1
  go_wp2_with fail
  (with_reducible refine (toIntS_l _ _ _ _ _ (HY.out.below B1.out) hb2).mono ?_)
  rintro e u2 ⟨A2, d2, rfl, ho2, hb2'⟩
  have B2 := hide (bl_call hb2' B1.out)
  go_wp2_with fail
  (with_reducible refine (CS.out _ _ _ _ _ (TO.below ho1 hb2').reads (TO_capc ho1) ho2.reads).mono ?_)
  rintro e w' ⟨rfl, rfl⟩
  clear ho1 ho2 hb2'
  have B3 := B2
  go_wp2_with fail
  (with_reducible refine (toLineS_l _ _ _ _ l (HI.out.below B3.out) hn).mono ?_)
  rintro e u3 ⟨A3, c3, rfl, ho3, hb3⟩
  have B4 := hide (bl_call hb3 B3.out)
  clear hb3
  go_wp2_with fail
  (with_reducible refine (toIntS_l _ _ _ _ _ (HY.out.below B4.out) hb2).mono ?_)
  rintro e u4 ⟨A4, d4, rfl, ho4, hb4⟩
  have B5 := hide (bl_call hb4 B4.out)
  have ho3 := ho3.below hb4
  clear hb4
  go_wp2_with fail
  (with_reducible refine (CI.out _ _ _ _ _ ho3.reads (TO_capc ho3) ho4.reads).mono ?_)
  rintro e u5 ⟨rfl, hb5⟩
  have B6 := hide (bl_call hb5 B5.out)
  have H3 := hide (ho3.below hb5)
  have H4 := hide (ho4.below hb5)
  clear ho3 ho4 hb5
  go_wp2_with fail
  (with_reducible refine (toLineS_l _ _ _ _ l (HI.out.below B6.out) hn).mono ?_)
  rintro e u6 ⟨A6, c6, rfl, ho6, hb6⟩
  have B7 := hide (bl_call hb6 B6.out)
  have H4 := hide (H4.out.below hb6)
  go_wp2_with fail
  (with_reducible refine (eqLineS_l _ _ _ _ _ _ l (TO.below H3.out hb6).reads ho6.reads hll.out).mono ?_)
  rintro e u7 ⟨rfl, hb7⟩
  have B8 := hide (bl_call hb7 B7.out)
  have H4 := hide (H4.out.below hb7)
  clear hb6 ho6 hb7
  go_wp2_with fail
  (with_reducible refine (toIntS_l _ _ _ _ _ (HY.out.below B8.out) hb2).mono ?_)
  rintro e u8 ⟨A8, d8, rfl, ho8, hb8⟩
  go_wp2_with fail
  (with_reducible refine (eqIntS_l _ _ _ _ _ _ _ _ _ (H4.out.below hb8).reads ho8.reads (by have := HNE.out; omega) (by have := HNE.out; omega)).mono ?_)
  rintro e u9 ⟨rfl, j9, rfl⟩
  simp only [decide_true]
  go_wp2
  go_ret
  exact ⟨rfl, bl_drewN (bl_call hb8 B8.out) _⟩
set_option maxRecDepth 100000 in
theorem lifted_FnExactCheckPages (os : Os) (started : os.Started) (H : Type) (enc : TypeId × Value → H) :
    ReturnsInHanded {} Try.checked os 10 .any (Rows.fnExactCheckPagesSpec.pre6 enc Try.prog Try.f10 Rows.fnExactCheckPagesRow.domain false) (Rows.fnExactCheckPagesSpec.post enc Try.prog Try.f10 false true false false) := by
  refine returnsInHanded_of_change (C := Try.checked) own_knob started (by kernel_rfl) Try.func10
    (ChangeSpec.witness6 (enc := enc) (C := Try.checked) false ⟨#[], #[.slice none 0 0, .int .i64 0, .slice none 0 0], []⟩ 8 (by kernel_rfl) (by kernel_rfl) (by kernel_rfl) (by kernel_rfl)) ?_
  intro W base args ds gs before hval0 hW hcnd _
  have hval : ∀ (j : Nat) t v, Try.f10.params[j]? = some t → args[j]? = some v → Value.okWide Try.prog W .any base t v := hval0
  have hW' := hW
  obtain ⟨p, q, hA0, hV, rfl, hfz, hnd⟩ := hW
  have hA : DataW.TrodAll enc Try.prog W 0 (fun _ => true) true Try.f10.params.toList args.toList ds p := hA0
  rw [Try.params10] at hA hval
  obtain ⟨v0, vs0, d0, ds0, p0, q0, hargs, rfl, rfl, zh0, r0⟩ := trodAll_cons hA
  obtain ⟨v1, vs1, d1, ds1, p1, q1, rfl, rfl, rfl, zh1, r1⟩ := trodAll_cons r0
  obtain ⟨v2, vs2, d2, ds2, p2, q2, rfl, rfl, rfl, zh2, r2⟩ := trodAll_cons r1
  obtain ⟨rfl, rfl, rfl⟩ := trodAll_nil r2
  obtain rfl : args = #[v0, v1, v2] := by cases args; simp_all
  obtain ⟨rfl, rfl⟩ := trodVars_none hV
  have zk0 := zh0
  have zl0 : ∀ x ∈ p0, x.block < W.heap.size := by obtain ⟨m, hm⟩ := zk0; exact DataW.trod_lt m _ _ _ hm
  have zk1 := zh1
  have zl1 : ∀ x ∈ p1, x.block < W.heap.size := by obtain ⟨m, hm⟩ := zk1; exact DataW.trod_lt m _ _ _ hm
  have zk2 := zh2
  have zl2 : ∀ x ∈ p2, x.block < W.heap.size := by obtain ⟨m, hm⟩ := zk2; exact DataW.trod_lt m _ _ _ hm
  clear hA0 hval0
  obtain ⟨a_x, n_x, c_x, rfl⟩ := okWide_slice Try.underlying47 (hval 0 47 v0 rfl rfl)
  obtain ⟨L_x, t_x, m_x⟩ := pairs_in Try.underlying47 (by kernel_rfl) (by kernel_rfl) zh0
  obtain ⟨m, rfl, rfl, rfl, w_m⟩ := open_int Try.underlying3 (hval 1 3 v1 rfl rfl) zh1
  obtain ⟨a_t, n_t, c_t, rfl⟩ := okWide_slice Try.underlying22 (hval 2 22 v2 rfl rfl)
  obtain ⟨t, w_t⟩ := isRow_of Try.underlying22 Try.underlying3 (by kernel_rfl) zh2
  refine (walk_FnExactCheckPages a_x n_x c_x L_x m a_t n_t c_t t W t_x m_x w_m w_t).mono fun e W' ⟨he, bel⟩ => ?_
  subst he
  exact ⟨_, rfl, _, _, _, [], _, [], hW', trodAll_mk1 (shut_bool Try.underlying4 _), (trodAll_cons_mk (Below.trod laid_out (by kernel_rfl) (of_decide_eq_true (by kernel_rfl)) zk0 bel zl0) (trodAll_cons_mk (Below.trod laid_out (by kernel_rfl) (of_decide_eq_true (by kernel_rfl)) zk1 bel zl1) (trodAll_cons_mk (Below.trod laid_out (by kernel_rfl) (of_decide_eq_true (by kernel_rfl)) zk2 bel zl2) trodAll_mk0))), rfl, bel.frame _, fun h => by cases h⟩

/-- The statement. -/
theorem FnExactCheckPages_holds : Rows.FnExactCheckPagesSaid :=
  OpenClaim.holds_of_wide 10 Try.f10 rfl rfl rfl rfl rfl rfl rfl ⟨rfl, rfl, rfl, rfl, rfl⟩ rfl rfl rfl rfl rfl (by kernel_rfl) Try.func10 (by kernel_rfl)
    (of_decide_eq_true (by kernel_rfl)) (by unfold Func.isWrapper; first | (rw [if_pos (by decide +kernel)]; kernel_rfl) | (rw [if_neg (by decide +kernel)]; exact ⟨rfl, rfl⟩))
    (fun os started H enc _ => lifted_FnExactCheckPages os started H enc)
end Go.Proofs.Ytkclecfjpabplaa
