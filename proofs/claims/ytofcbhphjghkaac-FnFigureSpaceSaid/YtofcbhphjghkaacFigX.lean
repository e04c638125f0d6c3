/- The exact laws on CheckFigures and TotalDelay hold at every input: they answer as their models do and write into no argument. No condition. -/
import Derived.Test.YtofcbhphjghkaacFrame
import Derived.Test.YtofcbhphjghkaacFigD
namespace Go.Proofs.Ytofcbhphjghkaac
open Go.ChangeShapes Go.WideShapes Go.ChangeAt Go.RowKit
set_option linter.unusedVariables false

theorem OL_none {w : World} {e : TypeId} {B : Nat} {A : Option Addr} {c : Nat} {l : List Int} (h : OL w e B A c l) : A = none → c = 0 := by
  intro hA
  subst hA
  rcases h.2 with ⟨h0, _⟩ | ⟨g, cap, cur, h1, _⟩
  · injection h0
  · cases h1
theorem row_len {w : World} {a : Option Addr} {n c : Nat} {zs : List Int} (hr : IsRow .i64 w a n c zs) : n ≤ maxLen := by
  rcases hr with ⟨_, rfl, _, _⟩ | ⟨_, _, hl, hm, _⟩
  · exact Nat.zero_le _
  · omega
set_option maxHeartbeats 4000000 in
theorem walk_FnExactCheckFigures (a : Option Addr) (n c : Nat) (L : List Du) (a1 : Option Addr) (n1 c1 : Nat) (zs1 : List Int) (a2 : Option Addr) (n2 c2 : Nat) (zs2 : List Int) (w : World) (h : TL w a n L) (hm : n ≤ maxLen) (hr1 : IsRow .i64 w a1 n1 c1 zs1) (hr2 : IsRow .i64 w a2 n2 c2 zs2) :
    Calls Try.prog 3 #[.slice a n c, .slice a1 n1 c1, .slice a2 n2 c2] w fun e w' => e = .returned (.bool true) ∧ Below w.heap.size w w' := by
  have hx1 := IL.of_row hr1
  have hx2 := IL.of_row hr2
  have hm1 := row_len hr1
  have hm2 := row_len hr2
  obtain ⟨s, hs⟩ : ∃ s, s = zs1.take n1 := ⟨_, rfl⟩
  obtain ⟨l, hl⟩ : ∃ l, l = zs2.take n2 := ⟨_, rfl⟩
  rw [← hs] at hx1
  rw [← hl] at hx2
  unfold maxLen at hm hm1 hm2
  have hnl : n = L.length := h.1
  have hns : n1 = s.length := hx1.1
  have hnp : n2 = l.length := hx2.1
  have HI := hide h
  have HX1 := hide hx1
  have HX2 := hide hx2
  clear h hr1 hr2 hs hl hx1 hx2
  rcases (by omega : 1048576 < n1 ∨ n1 ≤ 1048576) with b1 | b1
  · clear hnl hns hnp
    go_enter Try.func3, Try.ntmps3
    go_wp2
    go_ret
    exact ⟨rfl, bl_refl _⟩
  rcases (by omega : 1048576 < n2 ∨ n2 ≤ 1048576) with b2 | b2
  · clear hnl hns hnp
    go_enter Try.func3, Try.ntmps3
    go_wp2
    go_ret
    exact ⟨rfl, bl_refl _⟩
  rcases (by omega : (1048576 : Int) - (n : Int) < 0 ∨ 0 ≤ (1048576 : Int) - (n : Int)) with q | q
  · clear hnl hns hnp
    have SZ := fun (u : World) => szFigureS_l u a n c 1048576 (by omega) (by omega) (by omega)
    rw [if_pos q] at SZ
    have HSZ := hide SZ
    clear SZ
    go_enter Try.func3, Try.ntmps3
    go_wp2_with fail
    (with_reducible refine (HSZ.out _).mono ?_)
    rintro e w' ⟨rfl, rfl⟩
    go_wp2
    go_ret
    exact ⟨rfl, bl_refl _⟩
  have hn : n ≤ 1048576 := by omega
  have hll : L.length ≤ 1048576 := by omega
  have hl1 : s.length ≤ 1048576 := by omega
  have hl2 : l.length ≤ 1048576 := by omega
  have q' : ¬ ((1048576 : Int) - (n : Int) < 0) := by omega
  clear hnl hns hnp
  have SZ := fun (u : World) => szFigureS_l u a n c 1048576 (by omega) (by omega) (by omega)
  rw [if_neg q'] at SZ
  have HSZ := hide SZ
  clear SZ
  have CS := fun (u : World) (A B C : Option Addr) (d e f : Nat) (h1 : TL u A L.length L) (h2 : IL u B s.length s) (h3 : B = none → e = 0) (h4 : IL u C l.length l) => CheckFigures_s u A B C d e f L s l h1 h2 h3 h4 (by omega) (by omega) (by omega)
  have CI := fun (u : World) (A B C : Option Addr) (d e f : Nat) (h1 : TL u A L.length L) (h2 : IL u B s.length s) (h4 : IL u C l.length l) => CheckFigures_i u A B C d e f L s l h1 h2 h4 (by omega) (by omega) (by omega)
  obtain ⟨r, hr⟩ : ∃ r, r = ckV L s l := ⟨_, rfl⟩
  rw [← hr] at CS CI
  have HCS := hide CS
  have HCI := hide CI
  clear CS CI hr
  go_enter Try.func3, Try.ntmps3
  go_wp2_with fail
  (with_reducible refine (HSZ.out _).mono ?_)
  rintro e w' ⟨rfl, rfl⟩
  go_wp2_with fail
  (with_reducible refine (toFigureS_l _ _ _ _ L HI.out hn).mono ?_)
  rintro e u1 ⟨A1, d1, rfl, ho1, hb1⟩
  go_wp2_with fail
  (with_reducible refine (toIntS_l _ _ _ _ _ (HX1.out.below hb1) b1).mono ?_)
  rintro e u2 ⟨A2, d2, rfl, ho2, hb2⟩
  have HB2 := hide (bl_call hb2 hb1)
  have ho1 := ho1.below hb2
  go_wp2_with fail
  (with_reducible refine (toIntS_l _ _ _ _ _ (HX2.out.below HB2.out) b2).mono ?_)
  rintro e u3 ⟨A3, d3, rfl, ho3, hb3⟩
  have HB3 := hide (bl_call hb3 HB2.out)
  have ho1 := ho1.below hb3
  have ho2 := ho2.below hb3
  go_wp2_with fail
  (with_reducible refine (HCS.out _ _ _ _ _ _ _ ho1.reads ho2.reads (OL_none ho2) ho3.reads).mono ?_)
  rintro e u4 ⟨rfl, hb4⟩
  have HB4 := hide (bl_call hb4 HB3.out)
  clear ho1 ho2 ho3 hb1 hb2 hb3 hb4 HB2 HB3
  go_wp2_with fail
  (with_reducible refine (toFigureS_l _ _ _ _ L (HI.out.below HB4.out) hn).mono ?_)
  rintro e u5 ⟨A5, d5, rfl, ho5, hb5⟩
  have HB5 := hide (bl_call hb5 HB4.out)
  go_wp2_with fail
  (with_reducible refine (toIntS_l _ _ _ _ _ (HX1.out.below HB5.out) b1).mono ?_)
  rintro e u6 ⟨A6, d6, rfl, ho6, hb6⟩
  have HB6 := hide (bl_call hb6 HB5.out)
  have ho5 := ho5.below hb6
  go_wp2_with fail
  (with_reducible refine (toIntS_l _ _ _ _ _ (HX2.out.below HB6.out) b2).mono ?_)
  rintro e u7 ⟨A7, d7, rfl, ho7, hb7⟩
  have HB7 := hide (bl_call hb7 HB6.out)
  have ho5 := ho5.below hb7
  have ho6 := ho6.below hb7
  clear hb5 hb6 hb7 HB4 HB5 HB6
  go_wp2_with fail
  (with_reducible refine (HCI.out _ _ _ _ _ _ _ ho5.reads ho6.reads ho7.reads).mono ?_)
  rintro e u8 ⟨rfl, hb8⟩
  have HB8 := hide (bl_call hb8 HB7.out)
  have ho5 := ho5.below hb8
  have ho6 := ho6.below hb8
  have ho7 := ho7.below hb8
  clear hb8 HB7
  go_wp2_with fail
  (with_reducible refine (toFigureS_l _ _ _ _ L (HI.out.below HB8.out) hn).mono ?_)
  rintro e u9 ⟨A9, d9, rfl, ho9, hb9⟩
  have HB9 := hide (bl_call hb9 HB8.out)
  have ho5 := ho5.below hb9
  have ho6 := ho6.below hb9
  have ho7 := ho7.below hb9
  clear hb9 HB8
  go_wp2_with fail
  (with_reducible refine (eqFigureS_l _ _ _ _ _ _ L ho5.reads ho9.reads hll).mono ?_)
  rintro e u10 ⟨rfl, hb10⟩
  have HB10 := hide (bl_call hb10 HB9.out)
  have ho6 := ho6.below hb10
  have ho7 := ho7.below hb10
  clear hb10 HB9 ho5 ho9
  go_wp2_with fail
  (with_reducible refine (toIntS_l _ _ _ _ _ (HX1.out.below HB10.out) b1).mono ?_)
  rintro e u11 ⟨A11, d11, rfl, ho11, hb11⟩
  have HB11 := hide (bl_call hb11 HB10.out)
  have ho6 := ho6.below hb11
  have ho7 := ho7.below hb11
  clear hb11 HB10
  go_wp2_with fail
  (with_reducible refine (eqIntS_l _ _ _ _ _ _ _ _ _ ho6.reads ho11.reads (by omega) (by omega)).mono ?_)
  rintro e u12 ⟨rfl, j12, rfl⟩
  simp only [decide_true]
  have HB12 := hide (bl_drewN HB11.out j12)
  have ho7 := ho7.drewN j12
  clear ho6 ho11
  go_wp2_with fail
  (with_reducible refine (toIntS_l _ _ _ _ _ (HX2.out.below HB12.out) b2).mono ?_)
  rintro e u13 ⟨A13, d13, rfl, ho13, hb13⟩
  have HB13 := hide (bl_call hb13 HB12.out)
  have ho7 := ho7.below hb13
  clear hb13 HB12
  go_wp2_with fail
  (with_reducible refine (eqIntS_l _ _ _ _ _ _ _ _ _ ho7.reads ho13.reads (by omega) (by omega)).mono ?_)
  rintro e u14 ⟨rfl, j14, rfl⟩
  simp only [decide_true]
  go_wp2
  go_ret
  exact ⟨rfl, bl_drewN HB13.out _⟩
set_option maxRecDepth 100000 in
theorem lifted_FnExactCheckFigures (os : Os) (started : os.Started) (H : Type) (enc : TypeId × Value → H) :
    ReturnsInHanded {} Try.checked os 3 .any (Rows.fnExactCheckFiguresSpec.pre6 enc Try.prog Try.f3 Rows.fnExactCheckFiguresRow.domain false) (Rows.fnExactCheckFiguresSpec.post enc Try.prog Try.f3 false true false false) := by
  refine returnsInHanded_of_change (C := Try.checked) own_knob started (by kernel_rfl) Try.func3
    (ChangeSpec.witness6 (enc := enc) (C := Try.checked) false ⟨#[], #[.slice none 0 0, .slice none 0 0, .slice none 0 0], []⟩ 8 (by kernel_rfl) (by kernel_rfl) (by kernel_rfl) (by kernel_rfl)) ?_
  intro W base args ds gs before hval0 hW hcnd _
  have hval : ∀ (j : Nat) t v, Try.f3.params[j]? = some t → args[j]? = some v → Value.okWide Try.prog W .any base t v := hval0
  have hW' := hW
  obtain ⟨p, q, hA0, hV, rfl, hfz, hnd⟩ := hW
  have hA : DataW.TrodAll enc Try.prog W 0 (fun _ => true) true Try.f3.params.toList args.toList ds p := hA0
  rw [Try.params3] at hA hval
  obtain ⟨v0, vs0, d0, ds0, p0, q0, hargs, rfl, rfl, zh0, r0⟩ := trodAll_cons hA
  obtain ⟨v1, vs1, d1, ds1, p1, q1, rfl, rfl, rfl, zh1, r1⟩ := trodAll_cons r0
  obtain ⟨v2, vs2, d2, ds2, p2, q2, rfl, rfl, rfl, zh2, r2⟩ := trodAll_cons r1
  obtain ⟨rfl, rfl, rfl⟩ := trodAll_nil r2
  obtain rfl : args = #[v0, v1, v2] := by cases args; simp_all
  obtain ⟨rfl, rfl⟩ := trodVars_none hV
  have zk0 := zh0
  have zl0 : ∀ x ∈ p0, x.block < W.heap.size := by obtain ⟨m, hm⟩ := zk0; exact DataW.trod_lt m _ _ _ hm
  have zk1 := zh1
  have zl1 : ∀ x ∈ p1, x.block < W.heap.size := by obtain ⟨m, hm⟩ := zk1; exact DataW.trod_lt m _ _ _ hm
  have zk2 := zh2
  have zl2 : ∀ x ∈ p2, x.block < W.heap.size := by obtain ⟨m, hm⟩ := zk2; exact DataW.trod_lt m _ _ _ hm
  clear hA0 hval0
  obtain ⟨a_x, n_x, c_x, rfl⟩ := okWide_slice Try.underlying22 (hval 0 22 v0 rfl rfl)
  obtain ⟨L_x, t_x, m_x⟩ := duos_in Try.underlying22 (by kernel_rfl) (by kernel_rfl) zh0
  obtain ⟨a_s, n_s, c_s, rfl⟩ := okWide_slice Try.underlying23 (hval 1 23 v1 rfl rfl)
  obtain ⟨s, w_s⟩ := isRow_of Try.underlying23 Try.underlying3 (by kernel_rfl) zh1
  obtain ⟨a_p, n_p, c_p, rfl⟩ := okWide_slice Try.underlying23 (hval 2 23 v2 rfl rfl)
  obtain ⟨p, w_p⟩ := isRow_of Try.underlying23 Try.underlying3 (by kernel_rfl) zh2
  refine (walk_FnExactCheckFigures a_x n_x c_x L_x a_s n_s c_s s a_p n_p c_p p W t_x m_x w_s w_p).mono fun e W' ⟨he, bel⟩ => ?_
  subst he
  exact ⟨_, rfl, _, _, _, [], _, [], hW', trodAll_mk1 (shut_bool Try.underlying4 _), (trodAll_cons_mk (Below.trod laid_out (by kernel_rfl) (of_decide_eq_true (by kernel_rfl)) zk0 bel zl0) (trodAll_cons_mk (Below.trod laid_out (by kernel_rfl) (of_decide_eq_true (by kernel_rfl)) zk1 bel zl1) (trodAll_cons_mk (Below.trod laid_out (by kernel_rfl) (of_decide_eq_true (by kernel_rfl)) zk2 bel zl2) trodAll_mk0))), rfl, bel.frame _, fun h => by cases h⟩

/-- The statement. -/
theorem FnExactCheckFigures_holds : Rows.FnExactCheckFiguresSaid :=
  OpenClaim.holds_of_wide 3 Try.f3 rfl rfl rfl rfl rfl rfl rfl ⟨rfl, rfl, rfl, rfl, rfl⟩ rfl rfl rfl rfl rfl (by kernel_rfl) Try.func3 (by kernel_rfl)
    (of_decide_eq_true (by kernel_rfl)) (by unfold Func.isWrapper; first | (rw [if_pos (by decide +kernel)]; kernel_rfl) | (rw [if_neg (by decide +kernel)]; exact ⟨rfl, rfl⟩))
    (fun os started H enc _ => lifted_FnExactCheckFigures os started H enc)
set_option maxHeartbeats 4000000 in
theorem walk_FnExactTotalDelay (a : Option Addr) (n c : Nat) (L : List Du) (a1 : Option Addr) (n1 c1 : Nat) (zs1 : List Int) (a2 : Option Addr) (n2 c2 : Nat) (zs2 : List Int) (w : World) (h : TL w a n L) (hm : n ≤ maxLen) (hr1 : IsRow .i64 w a1 n1 c1 zs1) (hr2 : IsRow .i64 w a2 n2 c2 zs2) :
    Calls Try.prog 4 #[.slice a n c, .slice a1 n1 c1, .slice a2 n2 c2] w fun e w' => e = .returned (.bool true) ∧ Below w.heap.size w w' := by
  have hx1 := IL.of_row hr1
  have hx2 := IL.of_row hr2
  have hm1 := row_len hr1
  have hm2 := row_len hr2
  obtain ⟨s, hs⟩ : ∃ s, s = zs1.take n1 := ⟨_, rfl⟩
  obtain ⟨l, hl⟩ : ∃ l, l = zs2.take n2 := ⟨_, rfl⟩
  rw [← hs] at hx1
  rw [← hl] at hx2
  unfold maxLen at hm hm1 hm2
  have hnl : n = L.length := h.1
  have hns : n1 = s.length := hx1.1
  have hnp : n2 = l.length := hx2.1
  have HI := hide h
  have HX1 := hide hx1
  have HX2 := hide hx2
  clear h hr1 hr2 hs hl hx1 hx2
  rcases (by omega : 1048576 < n1 ∨ n1 ≤ 1048576) with b1 | b1
  · clear hnl hns hnp
    go_enter Try.func4, Try.ntmps4
    go_wp2
    go_ret
    exact ⟨rfl, bl_refl _⟩
  rcases (by omega : 1048576 < n2 ∨ n2 ≤ 1048576) with b2 | b2
  · clear hnl hns hnp
    go_enter Try.func4, Try.ntmps4
    go_wp2
    go_ret
    exact ⟨rfl, bl_refl _⟩
  rcases (by omega : (1048576 : Int) - (n : Int) < 0 ∨ 0 ≤ (1048576 : Int) - (n : Int)) with q | q
  · clear hnl hns hnp
    have SZ := fun (u : World) => szFigureS_l u a n c 1048576 (by omega) (by omega) (by omega)
    rw [if_pos q] at SZ
    have HSZ := hide SZ
    clear SZ
    go_enter Try.func4, Try.ntmps4
    go_wp2_with fail
    (with_reducible refine (HSZ.out _).mono ?_)
    rintro e w' ⟨rfl, rfl⟩
    go_wp2
    go_ret
    exact ⟨rfl, bl_refl _⟩
  have hn : n ≤ 1048576 := by omega
  have hll : L.length ≤ 1048576 := by omega
  have hl1 : s.length ≤ 1048576 := by omega
  have hl2 : l.length ≤ 1048576 := by omega
  have q' : ¬ ((1048576 : Int) - (n : Int) < 0) := by omega
  clear hnl hns hnp
  have SZ := fun (u : World) => szFigureS_l u a n c 1048576 (by omega) (by omega) (by omega)
  rw [if_neg q'] at SZ
  have HSZ := hide SZ
  clear SZ
  have CS := fun (u : World) (A B C : Option Addr) (d e f : Nat) (h1 : TL u A L.length L) (h2 : IL u B s.length s) (h3 : B = none → e = 0) (h4 : IL u C l.length l) => TotalDelay_s u A B C d e f L s l h1 h2 h3 h4 (by omega) (by omega) (by omega)
  have CI := fun (u : World) (A B C : Option Addr) (d e f : Nat) (h1 : TL u A L.length L) (h2 : IL u B s.length s) (h4 : IL u C l.length l) => TotalDelay_i u A B C d e f L s l h1 h2 h4 (by omega) (by omega) (by omega)
  obtain ⟨r, hr⟩ : ∃ r, r = tdV L s l := ⟨_, rfl⟩
  rw [← hr] at CS CI
  have HCS := hide CS
  have HCI := hide CI
  clear CS CI hr
  go_enter Try.func4, Try.ntmps4
  go_wp2_with fail
  (with_reducible refine (HSZ.out _).mono ?_)
  rintro e w' ⟨rfl, rfl⟩
  go_wp2_with fail
  (with_reducible refine (toFigureS_l _ _ _ _ L HI.out hn).mono ?_)
  rintro e u1 ⟨A1, d1, rfl, ho1, hb1⟩
  go_wp2_with fail
  (with_reducible refine (toIntS_l _ _ _ _ _ (HX1.out.below hb1) b1).mono ?_)
  rintro e u2 ⟨A2, d2, rfl, ho2, hb2⟩
  have HB2 := hide (bl_call hb2 hb1)
  have ho1 := ho1.below hb2
  go_wp2_with fail
  (with_reducible refine (toIntS_l _ _ _ _ _ (HX2.out.below HB2.out) b2).mono ?_)
  rintro e u3 ⟨A3, d3, rfl, ho3, hb3⟩
  have HB3 := hide (bl_call hb3 HB2.out)
  have ho1 := ho1.below hb3
  have ho2 := ho2.below hb3
  go_wp2_with fail
  (with_reducible refine (HCS.out _ _ _ _ _ _ _ ho1.reads ho2.reads (OL_none ho2) ho3.reads).mono ?_)
  rintro e u4 ⟨rfl, hb4⟩
  have HB4 := hide (bl_call hb4 HB3.out)
  clear ho1 ho2 ho3 hb1 hb2 hb3 hb4 HB2 HB3
  go_wp2_with fail
  (with_reducible refine (toFigureS_l _ _ _ _ L (HI.out.below HB4.out) hn).mono ?_)
  rintro e u5 ⟨A5, d5, rfl, ho5, hb5⟩
  have HB5 := hide (bl_call hb5 HB4.out)
  go_wp2_with fail
  (with_reducible refine (toIntS_l _ _ _ _ _ (HX1.out.below HB5.out) b1).mono ?_)
  rintro e u6 ⟨A6, d6, rfl, ho6, hb6⟩
  have HB6 := hide (bl_call hb6 HB5.out)
  have ho5 := ho5.below hb6
  go_wp2_with fail
  (with_reducible refine (toIntS_l _ _ _ _ _ (HX2.out.below HB6.out) b2).mono ?_)
  rintro e u7 ⟨A7, d7, rfl, ho7, hb7⟩
  have HB7 := hide (bl_call hb7 HB6.out)
  have ho5 := ho5.below hb7
  have ho6 := ho6.below hb7
  clear hb5 hb6 hb7 HB4 HB5 HB6
  go_wp2_with fail
  (with_reducible refine (HCI.out _ _ _ _ _ _ _ ho5.reads ho6.reads ho7.reads).mono ?_)
  rintro e u8 ⟨rfl, hb8⟩
  have HB8 := hide (bl_call hb8 HB7.out)
  have ho5 := ho5.below hb8
  have ho6 := ho6.below hb8
  have ho7 := ho7.below hb8
  clear hb8 HB7
  go_wp2_with fail
  (with_reducible refine (toFigureS_l _ _ _ _ L (HI.out.below HB8.out) hn).mono ?_)
  rintro e u9 ⟨A9, d9, rfl, ho9, hb9⟩
  have HB9 := hide (bl_call hb9 HB8.out)
  have ho5 := ho5.below hb9
  have ho6 := ho6.below hb9
  have ho7 := ho7.below hb9
  clear hb9 HB8
  go_wp2_with fail
  (with_reducible refine (eqFigureS_l _ _ _ _ _ _ L ho5.reads ho9.reads hll).mono ?_)
  rintro e u10 ⟨rfl, hb10⟩
  have HB10 := hide (bl_call hb10 HB9.out)
  have ho6 := ho6.below hb10
  have ho7 := ho7.below hb10
  clear hb10 HB9 ho5 ho9
  go_wp2_with fail
  (with_reducible refine (toIntS_l _ _ _ _ _ (HX1.out.below HB10.out) b1).mono ?_)
  rintro e u11 ⟨A11, d11, rfl, ho11, hb11⟩
  have HB11 := hide (bl_call hb11 HB10.out)
  have ho6 := ho6.below hb11
  have ho7 := ho7.below hb11
  clear hb11 HB10
  go_wp2_with fail
  (with_reducible refine (eqIntS_l _ _ _ _ _ _ _ _ _ ho6.reads ho11.reads (by omega) (by omega)).mono ?_)
  rintro e u12 ⟨rfl, j12, rfl⟩
  simp only [decide_true]
  have HB12 := hide (bl_drewN HB11.out j12)
  have ho7 := ho7.drewN j12
  clear ho6 ho11
  go_wp2_with fail
  (with_reducible refine (toIntS_l _ _ _ _ _ (HX2.out.below HB12.out) b2).mono ?_)
  rintro e u13 ⟨A13, d13, rfl, ho13, hb13⟩
  have HB13 := hide (bl_call hb13 HB12.out)
  have ho7 := ho7.below hb13
  clear hb13 HB12
  go_wp2_with fail
  (with_reducible refine (eqIntS_l _ _ _ _ _ _ _ _ _ ho7.reads ho13.reads (by omega) (by omega)).mono ?_)
  rintro e u14 ⟨rfl, j14, rfl⟩
  simp only [decide_true]
  go_wp2
  go_ret
  exact ⟨rfl, bl_drewN HB13.out _⟩
set_option maxRecDepth 100000 in
theorem lifted_FnExactTotalDelay (os : Os) (started : os.Started) (H : Type) (enc : TypeId × Value → H) :
    ReturnsInHanded {} Try.checked os 4 .any (Rows.fnExactTotalDelaySpec.pre6 enc Try.prog Try.f4 Rows.fnExactTotalDelayRow.domain false) (Rows.fnExactTotalDelaySpec.post enc Try.prog Try.f4 false true false false) := by
  refine returnsInHanded_of_change (C := Try.checked) own_knob started (by kernel_rfl) Try.func4
    (ChangeSpec.witness6 (enc := enc) (C := Try.checked) false ⟨#[], #[.slice none 0 0, .slice none 0 0, .slice none 0 0], []⟩ 8 (by kernel_rfl) (by kernel_rfl) (by kernel_rfl) (by kernel_rfl)) ?_
  intro W base args ds gs before hval0 hW hcnd _
  have hval : ∀ (j : Nat) t v, Try.f4.params[j]? = some t → args[j]? = some v → Value.okWide Try.prog W .any base t v := hval0
  have hW' := hW
  obtain ⟨p, q, hA0, hV, rfl, hfz, hnd⟩ := hW
  have hA : DataW.TrodAll enc Try.prog W 0 (fun _ => true) true Try.f4.params.toList args.toList ds p := hA0
  rw [Try.params4] at hA hval
  obtain ⟨v0, vs0, d0, ds0, p0, q0, hargs, rfl, rfl, zh0, r0⟩ := trodAll_cons hA
  obtain ⟨v1, vs1, d1, ds1, p1, q1, rfl, rfl, rfl, zh1, r1⟩ := trodAll_cons r0
  obtain ⟨v2, vs2, d2, ds2, p2, q2, rfl, rfl, rfl, zh2, r2⟩ := trodAll_cons r1
  obtain ⟨rfl, rfl, rfl⟩ := trodAll_nil r2
  obtain rfl : args = #[v0, v1, v2] := by cases args; simp_all
  obtain ⟨rfl, rfl⟩ := trodVars_none hV
  have zk0 := zh0
  have zl0 : ∀ x ∈ p0, x.block < W.heap.size := by obtain ⟨m, hm⟩ := zk0; exact DataW.trod_lt m _ _ _ hm
  have zk1 := zh1
  have zl1 : ∀ x ∈ p1, x.block < W.heap.size := by obtain ⟨m, hm⟩ := zk1; exact DataW.trod_lt m _ _ _ hm
  have zk2 := zh2
  have zl2 : ∀ x ∈ p2, x.block < W.heap.size := by obtain ⟨m, hm⟩ := zk2; exact DataW.trod_lt m _ _ _ hm
  clear hA0 hval0
  obtain ⟨a_x, n_x, c_x, rfl⟩ := okWide_slice Try.underlying22 (hval 0 22 v0 rfl rfl)
  obtain ⟨L_x, t_x, m_x⟩ := duos_in Try.underlying22 (by kernel_rfl) (by kernel_rfl) zh0
  obtain ⟨a_s, n_s, c_s, rfl⟩ := okWide_slice Try.underlying23 (hval 1 23 v1 rfl rfl)
  obtain ⟨s, w_s⟩ := isRow_of Try.underlying23 Try.underlying3 (by kernel_rfl) zh1
  obtain ⟨a_p, n_p, c_p, rfl⟩ := okWide_slice Try.underlying23 (hval 2 23 v2 rfl rfl)
  obtain ⟨p, w_p⟩ := isRow_of Try.underlying23 Try.underlying3 (by kernel_rfl) zh2
  refine (walk_FnExactTotalDelay a_x n_x c_x L_x a_s n_s c_s s a_p n_p c_p p W t_x m_x w_s w_p).mono fun e W' ⟨he, bel⟩ => ?_
  subst he
  exact ⟨_, rfl, _, _, _, [], _, [], hW', trodAll_mk1 (shut_bool Try.underlying4 _), (trodAll_cons_mk (Below.trod laid_out (by kernel_rfl) (of_decide_eq_true (by kernel_rfl)) zk0 bel zl0) (trodAll_cons_mk (Below.trod laid_out (by kernel_rfl) (of_decide_eq_true (by kernel_rfl)) zk1 bel zl1) (trodAll_cons_mk (Below.trod laid_out (by kernel_rfl) (of_decide_eq_true (by kernel_rfl)) zk2 bel zl2) trodAll_mk0))), rfl, bel.frame _, fun h => by cases h⟩

/-- The statement. -/
theorem FnExactTotalDelay_holds : Rows.FnExactTotalDelaySaid :=
  OpenClaim.holds_of_wide 4 Try.f4 rfl rfl rfl rfl rfl rfl rfl ⟨rfl, rfl, rfl, rfl, rfl⟩ rfl rfl rfl rfl rfl (by kernel_rfl) Try.func4 (by kernel_rfl)
    (of_decide_eq_true (by kernel_rfl)) (by unfold Func.isWrapper; first | (rw [if_pos (by decide +kernel)]; kernel_rfl) | (rw [if_neg (by decide +kernel)]; exact ⟨rfl, rfl⟩))
    (fun os started H enc _ => lifted_FnExactTotalDelay os started H enc)
end Go.Proofs.Ytofcbhphjghkaac
