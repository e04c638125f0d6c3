/- The exact law on SetLine holds at every input: it answers as its model does, writes into no argument, and what it returns is its own. No condition. -/
import Derived.Test.YtafddofajfcffaaQa
import Derived.Test.YtafddofajfcffaaSl
import Derived.Test.YtafddofajfcffaaSlS
namespace Go.Proofs.Ytafddofajfcffaa
open Go.ChangeShapes Go.WideShapes Go.ChangeAt Go.RowKit
set_option linter.unusedVariables false

set_option maxHeartbeats 2000000 in
theorem walk_FnExactSetLine (a : Option Addr) (n c : Nat) (L : List It) (a0 b0 d0 : Int) (w : World) (h : TL w a n L) (hm : n ≤ maxLen) (wf_a0 : (Lit.int .i64 a0).wf = true) (wf_b0 : (Lit.int .i64 b0).wf = true) (wf_d0 : (Lit.int .i64 d0).wf = true) :
    Calls Try.prog 3 #[.slice a n c, .int .i64 a0, .int .i64 b0, .int .i64 d0] w fun e w' => e = .returned (.bool true) ∧ Below w.heap.size w w' := by
  have a0' : -9223372036854775808 ≤ a0 ∧ a0 ≤ 9223372036854775807 := wf_bd wf_a0
  have b0' : -9223372036854775808 ≤ b0 ∧ b0 ≤ 9223372036854775807 := wf_bd wf_b0
  clear wf_a0 wf_b0 wf_d0
  unfold maxLen at hm
  have hnl : n = L.length := h.1
  have HI := hide h
  clear h
  rcases (by omega : (1048576 : Int) - (n : Int) < 0 ∨ 0 ≤ (1048576 : Int) - (n : Int)) with q | q
  · clear hnl
    have SZ := fun (u : World) => szItemS_l u a n c 1048576 (by omega) (by omega) (by omega)
    rw [if_pos q] at SZ
    have HSZ := hide SZ
    clear SZ
    go_enter Try.func3, Try.ntmps3
    go_wp2_with fail
    (with_reducible refine (HSZ.out _).mono ?_)
    rintro e w' ⟨rfl, rfl⟩
    go_wp2
    go_ret
    exact ⟨rfl, bl_refl _⟩
  have hn : n ≤ 1048576 := by omega
  have hll : L.length ≤ 1048576 := by omega
  have q' : ¬ ((1048576 : Int) - (n : Int) < 0) := by omega
  clear hnl
  have SZ := fun (u : World) => szItemS_l u a n c 1048576 (by omega) (by omega) (by omega)
  rw [if_neg q'] at SZ
  have HSZ := hide SZ
  clear SZ
  have hlen := setO_len L a0 b0 d0
  have CS := fun (u : World) (A : Option Addr) (d : Nat) (h : TL u A L.length L) => SetLine_s u A L.length d L h (by omega) a0 b0 d0 a0' b0'
  have CI := fun (u : World) (A : Option Addr) (d : Nat) (h : TL u A L.length L) => SetLine_i u A L.length d L h (by omega) a0 b0 d0 a0' b0'
  unfold RetL at CS CI
  obtain ⟨R, hR⟩ : ∃ R, R = setO L a0 b0 d0 := ⟨_, rfl⟩
  rw [← hR] at CS CI hlen
  have HCS := hide CS
  have HCI := hide CI
  clear CS CI hR a0' b0'
  go_enter Try.func3, Try.ntmps3
  go_wp2_with fail
  (with_reducible refine (HSZ.out _).mono ?_)
  rintro e w' ⟨rfl, rfl⟩
  go_wp2_with fail
  (with_reducible refine (toItemS_l _ _ _ _ L HI.out hn).mono ?_)
  rintro e u1 ⟨A1, c1, rfl, ho1, hb1⟩
  go_wp2_with fail
  (with_reducible refine (HCS.out _ _ _ ho1.reads).mono ?_)
  rintro e u2 ⟨A2, c2, rfl, ho2, hb2⟩
  have HB2 := hide (bl_call hb2 hb1)
  have L2 := hide ho2.own_lt
  clear ho1 hb1 hb2
  go_wp2_with fail
  (with_reducible refine (toItemS_l _ _ _ _ L (HI.out.below HB2.out) hn).mono ?_)
  rintro e u3 ⟨A3, c3, rfl, ho3, hb3⟩
  have L3 := hide ho3.own_lt
  have ho2 := ho2.below hb3
  have hz3 := hb3.size
  go_wp2_with fail
  (with_reducible refine (HCI.out _ _ _ ho3.reads).mono ?_)
  rintro e u4 ⟨A4, c4, rfl, ho4, hb4⟩
  have L4 := hide ho4.own_lt
  have ho2 := ho2.below hb4
  have ho3 := ho3.below hb4
  have hz4 := hb4.size
  have HB24 := hide (bl_call hb4 hb3)
  have W34 : Hid (∀ k, (Value.slice A4 R.length c4).ownBlock = some k → (Value.slice A3 L.length c3).ownBlock ≠ some k) := hide (fun k h1 h2 => by
    have a := (L4.out k h1).1
    have b := (L3.out k h2).2
    omega)
  have W32 : Hid (∀ k, (Value.slice A2 R.length c2).ownBlock = some k → (Value.slice A3 L.length c3).ownBlock ≠ some k) := hide (fun k h1 h2 => by
    have a := (L2.out k h1).2
    have b := (L3.out k h2).1
    omega)
  have W24 : Hid (∀ k, (Value.slice A2 R.length c2).ownBlock = some k → (Value.slice A4 R.length c4).ownBlock ≠ some k) := hide (fun k h1 h2 => by
    have a := (L2.out k h1).2
    have b := (L4.out k h2).1
    omega)
  clear hb3 hb4
  go_wp2_with fail
  (with_reducible refine (eqIntS_l _ _ _ _ _ _ _ R R ho4.reads ho2.reads (by omega) (by omega)).mono ?_)
  rintro e w' ⟨rfl, j5, rfl⟩
  simp only [decide_true]
  go_wp2_with fail
  (with_reducible refine (toItemS_l _ _ _ _ L (HI.out.below (bl_drewN (bl_call HB24.out HB2.out) j5)) hn).mono ?_)
  rintro e u5 ⟨A5, c5, rfl, ho5, hb5⟩
  have ho2 := (ho2.drewN j5).below hb5
  have ho3 := (ho3.drewN j5).below hb5
  have ho4 := (ho4.drewN j5).below hb5
  go_wp2_with fail
  (with_reducible refine (eqItemS_l _ _ _ _ _ _ L ho3.reads ho5.reads hll).mono ?_)
  rintro e u6 ⟨rfl, hb6⟩
  have HB26 := hide (bl_call hb6 (bl_call hb5 (bl_drewN HB24.out j5)))
  have ho2 := ho2.below hb6
  have ho3 := ho3.below hb6
  have ho4 := ho4.below hb6
  clear hb5 hb6 ho5
  go_wp2_with fail
  (with_reducible refine (markItemS_l _ _ _ _ _ L 1 ho3 (by omega) (by omega) (by omega)).mono ?_)
  rintro e u7 ⟨rfl, hg7⟩
  have HB27 := hide (HB26.out.grown hg7 HB26.out.size (fun k hk => (L3.out k hk).1))
  have ho2 := ho2.kept hg7 (fun k h1 h2 => W32.out k h1 h2)
  have ho4 := ho4.kept hg7 (fun k h1 h2 => W34.out k h1 h2)
  have kz : ¬ ((1 : Int) + 6 * (L.length : Int) < 0) := by omega
  clear hg7 ho3
  go_wp2_with fail
  (with_reducible refine (eqIntS_l _ _ _ _ _ _ _ R R ho4.reads ho2.reads (by omega) (by omega)).mono ?_)
  rintro e w' ⟨rfl, j8, rfl⟩
  simp only [decide_true]
  go_wp2_with fail
  (with_reducible refine (markIntS_l _ _ _ _ _ R 1 (ho4.drewN j8) (by omega) (by omega) (by omega)).mono ?_)
  rintro e u8 ⟨rfl, ho8, hg8⟩
  have HB28 := hide ((bl_drewN HB27.out j8).grown hg8 HB27.out.size (fun k hk => by have := (L4.out k hk).1; omega))
  have ho2 := (ho2.drewN j8).kept hg8 (fun k h1 h2 => W24.out k h1 h2)
  have hr8 := ho8.reads
  rw [upto_len] at hr8
  have HR8 := hide hr8
  clear hg8 ho8 hr8 ho4
  go_wp2_with fail
  (with_reducible refine (heldIntS_l _ _ _ _ 1 HR8.out (by omega) (by omega) (by omega)).mono ?_)
  rintro e w' ⟨rfl, rfl⟩
  go_wp2_with fail
  (with_reducible refine (toItemS_l _ _ _ _ L (HI.out.below (bl_call HB28.out HB2.out)) hn).mono ?_)
  rintro e u9 ⟨A9, c9, rfl, ho9, hb9⟩
  go_wp2_with fail
  (with_reducible refine (HCI.out _ _ _ ho9.reads).mono ?_)
  rintro e u10 ⟨A10, c10, rfl, ho10, hb10⟩
  have ho2 := (ho2.below hb9).below hb10
  have hr10 := (HR8.out.below hb9).below hb10
  go_wp2_with fail
  (with_reducible refine (eqIntS_l _ _ _ _ _ _ _ R R ho10.reads ho2.reads (by omega) (by omega)).mono ?_)
  rintro e w' ⟨rfl, j11, rfl⟩
  simp only [decide_true]
  go_wp2_with fail
  (with_reducible refine (heldIntS_l _ _ _ _ 1 (hr10.drewN j11) (by omega) (by omega) (by omega)).mono ?_)
  rintro e w' ⟨rfl, rfl⟩
  go_wp2
  go_ret
  exact ⟨rfl, bl_drewN (bl_call hb10 (bl_call hb9 (bl_call HB28.out HB2.out))) _⟩
set_option maxRecDepth 100000 in
theorem lifted_FnExactSetLine (os : Os) (started : os.Started) (H : Type) (enc : TypeId × Value → H) :
    ReturnsInHanded {} Try.checked os 3 .any (Rows.fnExactSetLineSpec.pre6 enc Try.prog Try.f3 Rows.fnExactSetLineRow.domain false) (Rows.fnExactSetLineSpec.post enc Try.prog Try.f3 false true false false) := by
  refine returnsInHanded_of_change (C := Try.checked) own_knob started (by kernel_rfl) Try.func3
    (ChangeSpec.witness6 (enc := enc) (C := Try.checked) false ⟨#[], #[.slice none 0 0, .int .i64 0, .int .i64 0, .int .i64 0], []⟩ 8 (by kernel_rfl) (by kernel_rfl) (by kernel_rfl) (by kernel_rfl)) ?_
  intro W base args ds gs before hval0 hW hcnd _
  have hval : ∀ (j : Nat) t v, Try.f3.params[j]? = some t → args[j]? = some v → Value.okWide Try.prog W .any base t v := hval0
  have hW' := hW
  obtain ⟨p, q, hA0, hV, rfl, hfz, hnd⟩ := hW
  have hA : DataW.TrodAll enc Try.prog W 0 (fun _ => true) true Try.f3.params.toList args.toList ds p := hA0
  rw [Try.params3] at hA hval
  obtain ⟨v0, vs0, d0, ds0, p0, q0, hargs, rfl, rfl, zh0, r0⟩ := trodAll_cons hA
  obtain ⟨v1, vs1, d1, ds1, p1, q1, rfl, rfl, rfl, zh1, r1⟩ := trodAll_cons r0
  obtain ⟨v2, vs2, d2, ds2, p2, q2, rfl, rfl, rfl, zh2, r2⟩ := trodAll_cons r1
  obtain ⟨v3, vs3, d3, ds3, p3, q3, rfl, rfl, rfl, zh3, r3⟩ := trodAll_cons r2
  obtain ⟨rfl, rfl, rfl⟩ := trodAll_nil r3
  obtain rfl : args = #[v0, v1, v2, v3] := by cases args; simp_all
  obtain ⟨rfl, rfl⟩ := trodVars_none hV
  have zk0 := zh0
  have zl0 : ∀ x ∈ p0, x.block < W.heap.size := by obtain ⟨m, hm⟩ := zk0; exact DataW.trod_lt m _ _ _ hm
  have zk1 := zh1
  have zl1 : ∀ x ∈ p1, x.block < W.heap.size := by obtain ⟨m, hm⟩ := zk1; exact DataW.trod_lt m _ _ _ hm
  have zk2 := zh2
  have zl2 : ∀ x ∈ p2, x.block < W.heap.size := by obtain ⟨m, hm⟩ := zk2; exact DataW.trod_lt m _ _ _ hm
  have zk3 := zh3
  have zl3 : ∀ x ∈ p3, x.block < W.heap.size := by obtain ⟨m, hm⟩ := zk3; exact DataW.trod_lt m _ _ _ hm
  clear hA0 hval0
  obtain ⟨a_a, n_a, c_a, rfl⟩ := okWide_slice Try.underlying22 (hval 0 22 v0 rfl rfl)
  obtain ⟨L_a, t_a, m_a, _⟩ := items_in Try.underlying22 (by kernel_rfl) (by kernel_rfl) zh0
  obtain ⟨x, rfl, rfl, rfl, w_x⟩ := open_int Try.underlying3 (hval 1 3 v1 rfl rfl) zh1
  obtain ⟨y, rfl, rfl, rfl, w_y⟩ := open_int Try.underlying3 (hval 2 3 v2 rfl rfl) zh2
  obtain ⟨z, rfl, rfl, rfl, w_z⟩ := open_int Try.underlying3 (hval 3 3 v3 rfl rfl) zh3
  refine (walk_FnExactSetLine a_a n_a c_a L_a x y z W t_a m_a w_x w_y w_z).mono fun e W' ⟨he, bel⟩ => ?_
  subst he
  exact ⟨_, rfl, _, _, _, [], _, [], hW', trodAll_mk1 (shut_bool Try.underlying4 _), (trodAll_cons_mk (Below.trod laid_out (by kernel_rfl) (of_decide_eq_true (by kernel_rfl)) zk0 bel zl0) (trodAll_cons_mk (Below.trod laid_out (by kernel_rfl) (of_decide_eq_true (by kernel_rfl)) zk1 bel zl1) (trodAll_cons_mk (Below.trod laid_out (by kernel_rfl) (of_decide_eq_true (by kernel_rfl)) zk2 bel zl2) (trodAll_cons_mk (Below.trod laid_out (by kernel_rfl) (of_decide_eq_true (by kernel_rfl)) zk3 bel zl3) trodAll_mk0)))), rfl, bel.frame _, fun h => by cases h⟩

/-- The statement. -/
theorem FnExactSetLine_holds : Rows.FnExactSetLineSaid :=
  OpenClaim.holds_of_wide 3 Try.f3 rfl rfl rfl rfl rfl rfl rfl ⟨rfl, rfl, rfl, rfl, rfl⟩ rfl rfl rfl rfl rfl (by kernel_rfl) Try.func3 (by unfold joinedFacts; rw [may_enter, lifts_final, make_cut]; kernel_rfl)
    (of_decide_eq_true (by kernel_rfl)) (by unfold Func.isWrapper; first | (rw [if_pos (by decide +kernel)]; kernel_rfl) | (rw [if_neg (by decide +kernel)]; exact ⟨rfl, rfl⟩))
    (fun os started H enc _ => lifted_FnExactSetLine os started H enc)
end Go.Proofs.Ytafddofajfcffaa
