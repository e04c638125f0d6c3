/- The exact law on BestBreaks holds at every input: it answers as its model does, writes into no argument, and what it returns is its own. No condition. -/
import Derived.Test.YtafddofajfcffaaQa
import Derived.Test.YtafddofajfcffaaQh
namespace Go.Proofs.Ytafddofajfcffaa
open Go.ChangeShapes Go.WideShapes Go.ChangeAt Go.RowKit
set_option linter.unusedVariables false

theorem bl_markBb {w u v : World} {B j : Nat} {x : Option Nat} (h : ∀ k, x = some k → B ≤ k) (hb : Below w.heap.size w u) (hB : w.heap.size ≤ B) (hg : (u.drewN j).grownBy v x) : Below w.heap.size w v :=
  (bl_drewN hb j).grown hg hb.size (fun k hk => Nat.le_trans hB (h k hk))
set_option maxHeartbeats 4000000 in
theorem walk_FnExactBestBreaks (a : Option Addr) (n c : Nat) (L : List It) (m tt : Int) (w : World) (h : TL w a n L) (hm : n ≤ maxLen) (_ : (Lit.int .i64 m).wf = true) (_ : (Lit.int .i64 tt).wf = true) :
    Calls Try.prog 10 #[.slice a n c, .int .i64 m, .int .i64 tt] w fun e w' => e = .returned (.bool true) ∧ Below w.heap.size w w' := by
  unfold maxLen at hm
  have hnl : n = L.length := h.1
  have HI := hide h
  clear h
  rcases (by omega : (1048576 : Int) - (n : Int) < 0 ∨ 0 ≤ (1048576 : Int) - (n : Int)) with q | q
  · clear hnl
    have SZ := fun (u : World) => szItemS_l u a n c 1048576 (by omega) (by omega) (by omega)
    rw [if_pos q] at SZ
    have HSZ := hide SZ
    clear SZ
    go_enter Try.func10, Try.ntmps10
    go_wp2_with fail
    (with_reducible refine (HSZ.out _).mono ?_)
    rintro e w' ⟨rfl, rfl⟩
    go_wp2
    go_ret
    exact ⟨rfl, bl_refl _⟩
  have hn : n ≤ 1048576 := by omega
  have hll : L.length ≤ 1048576 := by omega
  have q' : ¬ ((1048576 : Int) - (n : Int) < 0) := by omega
  clear hnl
  have SZ := fun (u : World) => szItemS_l u a n c 1048576 (by omega) (by omega) (by omega)
  rw [if_neg q'] at SZ
  have HSZ := hide SZ
  clear SZ
  have CS := fun (u : World) (A : Option Addr) (d : Nat) (h1 : TL u A L.length L) => BestBreaks_s u A L.length d L m tt h1 (by omega)
  have CI := fun (u : World) (A : Option Addr) (d : Nat) (h1 : TL u A L.length L) => BestBreaks_i u A L.length d L m tt h1 (by omega)
  have PL := (bbV_len (L := L) (d := m) (t := tt)).1
  unfold RetW at CS CI
  obtain ⟨V, hV⟩ : ∃ V, V = bbV L m tt := ⟨_, rfl⟩
  rw [← hV] at CS CI PL
  obtain ⟨R, y, t⟩ := V
  simp only at CS CI PL
  have HCS := hide CS
  have HCI := hide CI
  clear CS CI hV
  go_enter Try.func10, Try.ntmps10
  go_wp2_with fail
  (with_reducible refine (HSZ.out _).mono ?_)
  rintro e w' ⟨rfl, rfl⟩
  go_wp2_with fail
  (with_reducible refine (toItemS_l _ _ _ _ L HI.out hn).mono ?_)
  rintro e u1 ⟨A1, d1, rfl, ho1, hb1⟩
  go_wp2_with fail
  (with_reducible refine (HCS.out _ _ _ ho1.reads).mono ?_)
  rintro e u3 ⟨A3, d3, rfl, ho3, hb3⟩
  have HB3 := hide (bl_call hb3 hb1)
  have SZ3 := HB3.out.size
  clear ho1 hb1 hb3
  go_wp2_with fail
  (with_reducible refine (toItemS_l _ _ _ _ L (HI.out.below HB3.out) hn).mono ?_)
  rintro e u4 ⟨A4, d4, rfl, ho4, hb4⟩
  have L34 := hide (fun k h => (ho3.own_lt k h).2)
  have L4 := hide (fun k h => (TO.own_lt ho4 k h).1)
  have L4' := hide (fun k h => (TO.own_lt ho4 k h).2)
  have ho3 := ho3.below hb4
  have HB4 := hide (bl_call hb4 HB3.out)
  have SZ4 := HB4.out.size
  have S34 := hb4.size
  clear hb4
  go_wp2_with fail
  (with_reducible refine (HCI.out _ _ _ ho4.reads).mono ?_)
  rintro e u6 ⟨A6, d6, rfl, ho6, hb6⟩
  have L6 := hide (fun k h => (ho6.own_lt k h).1)
  have ho3 := ho3.below hb6
  have ho4 := ho4.below hb6
  have HB6 := hide (bl_call hb6 HB4.out)
  clear hb6
  go_wp2_with fail
  (with_reducible refine (eqIntS_l _ _ _ _ _ _ _ R R ho6.reads ho3.reads (by omega) (by omega)).mono ?_)
  rintro e u7 ⟨rfl, j7, rfl⟩
  simp only [decide_true]
  have HB7 := hide (bl_drewN HB6.out j7)
  go_wp2_with fail
  (with_reducible refine (toItemS_l _ _ _ _ L (HI.out.below HB7.out) hn).mono ?_)
  rintro e u8 ⟨A8, d8, rfl, ho8, hb8⟩
  have ho3 := (ho3.drewN j7).below hb8
  have ho4 := (TO.drewN ho4 j7).below hb8
  have ho6 := (ho6.drewN j7).below hb8
  have HB8 := hide (bl_call hb8 HB7.out)
  clear hb8 HB7
  go_wp2_with fail
  (with_reducible refine (eqItemS_l _ _ _ _ _ _ L ho4.reads ho8.reads hll).mono ?_)
  rintro e u9 ⟨rfl, hb9⟩
  have ho3 := ho3.below hb9
  have ho4 := ho4.below hb9
  have ho6 := ho6.below hb9
  have HB9 := hide (bl_call hb9 HB8.out)
  clear hb9 ho8 HB8
  go_wp2_with fail
  (with_reducible refine (markItemS_l _ _ _ _ _ L 1 ho4 (by omega) (by omega) (by omega)).mono ?_)
  rintro e u12 ⟨rfl, hg12⟩
  have ho3 := ho3.kept hg12 (fun k h1 h2 => by have := L34.out k h1; have := L4.out k h2; omega)
  have ho6 := ho6.kept hg12 (fun k h1 h2 => by have := L6.out k h1; have := L4'.out k h2; omega)
  have HB12 := hide (bl_markBb (j := 0) L4.out HB9.out SZ3 hg12)
  clear ho4 hg12 HB9
  have kz : decide ((1 : Int) + 3 * (L.length : Int) < 0) = false := decide_eq_false (by omega)
  have kz' : ¬ ((1 : Int) + 3 * (L.length : Int) < 0) := by omega
  go_wp2_with fail
  (with_reducible refine (eqIntS_l _ _ _ _ _ _ _ R R ho6.reads ho3.reads (by omega) (by omega)).mono ?_)
  rintro e u14 ⟨rfl, j14, rfl⟩
  simp only [decide_true]
  go_wp2_with fail
  (with_reducible refine (markIntS_l _ _ _ _ _ R 1 (ho6.drewN j14) (by omega) (by omega) (by omega)).mono ?_)
  rintro e u15 ⟨rfl, ho15, hg15⟩
  have ho3 := (ho3.drewN j14).kept hg15 (fun k h1 h2 => by have := L34.out k h1; have := L6.out k h2; omega)
  have HB15 := hide (bl_markBb L6.out HB12.out (by omega) hg15)
  have hr15 := ho15.reads
  rw [upto_len] at hr15
  have HR15 := hide hr15
  clear ho6 hg15 HB12 hr15 ho15
  go_wp2_with fail
  (with_reducible refine (heldIntS_l _ _ _ _ 1 HR15.out (by omega) (by omega) (by omega)).mono ?_)
  rintro e w' ⟨rfl, rfl⟩
  go_wp2_with fail
  (with_reducible refine (toItemS_l _ _ _ _ L (HI.out.below HB15.out) hn).mono ?_)
  rintro e u16 ⟨A16, d16, rfl, ho16, hb16⟩
  have ho3 := ho3.below hb16
  have HR16 := hide (HR15.out.below hb16)
  have HB16 := hide (bl_call hb16 HB15.out)
  clear hb16 HB15
  go_wp2_with fail
  (with_reducible refine (HCI.out _ _ _ ho16.reads).mono ?_)
  rintro e u18 ⟨A18, d18, rfl, ho18, hb18⟩
  have ho3 := ho3.below hb18
  have HR18 := hide (HR16.out.below hb18)
  have HB18 := hide (bl_call hb18 HB16.out)
  clear hb18 HB16 ho16
  go_wp2_with fail
  (with_reducible refine (eqIntS_l _ _ _ _ _ _ _ R R ho18.reads ho3.reads (by omega) (by omega)).mono ?_)
  rintro e u19 ⟨rfl, j19, rfl⟩
  simp only [decide_true]
  go_wp2_with fail
  (with_reducible refine (heldIntS_l _ _ _ _ 1 (HR18.out.drewN j19) (by omega) (by omega) (by omega)).mono ?_)
  rintro e w' ⟨rfl, rfl⟩
  go_wp2
  go_ret
  exact ⟨rfl, bl_drewN HB18.out _⟩
set_option maxRecDepth 100000 in
theorem lifted_FnExactBestBreaks (os : Os) (started : os.Started) (H : Type) (enc : TypeId × Value → H) :
    ReturnsInHanded {} Try.checked os 10 .any (Rows.fnExactBestBreaksSpec.pre6 enc Try.prog Try.f10 Rows.fnExactBestBreaksRow.domain false) (Rows.fnExactBestBreaksSpec.post enc Try.prog Try.f10 false true false false) := by
  refine returnsInHanded_of_change (C := Try.checked) own_knob started (by kernel_rfl) Try.func10
    (ChangeSpec.witness6 (enc := enc) (C := Try.checked) false ⟨#[], #[.slice none 0 0, .int .i64 0, .int .i64 0], []⟩ 8 (by kernel_rfl) (by kernel_rfl) (by kernel_rfl) (by kernel_rfl)) ?_
  intro W base args ds gs before hval0 hW hcnd _
  have hval : ∀ (j : Nat) t v, Try.f10.params[j]? = some t → args[j]? = some v → Value.okWide Try.prog W .any base t v := hval0
  have hW' := hW
  obtain ⟨p, q, hA0, hV, rfl, hfz, hnd⟩ := hW
  have hA : DataW.TrodAll enc Try.prog W 0 (fun _ => true) true Try.f10.params.toList args.toList ds p := hA0
  rw [Try.params10] at hA hval
  obtain ⟨v0, vs0, d0, ds0, p0, q0, hargs, rfl, rfl, zh0, r0⟩ := trodAll_cons hA
  obtain ⟨v1, vs1, d1, ds1, p1, q1, rfl, rfl, rfl, zh1, r1⟩ := trodAll_cons r0
  obtain ⟨v2, vs2, d2, ds2, p2, q2, rfl, rfl, rfl, zh2, r2⟩ := trodAll_cons r1
  obtain ⟨rfl, rfl, rfl⟩ := trodAll_nil r2
  obtain rfl : args = #[v0, v1, v2] := by cases args; simp_all
  obtain ⟨rfl, rfl⟩ := trodVars_none hV
  have zk0 := zh0
  have zl0 : ∀ x ∈ p0, x.block < W.heap.size := by obtain ⟨m, hm⟩ := zk0; exact DataW.trod_lt m _ _ _ hm
  have zk1 := zh1
  have zl1 : ∀ x ∈ p1, x.block < W.heap.size := by obtain ⟨m, hm⟩ := zk1; exact DataW.trod_lt m _ _ _ hm
  have zk2 := zh2
  have zl2 : ∀ x ∈ p2, x.block < W.heap.size := by obtain ⟨m, hm⟩ := zk2; exact DataW.trod_lt m _ _ _ hm
  clear hA0 hval0
  obtain ⟨a_x, n_x, c_x, rfl⟩ := okWide_slice Try.underlying22 (hval 0 22 v0 rfl rfl)
  obtain ⟨L_x, t_x, m_x, _⟩ := items_in Try.underlying22 (by kernel_rfl) (by kernel_rfl) zh0
  obtain ⟨m, rfl, rfl, rfl, w_m⟩ := open_int Try.underlying3 (hval 1 3 v1 rfl rfl) zh1
  obtain ⟨t, rfl, rfl, rfl, w_t⟩ := open_int Try.underlying3 (hval 2 3 v2 rfl rfl) zh2
  refine (walk_FnExactBestBreaks a_x n_x c_x L_x m t W t_x m_x w_m w_t).mono fun e W' ⟨he, bel⟩ => ?_
  subst he
  exact ⟨_, rfl, _, _, _, [], _, [], hW', trodAll_mk1 (shut_bool Try.underlying4 _), (trodAll_cons_mk (Below.trod laid_out (by kernel_rfl) (of_decide_eq_true (by kernel_rfl)) zk0 bel zl0) (trodAll_cons_mk (Below.trod laid_out (by kernel_rfl) (of_decide_eq_true (by kernel_rfl)) zk1 bel zl1) (trodAll_cons_mk (Below.trod laid_out (by kernel_rfl) (of_decide_eq_true (by kernel_rfl)) zk2 bel zl2) trodAll_mk0))), rfl, bel.frame _, fun h => by cases h⟩

/-- The statement. -/
theorem FnExactBestBreaks_holds : Rows.FnExactBestBreaksSaid :=
  OpenClaim.holds_of_wide 10 Try.f10 rfl rfl rfl rfl rfl rfl rfl ⟨rfl, rfl, rfl, rfl, rfl⟩ rfl rfl rfl rfl rfl (by kernel_rfl) Try.func10 (by unfold joinedFacts; rw [may_enter, lifts_final, make_cut]; kernel_rfl)
    (of_decide_eq_true (by kernel_rfl)) (by unfold Func.isWrapper; first | (rw [if_pos (by decide +kernel)]; kernel_rfl) | (rw [if_neg (by decide +kernel)]; exact ⟨rfl, rfl⟩))
    (fun os started H enc _ => lifted_FnExactBestBreaks os started H enc)
end Go.Proofs.Ytafddofajfcffaa
