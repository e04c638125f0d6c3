/- The exact laws on ValidPlaced and Overlaps hold at every input: they answer as their models do and write into no argument. No condition. -/
import Derived.Test.YtpgcpmfnidjhnaaJn
import Derived.Test.YtpgcpmfnidjhnaaFrame
import Derived.Test.YtpgcpmfnidjhnaaOvI
namespace Go.Proofs.Ytpgcpmfnidjhnaa
open Go.ChangeShapes Go.WideShapes Go.ChangeAt Go.RowKit
set_option linter.unusedVariables false

theorem PSz.keep {L : List Pl} (h : PSz L) : PSz L := h
set_option maxHeartbeats 2000000 in
theorem walk_FnExactValidPlaced (a : Option Addr) (n c : Nat) (L : List Pl) (wd hg : Int) (w : World) (h : TL w a n L) (hm : n ≤ maxLen) (hs : PSz L ∧ ∀ k, k < L.length → (Lit.int .i64 (tg L k).x).wf = true ∧ (Lit.int .i64 (tg L k).y).wf = true) (wf1 : (Lit.int .i64 wd).wf = true) (wf2 : (Lit.int .i64 hg).wf = true) :
    Calls Try.prog 9 #[.slice a n c, .int .i64 wd, .int .i64 hg] w fun e w' => e = .returned (.bool true) ∧ Below w.heap.size w w' := by
  have HSZ := hide hs.1
  clear hs
  have SZ := hide (fun (u : World) (hu : TL u a n L) => szPlacedS_l u a n c 1048576 L hu HSZ.out hm (by omega) (by omega))
  have HNL := hide h.1
  have HI := hide h
  unfold maxLen at hm
  clear h
  go_enter Try.func9, Try.ntmps9
  go_wp2_with fail
  (with_reducible refine (SZ.out _ HI.out).mono ?_)
  rintro e w0 ⟨⟨r, rfl, q⟩, hb0⟩
  rcases q with rfl | ⟨q0, q1, q2⟩
  · go_wp2
    go_ret
    exact ⟨rfl, hb0⟩
  have hn : n ≤ 1048576 := by omega
  have hll := hide (show L.length ≤ 1048576 by rw [← HNL.out]; exact hn)
  have HSM := hide (show PSm L from fun k hk => by have := q2 k hk; omega)
  have B0 := hide hb0
  clear q1 q2 hb0
  have CS := hide (fun (u : World) (A : Option Addr) (d : Nat) (h : TL u A L.length L) => ValidPlaced_s u A L.length d wd hg L h HSM.out (by have := hll.out; omega) wf1 wf2)
  have CI := hide (fun (u : World) (A : Option Addr) (d : Nat) (h : TL u A L.length L) => ValidPlaced_i u A L.length d wd hg L h HSM.out (by have := hll.out; omega))
  obtain ⟨b, hb⟩ : ∃ b, b = pls L wd hg := ⟨_, rfl⟩
  rw [← hb] at CS CI
  clear hb
  go_wp2_with fail
  (with_reducible refine (toPlacedS_l _ _ _ _ L (HI.out.below B0.out) hn).mono ?_)
  rintro e u1 ⟨A1, c1, rfl, ho1, hb1⟩
  have B1 := hide (bl_call hb1 B0.out)
  clear hb1
  go_wp2_with fail
  (with_reducible refine (CS.out _ _ _ ho1.reads).mono ?_)
  rintro e u2 ⟨rfl, hb2⟩
  have B2 := hide (bl_call hb2 B1.out)
  clear hb2 ho1
  go_wp2_with fail
  (with_reducible refine (toPlacedS_l _ _ _ _ L (HI.out.below B2.out) hn).mono ?_)
  rintro e u3 ⟨A3, c3, rfl, ho3, hb3⟩
  have B3 := hide (bl_call hb3 B2.out)
  clear hb3
  go_wp2_with fail
  (with_reducible refine (CI.out _ _ _ ho3.reads).mono ?_)
  rintro e u4 ⟨rfl, hb4⟩
  have B4 := hide (bl_call hb4 B3.out)
  have ho3 := ho3.below hb4
  clear hb4
  go_wp2_with fail
  (with_reducible refine (toPlacedS_l _ _ _ _ L (HI.out.below B4.out) hn).mono ?_)
  rintro e u5 ⟨A5, c5, rfl, ho5, hb5⟩
  go_wp2_with fail
  (with_reducible refine (eqPlacedS_l _ _ _ _ _ _ L (ho3.below hb5).reads ho5.reads hll.out).mono ?_)
  rintro e u6 ⟨rfl, hb6⟩
  go_wp2
  go_ret
  exact ⟨rfl, bl_call hb6 (bl_call hb5 B4.out)⟩
set_option maxRecDepth 100000 in
theorem lifted_FnExactValidPlaced (os : Os) (started : os.Started) (H : Type) (enc : TypeId × Value → H) :
    ReturnsInHanded {} Try.checked os 9 .any (Rows.fnExactValidPlacedSpec.pre6 enc Try.prog Try.f9 Rows.fnExactValidPlacedRow.domain false) (Rows.fnExactValidPlacedSpec.post enc Try.prog Try.f9 false true false false) := by
  refine returnsInHanded_of_change (C := Try.checked) own_knob started (by kernel_rfl) Try.func9
    (ChangeSpec.witness6 (enc := enc) (C := Try.checked) false ⟨#[], #[.slice none 0 0, .int .i64 0, .int .i64 0], []⟩ 8 (by kernel_rfl) (by kernel_rfl) (by kernel_rfl) (by kernel_rfl)) ?_
  intro W base args ds gs before hval0 hW hcnd _
  have hval : ∀ (j : Nat) t v, Try.f9.params[j]? = some t → args[j]? = some v → Value.okWide Try.prog W .any base t v := hval0
  have hW' := hW
  obtain ⟨p, q, hA0, hV, rfl, hfz, hnd⟩ := hW
  have hA : DataW.TrodAll enc Try.prog W 0 (fun _ => true) true Try.f9.params.toList args.toList ds p := hA0
  rw [Try.params9] at hA hval
  obtain ⟨v0, vs0, d0, ds0, p0, q0, hargs, rfl, rfl, zh0, r0⟩ := trodAll_cons hA
  obtain ⟨v1, vs1, d1, ds1, p1, q1, rfl, rfl, rfl, zh1, r1⟩ := trodAll_cons r0
  obtain ⟨v2, vs2, d2, ds2, p2, q2, rfl, rfl, rfl, zh2, r2⟩ := trodAll_cons r1
  obtain ⟨rfl, rfl, rfl⟩ := trodAll_nil r2
  obtain rfl : args = #[v0, v1, v2] := by cases args; simp_all
  obtain ⟨rfl, rfl⟩ := trodVars_none hV
  have zk0 := zh0
  have zl0 : ∀ x ∈ p0, x.block < W.heap.size := by obtain ⟨m, hm⟩ := zk0; exact DataW.trod_lt m _ _ _ hm
  have zk1 := zh1
  have zl1 : ∀ x ∈ p1, x.block < W.heap.size := by obtain ⟨m, hm⟩ := zk1; exact DataW.trod_lt m _ _ _ hm
  have zk2 := zh2
  have zl2 : ∀ x ∈ p2, x.block < W.heap.size := by obtain ⟨m, hm⟩ := zk2; exact DataW.trod_lt m _ _ _ hm
  clear hA0 hval0
  obtain ⟨a_s, n_s, c_s, rfl⟩ := okWide_slice Try.underlying45 (hval 0 45 v0 rfl rfl)
  obtain ⟨L_s, t_s, m_s, s_s⟩ := placed_in Try.underlying45 (by kernel_rfl) (by kernel_rfl) zh0
  obtain ⟨m, rfl, rfl, rfl, w_m⟩ := open_int Try.underlying3 (hval 1 3 v1 rfl rfl) zh1
  obtain ⟨k, rfl, rfl, rfl, w_k⟩ := open_int Try.underlying3 (hval 2 3 v2 rfl rfl) zh2
  refine (walk_FnExactValidPlaced a_s n_s c_s L_s m k W t_s m_s s_s w_m w_k).mono fun e W' ⟨he, bel⟩ => ?_
  subst he
  exact ⟨_, rfl, _, _, _, [], _, [], hW', trodAll_mk1 (shut_bool Try.underlying4 _), (trodAll_cons_mk (Below.trod laid_out (by kernel_rfl) (of_decide_eq_true (by kernel_rfl)) zk0 bel zl0) (trodAll_cons_mk (Below.trod laid_out (by kernel_rfl) (of_decide_eq_true (by kernel_rfl)) zk1 bel zl1) (trodAll_cons_mk (Below.trod laid_out (by kernel_rfl) (of_decide_eq_true (by kernel_rfl)) zk2 bel zl2) trodAll_mk0))), rfl, bel.frame _, fun h => by cases h⟩

/-- The statement. -/
theorem FnExactValidPlaced_holds : Rows.FnExactValidPlacedSaid :=
  OpenClaim.holds_of_wide 9 Try.f9 rfl rfl rfl rfl rfl rfl rfl ⟨rfl, rfl, rfl, rfl, rfl⟩ rfl rfl rfl rfl rfl (by kernel_rfl) Try.func9 (by unfold joinedFacts; rw [may_enter, lifts_final, make_cut]; kernel_rfl)
    (of_decide_eq_true (by kernel_rfl)) (by unfold Func.isWrapper; first | (rw [if_pos (by decide +kernel)]; kernel_rfl) | (rw [if_neg (by decide +kernel)]; exact ⟨rfl, rfl⟩))
    (fun os started H enc _ => lifted_FnExactValidPlaced os started H enc)

set_option maxHeartbeats 2000000 in
theorem walk_FnExactOverlaps (a : Option Addr) (n c : Nat) (L : List Pl) (wd hg : Int) (w : World) (h : TL w a n L) (hm : n ≤ maxLen) (hs : PSz L ∧ ∀ k, k < L.length → (Lit.int .i64 (tg L k).x).wf = true ∧ (Lit.int .i64 (tg L k).y).wf = true) (wf1 : (Lit.int .i64 wd).wf = true) (wf2 : (Lit.int .i64 hg).wf = true) :
    Calls Try.prog 11 #[.slice a n c, .int .i64 wd, .int .i64 hg] w fun e w' => e = .returned (.bool true) ∧ Below w.heap.size w w' := by
  have HSZ := hide hs.1
  clear hs
  have SZ := hide (fun (u : World) (hu : TL u a n L) => szPlacedS_l u a n c 1048576 L hu HSZ.out hm (by omega) (by omega))
  have HNL := hide h.1
  have HI := hide h
  unfold maxLen at hm
  clear h
  go_enter Try.func11, Try.ntmps11
  go_wp2_with fail
  (with_reducible refine (SZ.out _ HI.out).mono ?_)
  rintro e w0 ⟨⟨r, rfl, q⟩, hb0⟩
  rcases q with rfl | ⟨q0, q1, q2⟩
  · go_wp2
    go_ret
    exact ⟨rfl, hb0⟩
  have hn : n ≤ 1048576 := by omega
  have hll := hide (show L.length ≤ 1048576 by rw [← HNL.out]; exact hn)
  have HSM := hide (show PSm L from fun k hk => by have := q2 k hk; omega)
  have B0 := hide hb0
  clear q1 q2 hb0
  have CS := hide (fun (u : World) (A : Option Addr) (d : Nat) (h : TL u A L.length L) => Overlaps_s u A L.length d wd hg L h HSM.out (by have := hll.out; omega) wf1 wf2)
  have CI := hide (fun (u : World) (A : Option Addr) (d : Nat) (h : TL u A L.length L) => Overlaps_i u A L.length d wd hg L h HSM.out (by have := hll.out; omega))
  obtain ⟨x, hx⟩ : ∃ x, x = (ov L wd hg).1 := ⟨_, rfl⟩
  obtain ⟨y, hy⟩ : ∃ y, y = (ov L wd hg).2.1 := ⟨_, rfl⟩
  obtain ⟨b, hb⟩ : ∃ b, b = (ov L wd hg).2.2 := ⟨_, rfl⟩
  rw [← hx, ← hy, ← hb] at CS CI
  clear hx hy hb
  go_wp2_with fail
  (with_reducible refine (toPlacedS_l _ _ _ _ L (HI.out.below B0.out) hn).mono ?_)
  rintro e u1 ⟨A1, c1, rfl, ho1, hb1⟩
  have B1 := hide (bl_call hb1 B0.out)
  clear hb1
  go_wp2_with fail
  (with_reducible refine (CS.out _ _ _ ho1.reads).mono ?_)
  rintro e u2 ⟨rfl, hb2⟩
  have B2 := hide (bl_call hb2 B1.out)
  clear hb2 ho1
  go_wp2_with fail
  (with_reducible refine (toPlacedS_l _ _ _ _ L (HI.out.below B2.out) hn).mono ?_)
  rintro e u3 ⟨A3, c3, rfl, ho3, hb3⟩
  have B3 := hide (bl_call hb3 B2.out)
  clear hb3
  go_wp2_with fail
  (with_reducible refine (CI.out _ _ _ ho3.reads).mono ?_)
  rintro e u4 ⟨rfl, hb4⟩
  have B4 := hide (bl_call hb4 B3.out)
  have ho3 := ho3.below hb4
  clear hb4
  go_wp2_with fail
  (with_reducible refine (toPlacedS_l _ _ _ _ L (HI.out.below B4.out) hn).mono ?_)
  rintro e u5 ⟨A5, c5, rfl, ho5, hb5⟩
  go_wp2_with fail
  (with_reducible refine (eqPlacedS_l _ _ _ _ _ _ L (ho3.below hb5).reads ho5.reads hll.out).mono ?_)
  rintro e u6 ⟨rfl, hb6⟩
  go_wp2
  go_ret
  exact ⟨rfl, bl_call hb6 (bl_call hb5 B4.out)⟩
set_option maxRecDepth 100000 in
theorem lifted_FnExactOverlaps (os : Os) (started : os.Started) (H : Type) (enc : TypeId × Value → H) :
    ReturnsInHanded {} Try.checked os 11 .any (Rows.fnExactOverlapsSpec.pre6 enc Try.prog Try.f11 Rows.fnExactOverlapsRow.domain false) (Rows.fnExactOverlapsSpec.post enc Try.prog Try.f11 false true false false) := by
  refine returnsInHanded_of_change (C := Try.checked) own_knob started (by kernel_rfl) Try.func11
    (ChangeSpec.witness6 (enc := enc) (C := Try.checked) false ⟨#[], #[.slice none 0 0, .int .i64 0, .int .i64 0], []⟩ 8 (by kernel_rfl) (by kernel_rfl) (by kernel_rfl) (by kernel_rfl)) ?_
  intro W base args ds gs before hval0 hW hcnd _
  have hval : ∀ (j : Nat) t v, Try.f11.params[j]? = some t → args[j]? = some v → Value.okWide Try.prog W .any base t v := hval0
  have hW' := hW
  obtain ⟨p, q, hA0, hV, rfl, hfz, hnd⟩ := hW
  have hA : DataW.TrodAll enc Try.prog W 0 (fun _ => true) true Try.f11.params.toList args.toList ds p := hA0
  rw [Try.params11] at hA hval
  obtain ⟨v0, vs0, d0, ds0, p0, q0, hargs, rfl, rfl, zh0, r0⟩ := trodAll_cons hA
  obtain ⟨v1, vs1, d1, ds1, p1, q1, rfl, rfl, rfl, zh1, r1⟩ := trodAll_cons r0
  obtain ⟨v2, vs2, d2, ds2, p2, q2, rfl, rfl, rfl, zh2, r2⟩ := trodAll_cons r1
  obtain ⟨rfl, rfl, rfl⟩ := trodAll_nil r2
  obtain rfl : args = #[v0, v1, v2] := by cases args; simp_all
  obtain ⟨rfl, rfl⟩ := trodVars_none hV
  have zk0 := zh0
  have zl0 : ∀ x ∈ p0, x.block < W.heap.size := by obtain ⟨m, hm⟩ := zk0; exact DataW.trod_lt m _ _ _ hm
  have zk1 := zh1
  have zl1 : ∀ x ∈ p1, x.block < W.heap.size := by obtain ⟨m, hm⟩ := zk1; exact DataW.trod_lt m _ _ _ hm
  have zk2 := zh2
  have zl2 : ∀ x ∈ p2, x.block < W.heap.size := by obtain ⟨m, hm⟩ := zk2; exact DataW.trod_lt m _ _ _ hm
  clear hA0 hval0
  obtain ⟨a_s, n_s, c_s, rfl⟩ := okWide_slice Try.underlying45 (hval 0 45 v0 rfl rfl)
  obtain ⟨L_s, t_s, m_s, s_s⟩ := placed_in Try.underlying45 (by kernel_rfl) (by kernel_rfl) zh0
  obtain ⟨m, rfl, rfl, rfl, w_m⟩ := open_int Try.underlying3 (hval 1 3 v1 rfl rfl) zh1
  obtain ⟨k, rfl, rfl, rfl, w_k⟩ := open_int Try.underlying3 (hval 2 3 v2 rfl rfl) zh2
  refine (walk_FnExactOverlaps a_s n_s c_s L_s m k W t_s m_s s_s w_m w_k).mono fun e W' ⟨he, bel⟩ => ?_
  subst he
  exact ⟨_, rfl, _, _, _, [], _, [], hW', trodAll_mk1 (shut_bool Try.underlying4 _), (trodAll_cons_mk (Below.trod laid_out (by kernel_rfl) (of_decide_eq_true (by kernel_rfl)) zk0 bel zl0) (trodAll_cons_mk (Below.trod laid_out (by kernel_rfl) (of_decide_eq_true (by kernel_rfl)) zk1 bel zl1) (trodAll_cons_mk (Below.trod laid_out (by kernel_rfl) (of_decide_eq_true (by kernel_rfl)) zk2 bel zl2) trodAll_mk0))), rfl, bel.frame _, fun h => by cases h⟩

/-- The statement. -/
theorem FnExactOverlaps_holds : Rows.FnExactOverlapsSaid :=
  OpenClaim.holds_of_wide 11 Try.f11 rfl rfl rfl rfl rfl rfl rfl ⟨rfl, rfl, rfl, rfl, rfl⟩ rfl rfl rfl rfl rfl (by kernel_rfl) Try.func11 (by unfold joinedFacts; rw [may_enter, lifts_final, make_cut]; kernel_rfl)
    (of_decide_eq_true (by kernel_rfl)) (by unfold Func.isWrapper; first | (rw [if_pos (by decide +kernel)]; kernel_rfl) | (rw [if_neg (by decide +kernel)]; exact ⟨rfl, rfl⟩))
    (fun os started H enc _ => lifted_FnExactOverlaps os started H enc)
end Go.Proofs.Ytpgcpmfnidjhnaa
