/- The exact law on FillLine holds at every input: it answers as its model does and writes into no argument. No condition. -/
import Derived.Test.YtpgcpmfnidjhnaaJn
import Derived.Test.YtpgcpmfnidjhnaaFll
namespace Go.Proofs.Ytpgcpmfnidjhnaa
open Go.ChangeShapes Go.WideShapes Go.ChangeAt Go.RowKit
set_option linter.unusedVariables false
open Classical

set_option maxHeartbeats 2000000 in
theorem walk_FnExactFillLine (a : Option Addr) (n c : Nat) (l : List ByteArray) (wd : Int) (w : World) (h : SL w a n l) (hm : n ≤ maxLen) (hs : ∀ k, k < l.length → (sg l k).size ≤ maxLen) (wf1 : (Lit.int .i64 wd).wf = true) :
    Calls Try.prog 13 #[.slice a n c, .int .i64 wd] w fun e w' => e = .returned (.bool true) ∧ Below w.heap.size w w' := by
  have SZ := hide (fun (u : World) (hu : SL u a n l) => szStringS_l u a n c 1048576 l hu hs hm (by omega) (by omega))
  have HNL := hide h.1
  have HI := hide h
  unfold maxLen at hm
  clear h hs wf1
  go_enter Try.func13, Try.ntmps13
  go_wp2_with fail
  (with_reducible refine (SZ.out _ HI.out).mono ?_)
  rintro e w' ⟨⟨r, rfl, q⟩, rfl⟩
  rcases q with rfl | ⟨q0, q1, q2⟩
  · go_wp2
    go_ret
    exact ⟨rfl, bl_refl _⟩
  have hn : n ≤ 1048576 := by omega
  have hll := hide (show l.length ≤ 1048576 by rw [← HNL.out]; exact hn)
  have HK := hide (fun k (hk : k < l.length) => show (sg l k).size ≤ 1048576 by have := q2 k hk; omega)
  have CS := hide (fun (u : World) (A : Option Addr) (d : Nat) (h : SL u A l.length l) => FillLine_s u A l.length d wd l h HK.out (by have := hll.out; omega))
  have CI := hide (fun (u : World) (A : Option Addr) (d : Nat) (h : SL u A l.length l) => FillLine_i u A l.length d wd l h HK.out (by have := hll.out; omega))
  obtain ⟨t, ht⟩ : ∃ t, t = fll l wd := ⟨_, rfl⟩
  rw [← ht] at CS CI
  have q3 := teq_yes t
  clear q1 q2 ht
  go_wp2_with fail
  (with_reducible refine (toStringS_l _ _ _ _ l HI.out hn).mono ?_)
  rintro e u1 ⟨A1, c1, rfl, ho1, hb1⟩
  go_wp2_with fail
  (with_reducible refine (CS.out _ _ _ ho1.reads).mono ?_)
  rintro e u2 ⟨rfl, j2, rfl⟩
  have B1 := hide (bl_drewN hb1 j2)
  clear ho1 hb1
  go_wp2_with fail
  (with_reducible refine (toStringS_l _ _ _ _ l (HI.out.below B1.out) hn).mono ?_)
  rintro e u3 ⟨A3, c3, rfl, ho3, hb3⟩
  have B3 := hide (bl_call hb3 B1.out)
  clear hb3
  go_wp2_with fail
  (with_reducible refine (CI.out _ _ _ ho3.reads).mono ?_)
  rintro e u4 ⟨rfl, hb4⟩
  have B4 := hide (bl_call hb4 B3.out)
  have H3 := hide (ho3.below hb4)
  clear ho3 hb4
  go_wp2_with fail
  (with_reducible refine (toStringS_l _ _ _ _ l (HI.out.below B4.out) hn).mono ?_)
  rintro e u5 ⟨A5, c5, rfl, ho5, hb5⟩
  go_wp2_with fail
  (with_reducible refine (eqStringS_l _ _ _ _ _ _ _ _ _ (H3.out.below hb5).reads ho5.reads (by have := hll.out; omega) (by have := hll.out; omega)).mono ?_)
  rintro e u6 ⟨rfl, j6, rfl⟩
  simp only [decide_true]
  go_wp2
  go_ret
  exact ⟨rfl, bl_drewN (bl_call hb5 B4.out) _⟩
set_option maxRecDepth 100000 in
theorem lifted_FnExactFillLine (os : Os) (started : os.Started) (H : Type) (enc : TypeId × Value → H) :
    ReturnsInHanded {} Try.checked os 13 .any (Rows.fnExactFillLineSpec.pre6 enc Try.prog Try.f13 Rows.fnExactFillLineRow.domain false) (Rows.fnExactFillLineSpec.post enc Try.prog Try.f13 false true false false) := by
  refine returnsInHanded_of_change (C := Try.checked) own_knob started (by kernel_rfl) Try.func13
    (ChangeSpec.witness6 (enc := enc) (C := Try.checked) false ⟨#[], #[.slice none 0 0, .int .i64 0], []⟩ 8 (by kernel_rfl) (by kernel_rfl) (by kernel_rfl) (by kernel_rfl)) ?_
  intro W base args ds gs before hval0 hW hcnd _
  have hval : ∀ (j : Nat) t v, Try.f13.params[j]? = some t → args[j]? = some v → Value.okWide Try.prog W .any base t v := hval0
  have hW' := hW
  obtain ⟨p, q, hA0, hV, rfl, hfz, hnd⟩ := hW
  have hA : DataW.TrodAll enc Try.prog W 0 (fun _ => true) true Try.f13.params.toList args.toList ds p := hA0
  rw [Try.params13] at hA hval
  obtain ⟨v0, vs0, d0, ds0, p0, q0, hargs, rfl, rfl, zh0, r0⟩ := trodAll_cons hA
  obtain ⟨v1, vs1, d1, ds1, p1, q1, rfl, rfl, rfl, zh1, r1⟩ := trodAll_cons r0
  obtain ⟨rfl, rfl, rfl⟩ := trodAll_nil r1
  obtain rfl : args = #[v0, v1] := by cases args; simp_all
  obtain ⟨rfl, rfl⟩ := trodVars_none hV
  have zk0 := zh0
  have zl0 : ∀ x ∈ p0, x.block < W.heap.size := by obtain ⟨m, hm⟩ := zk0; exact DataW.trod_lt m _ _ _ hm
  have zk1 := zh1
  have zl1 : ∀ x ∈ p1, x.block < W.heap.size := by obtain ⟨m, hm⟩ := zk1; exact DataW.trod_lt m _ _ _ hm
  clear hA0 hval0
  obtain ⟨a_s, n_s, c_s, rfl⟩ := okWide_slice Try.underlying59 (hval 0 59 v0 rfl rfl)
  obtain ⟨l_s, t_s, m_s, s_s⟩ := strs_in Try.underlying59 (by kernel_rfl) (by kernel_rfl) zh0
  obtain ⟨m, rfl, rfl, rfl, w_m⟩ := open_int Try.underlying3 (hval 1 3 v1 rfl rfl) zh1
  refine (walk_FnExactFillLine a_s n_s c_s l_s m W t_s m_s s_s w_m).mono fun e W' ⟨he, bel⟩ => ?_
  subst he
  exact ⟨_, rfl, _, _, _, [], _, [], hW', trodAll_mk1 (shut_bool Try.underlying4 _), (trodAll_cons_mk (Below.trod laid_out (by kernel_rfl) (of_decide_eq_true (by kernel_rfl)) zk0 bel zl0) (trodAll_cons_mk (Below.trod laid_out (by kernel_rfl) (of_decide_eq_true (by kernel_rfl)) zk1 bel zl1) trodAll_mk0)), rfl, bel.frame _, fun h => by cases h⟩

/-- The statement. -/
theorem FnExactFillLine_holds : Rows.FnExactFillLineSaid :=
  OpenClaim.holds_of_wide 13 Try.f13 rfl rfl rfl rfl rfl rfl rfl ⟨rfl, rfl, rfl, rfl, rfl⟩ rfl rfl rfl rfl rfl (by kernel_rfl) Try.func13 (by unfold joinedFacts; rw [may_enter, lifts_final, make_cut]; kernel_rfl)
    (of_decide_eq_true (by kernel_rfl)) (by unfold Func.isWrapper; first | (rw [if_pos (by decide +kernel)]; kernel_rfl) | (rw [if_neg (by decide +kernel)]; exact ⟨rfl, rfl⟩))
    (fun os started H enc _ => lifted_FnExactFillLine os started H enc)
end Go.Proofs.Ytpgcpmfnidjhnaa
