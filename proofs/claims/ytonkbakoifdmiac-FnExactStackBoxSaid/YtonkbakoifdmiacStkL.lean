/- The exact law on StackBox holds at every input: it answers as its model does and writes into no argument. No condition. -/
import Derived.Test.YtonkbakoifdmiacFrame
import Derived.Test.YtonkbakoifdmiacStkM
import Derived.Test.YtonkbakoifdmiacExBoxL
namespace Go.Proofs.Ytonkbakoifdmiac
open Go.ChangeShapes Go.WideShapes Go.ChangeAt Go.RowKit
set_option linter.unusedVariables false

set_option maxHeartbeats 2000000 in
theorem walk_FnExactStackBox (a : Option Addr) (n c : Nat) (L : List Gp) (sk : Int) (w : World) (h : TL w a n L) (hm : n ≤ maxLen) (hy : (Lit.int IntKind.i64 sk).wf = true) :
    Calls Try.prog 4 #[.slice a n c, .int .i64 sk] w fun e w' => e = .returned (.bool true) ∧ Below w.heap.size w w' := by
  unfold maxLen at hm
  have hnl : n = L.length := h.1
  have HI := hide h
  clear h
  rcases (by omega : (1048576 : Int) - (n : Int) < 0 ∨ 0 ≤ (1048576 : Int) - (n : Int)) with q | q
  · clear hnl
    have SZ := fun (u : World) => szBoxS_l u a n c 1048576 (by omega) (by omega) (by omega)
    rw [if_pos q] at SZ
    have HSZ := hide SZ
    clear SZ
    go_enter Try.func4, Try.ntmps4
    go_wp2_with fail
    (with_reducible refine (HSZ.out _).mono ?_)
    rintro e w' ⟨rfl, rfl⟩
    go_wp2
    go_ret
    exact ⟨rfl, bl_refl _⟩
  have hn : n ≤ 1048576 := by omega
  have hll : L.length ≤ 1048576 := by omega
  have q' : ¬ ((1048576 : Int) - (n : Int) < 0) := by omega
  clear hnl
  have SZ := fun (u : World) => szBoxS_l u a n c 1048576 (by omega) (by omega) (by omega)
  rw [if_neg q'] at SZ
  have HSZ := hide SZ
  clear SZ
  have CS := fun (u : World) (A : Option Addr) (d : Nat) (h : TL u A L.length L) => StackBox_s u A L.length d sk L h (by omega)
  have CI := fun (u : World) (A : Option Addr) (d : Nat) (h : TL u A L.length L) => StackBox_i u A L.length d sk L h (by omega)
  obtain ⟨x, t, E⟩ := sov_form sk L
  obtain ⟨P, Q, R⟩ := x
  rw [E] at CS CI
  have HCS := hide CS
  have HCI := hide CI
  clear CS CI E
  go_enter Try.func4, Try.ntmps4
  go_wp2_with fail
  (with_reducible refine (HSZ.out _).mono ?_)
  rintro e w' ⟨rfl, rfl⟩
  go_wp2_with fail
  (with_reducible refine (toBoxS_l _ _ _ _ L HI.out hn).mono ?_)
  rintro e u1 ⟨A1, c1, rfl, ho1, hb1⟩
  go_wp2_with fail
  (with_reducible refine (HCS.out _ _ _ ho1.reads).mono ?_)
  rintro e u2 ⟨rfl, hb2⟩
  have HB2 := hide (bl_call hb2 hb1)
  clear ho1 hb1 hb2
  go_wp2_with fail
  (with_reducible refine (toBoxS_l _ _ _ _ L (HI.out.below (bl_alloc HB2.out _)) hn).mono ?_)
  rintro e u3 ⟨A3, c3, rfl, ho3, hb3⟩
  have HM3 := hide ((Bx.new u2 P Q R _).below hb3)
  have HB3 := hide (bl_call hb3 (bl_alloc HB2.out _))
  clear hb3
  go_wp2_with fail
  (with_reducible refine (HCI.out _ _ _ ho3.reads).mono ?_)
  rintro e u4 ⟨rfl, hb4⟩
  have HB4 := hide (bl_call hb4 HB3.out)
  have ho3 := ho3.below hb4
  obtain ⟨⟨m0, m1, m2⟩, _⟩ := HM3.out.below hb4
  have hlm := World.block_lt_of_cell? u4 _ m0
  clear hb4
  go_wp2_with fail
  (with_reducible refine (eqBox_h _ _ _ _).mono ?_)
  rintro e u5 ⟨rfl, hb5⟩
  have ho3 := (ho3.alloc _).below hb5
  have HB5 := hide (bl_call hb5 (bl_alloc HB4.out _))
  clear hb5 m0 m1 m2 hlm
  go_wp2_with fail
  (with_reducible refine (toBoxS_l _ _ _ _ L (HI.out.below HB5.out) hn).mono ?_)
  rintro e u6 ⟨A6, c6, rfl, ho6, hb6⟩
  have ho3 := ho3.below hb6
  go_wp2_with fail
  (with_reducible refine (eqBoxS_l _ _ _ _ _ _ L ho3.reads ho6.reads hll).mono ?_)
  rintro e u7 ⟨rfl, hb7⟩
  go_wp2
  go_ret
  exact ⟨rfl, bl_call hb7 (bl_call hb6 HB5.out)⟩
set_option maxRecDepth 100000 in
theorem lifted_FnExactStackBox (os : Os) (started : os.Started) (H : Type) (enc : TypeId × Value → H) :
    ReturnsInHanded {} Try.checked os 4 .any (Rows.fnExactStackBoxSpec.pre6 enc Try.prog Try.f4 Rows.fnExactStackBoxRow.domain false) (Rows.fnExactStackBoxSpec.post enc Try.prog Try.f4 false true false false) := by
  refine returnsInHanded_of_change (C := Try.checked) own_knob started (by kernel_rfl) Try.func4
    (ChangeSpec.witness6 (enc := enc) (C := Try.checked) false ⟨#[], #[.slice none 0 0, .int .i64 0], []⟩ 8 (by kernel_rfl) (by kernel_rfl) (by kernel_rfl) (by kernel_rfl)) ?_
  intro W base args ds gs before hval0 hW hcnd _
  have hval : ∀ (j : Nat) t v, Try.f4.params[j]? = some t → args[j]? = some v → Value.okWide Try.prog W .any base t v := hval0
  have hW' := hW
  obtain ⟨p, q, hA0, hV, rfl, hfz, hnd⟩ := hW
  have hA : DataW.TrodAll enc Try.prog W 0 (fun _ => true) true Try.f4.params.toList args.toList ds p := hA0
  rw [Try.params4] at hA hval
  obtain ⟨v0, vs0, d0, ds0, p0, q0, hargs, rfl, rfl, zh0, r0⟩ := trodAll_cons hA
  obtain ⟨v1, vs1, d1, ds1, p1, q1, rfl, rfl, rfl, zh1, r1⟩ := trodAll_cons r0
  obtain ⟨rfl, rfl, rfl⟩ := trodAll_nil r1
  obtain rfl : args = #[v0, v1] := by cases args; simp_all
  obtain ⟨rfl, rfl⟩ := trodVars_none hV
  have zk0 := zh0
  have zl0 : ∀ x ∈ p0, x.block < W.heap.size := by obtain ⟨m, hm⟩ := zk0; exact DataW.trod_lt m _ _ _ hm
  have zk1 := zh1
  have zl1 : ∀ x ∈ p1, x.block < W.heap.size := by obtain ⟨m, hm⟩ := zk1; exact DataW.trod_lt m _ _ _ hm
  clear hA0 hval0
  obtain ⟨a_x, n_x, c_x, rfl⟩ := okWide_slice Try.underlying30 (hval 0 30 v0 rfl rfl)
  obtain ⟨L_x, t_x, m_x⟩ := pairs_in Try.underlying30 (by kernel_rfl) (by kernel_rfl) zh0
  obtain ⟨y, rfl, rfl, rfl, w_y⟩ := open_int Try.underlying3 (hval 1 3 v1 rfl rfl) zh1
  refine (walk_FnExactStackBox a_x n_x c_x L_x y W t_x m_x w_y).mono fun e W' ⟨he, bel⟩ => ?_
  subst he
  exact ⟨_, rfl, _, _, _, [], _, [], hW', trodAll_mk1 (shut_bool Try.underlying4 _), (trodAll_cons_mk (Below.trod laid_out (by kernel_rfl) (of_decide_eq_true (by kernel_rfl)) zk0 bel zl0) (trodAll_cons_mk (Below.trod laid_out (by kernel_rfl) (of_decide_eq_true (by kernel_rfl)) zk1 bel zl1) trodAll_mk0)), rfl, bel.frame _, fun h => by cases h⟩

/-- The statement. -/
theorem FnExactStackBox_holds : Rows.FnExactStackBoxSaid :=
  OpenClaim.holds_of_wide 4 Try.f4 rfl rfl rfl rfl rfl rfl rfl ⟨rfl, rfl, rfl, rfl, rfl⟩ rfl rfl rfl rfl rfl (by kernel_rfl) Try.func4 (by kernel_rfl)
    (of_decide_eq_true (by kernel_rfl)) (by unfold Func.isWrapper; first | (rw [if_pos (by decide +kernel)]; kernel_rfl) | (rw [if_neg (by decide +kernel)]; exact ⟨rfl, rfl⟩))
    (fun os started H enc _ => lifted_FnExactStackBox os started H enc)
end Go.Proofs.Ytonkbakoifdmiac
