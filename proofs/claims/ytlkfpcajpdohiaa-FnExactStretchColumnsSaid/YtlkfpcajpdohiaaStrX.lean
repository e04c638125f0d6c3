/- The exact law on StretchColumns holds at every input: it answers as its model does, writes into no argument, and what it returns is its own. No condition. -/
import Derived.Test.YtlkfpcajpdohiaaSa
import Derived.Test.YtlkfpcajpdohiaaStrS
namespace Go.Proofs.Ytlkfpcajpdohiaa
open Go.ChangeShapes Go.WideShapes Go.ChangeAt Go.RowKit
set_option linter.unusedVariables false
set_option linter.unusedSimpArgs false

theorem row_lenT {w : World} {a : Option Addr} {n c : Nat} {zs : List Int} (hr : IsRow .i64 w a n c zs) : n ≤ maxLen := by
  rcases hr with ⟨_, rfl, _, _⟩ | ⟨_, _, hl, hm, _⟩
  · exact Nat.zero_le _
  · omega
theorem bl_mark {w u v : World} {B c j : Nat} {e : TypeId} {A : Option Addr} {l : List Int} (h : OL u e B A c l) (hb : Below w.heap.size w u) (hB : w.heap.size ≤ B) (hg : (u.drewN j).grownBy v (Value.slice A l.length c).ownBlock) : Below w.heap.size w v :=
  (bl_drewN hb j).grown hg hb.size (fun k hk => Nat.le_trans hB (h.own_lt k hk).1)
theorem flip_ne {x y : Option Nat} (h : ∀ k, x = some k → y ≠ some k) : ∀ k, y = some k → x ≠ some k := fun k hk e => h k e hk

set_option maxHeartbeats 2000000 in
theorem walk_FnExactStretchColumns (a : Option Addr) (n c : Nat) (zs : List Int) (m : Int) (w : World) (hr : IsRow .i64 w a n c zs) (hm : (Lit.int .i64 m).wf = true) :
    Calls Try.prog 12 #[.slice a n c, .int .i64 m] w fun e w' => e = .returned (.bool true) ∧ Below w.heap.size w w' := by
  have hx := IL.of_row hr
  obtain ⟨l, hl⟩ : ∃ l, l = zs.take n := ⟨_, rfl⟩
  rw [← hl] at hx
  have hn : n ≤ maxLen := row_lenT hr
  have wm : -9223372036854775808 ≤ m ∧ m ≤ 9223372036854775807 := by
    simp only [Lit.wf, Bool.and_eq_true, decide_eq_true_eq] at hm
    exact hm
  unfold maxLen at hn
  clear hr hm hl
  rcases (by omega : 1048576 < n ∨ n ≤ 1048576) with hb | hb
  · go_enter Try.func12, Try.ntmps12
    go_wp2
    go_ret
    exact ⟨rfl, bl_refl _⟩
  · have hnl : n = l.length := hx.1
    have hl1 : l.length ≤ 1048576 := by omega
    have hl2 : (scV l m).length ≤ 41 := scV_len l m
    have CS := fun (u : World) (A : Option Addr) (d : Nat) (h : IL u A l.length l) => StretchColumns_s u A l.length d l m h (by omega) wm
    have CI := fun (u : World) (A : Option Addr) (d : Nat) (h : IL u A l.length l) => StretchColumns_i u A l.length d l m h (by omega)
    obtain ⟨L, hL⟩ : ∃ L, L = scV l m := ⟨_, rfl⟩
    rw [← hL] at hl2 CS CI
    have HCS := hide CS
    have HCI := hide CI
    have HX := hide hx
    clear hnl CS CI hL hx
    go_enter Try.func12, Try.ntmps12
    go_wp2_with fail
    (with_reducible refine (toIntS_l _ _ _ _ _ HX.out hb).mono ?_)
    rintro e u1 ⟨A1, c1, rfl, ho1, hb1⟩
    go_wp2_with fail
    (with_reducible refine (HCS.out _ _ _ ho1.reads).mono ?_)
    rintro e u2 ⟨A2, c2, rfl, ho2, hb2⟩
    have HB2 := hide (bl_call hb2 hb1)
    clear ho1 hb2
    go_wp2_with fail
    (with_reducible refine (toIntS_l _ _ _ _ _ (HX.out.below HB2.out) hb).mono ?_)
    rintro e u3 ⟨A3, c3, rfl, ho3, hb3⟩
    have P23 := hide (OL.apart ho2 ho3)
    have ho2 := ho2.below hb3
    have HB3 := hide (bl_call hb3 HB2.out)
    have SZ2 := HB2.out.size
    have SZ3 := HB3.out.size
    clear hb3
    go_wp2_with fail
    (with_reducible refine (HCI.out _ _ _ ho3.reads).mono ?_)
    rintro e u4 ⟨A4, c4, rfl, ho4, hb4⟩
    have P24 := hide (OL.apart ho2 ho4)
    have P34 := hide (OL.apart ho3 ho4)
    have ho2 := ho2.below hb4
    have ho3 := ho3.below hb4
    have HB4 := hide (bl_call hb4 HB3.out)
    clear hb4
    go_wp2_with fail
    (with_reducible refine (eqIntS_l _ _ _ _ _ _ _ _ _ ho4.reads ho2.reads (by omega) (by omega)).mono ?_)
    rintro e u5 ⟨rfl, j5, rfl⟩
    simp only [decide_true]
    have HB5 := hide (bl_drewN HB4.out j5)
    go_wp2_with fail
    (with_reducible refine (toIntS_l _ _ _ _ _ (HX.out.below HB5.out) hb).mono ?_)
    rintro e u6 ⟨A6, c6, rfl, ho6, hb6⟩
    have ho2 := (ho2.drewN j5).below hb6
    have ho3 := (ho3.drewN j5).below hb6
    have ho4 := (ho4.drewN j5).below hb6
    have HB6 := hide (bl_call hb6 HB5.out)
    clear hb6
    go_wp2_with fail
    (with_reducible refine (eqIntS_l _ _ _ _ _ _ _ _ _ ho3.reads ho6.reads (by omega) (by omega)).mono ?_)
    rintro e u7 ⟨rfl, j7, rfl⟩
    simp only [decide_true]
    clear ho6
    go_wp2_with fail
    (with_reducible refine (markIntS_l _ _ _ _ _ l 1 (ho3.drewN j7) (by omega) (by omega) (by omega)).mono ?_)
    rintro e u8 ⟨rfl, _, hg8⟩
    have ho2 := (ho2.drewN j7).kept hg8 P23.out
    have ho4 := (ho4.drewN j7).kept hg8 (flip_ne P34.out)
    have HB8 := hide (bl_mark ho3 HB6.out SZ2 hg8)
    clear ho3 hg8
    have k0 : decide ((1 : Int) + (l.length : Int) < 0) = false := decide_eq_false (by omega)
    go_wp2_with fail
    (with_reducible refine (eqIntS_l _ _ _ _ _ _ _ _ _ ho4.reads ho2.reads (by omega) (by omega)).mono ?_)
    rintro e u9 ⟨rfl, j9, rfl⟩
    simp only [decide_true]
    go_wp2_with fail
    (with_reducible refine (markIntS_l _ _ _ _ _ L 1 (ho4.drewN j9) (by omega) (by omega) (by omega)).mono ?_)
    rintro e u10 ⟨rfl, ho10, hg10⟩
    have ho2 := (ho2.drewN j9).kept hg10 P24.out
    have HB10 := hide (bl_mark ho4 HB8.out SZ3 hg10)
    have hr10 := ho10.reads
    rw [upto_len] at hr10
    clear ho4 hg10 ho10
    go_wp2_with fail
    (with_reducible refine (heldIntS_l _ _ _ _ 1 hr10 (by omega) (by omega) (by omega)).mono ?_)
    rintro e w' ⟨rfl, rfl⟩
    go_wp2_with fail
    (with_reducible refine (toIntS_l _ _ _ _ _ (HX.out.below HB10.out) hb).mono ?_)
    rintro e u11 ⟨A11, c11, rfl, ho11, hb11⟩
    have ho2 := ho2.below hb11
    have hr11 := hr10.below hb11
    have HB11 := hide (bl_call hb11 HB10.out)
    clear hb11
    go_wp2_with fail
    (with_reducible refine (HCI.out _ _ _ ho11.reads).mono ?_)
    rintro e u12 ⟨A12, c12, rfl, ho12, hb12⟩
    have ho2 := ho2.below hb12
    have hr12 := hr11.below hb12
    have HB12 := hide (bl_call hb12 HB11.out)
    clear hb12 ho11
    go_wp2_with fail
    (with_reducible refine (eqIntS_l _ _ _ _ _ _ _ _ _ ho12.reads ho2.reads (by omega) (by omega)).mono ?_)
    rintro e u13 ⟨rfl, j13, rfl⟩
    simp only [decide_true]
    go_wp2_with fail
    (with_reducible refine (heldIntS_l _ _ _ _ 1 (hr12.drewN j13) (by omega) (by omega) (by omega)).mono ?_)
    rintro e w' ⟨rfl, rfl⟩
    go_wp2
    go_ret
    exact ⟨rfl, bl_drewN HB12.out _⟩
set_option maxRecDepth 100000 in
theorem lifted_FnExactStretchColumns (os : Os) (started : os.Started) (H : Type) (enc : TypeId × Value → H) :
    ReturnsInHanded {} Try.checked os 12 .any (Rows.fnExactStretchColumnsSpec.pre6 enc Try.prog Try.f12 Rows.fnExactStretchColumnsRow.domain false) (Rows.fnExactStretchColumnsSpec.post enc Try.prog Try.f12 false true false false) := by
  refine returnsInHanded_of_change (C := Try.checked) own_knob started (by kernel_rfl) Try.func12
    (ChangeSpec.witness6 (enc := enc) (C := Try.checked) false ⟨#[], #[.slice none 0 0, .int .i64 0], []⟩ 8 (by kernel_rfl) (by kernel_rfl) (by kernel_rfl) (by kernel_rfl)) ?_
  intro W base args ds gs before hval0 hW hcnd _
  have hval : ∀ (j : Nat) t v, Try.f12.params[j]? = some t → args[j]? = some v → Value.okWide Try.prog W .any base t v := hval0
  have hW' := hW
  obtain ⟨p, q, hA0, hV, rfl, hfz, hnd⟩ := hW
  have hA : DataW.TrodAll enc Try.prog W 0 (fun _ => true) true Try.f12.params.toList args.toList ds p := hA0
  rw [Try.params12] at hA hval
  obtain ⟨v0, vs0, d0, ds0, p0, q0, hargs, rfl, rfl, zh0, r0⟩ := trodAll_cons hA
  obtain ⟨v1, vs1, d1, ds1, p1, q1, rfl, rfl, rfl, zh1, r1⟩ := trodAll_cons r0
  obtain ⟨rfl, rfl, rfl⟩ := trodAll_nil r1
  obtain rfl : args = #[v0, v1] := by cases args; simp_all
  obtain ⟨rfl, rfl⟩ := trodVars_none hV
  have zk0 := zh0
  have zl0 : ∀ x ∈ p0, x.block < W.heap.size := by obtain ⟨m, hm⟩ := zk0; exact DataW.trod_lt m _ _ _ hm
  have zk1 := zh1
  have zl1 : ∀ x ∈ p1, x.block < W.heap.size := by obtain ⟨m, hm⟩ := zk1; exact DataW.trod_lt m _ _ _ hm
  clear hA0 hval0
  obtain ⟨a_s, n_s, c_s, rfl⟩ := okWide_slice Try.underlying32 (hval 0 32 v0 rfl rfl)
  obtain ⟨s, w_s⟩ := isRow_of Try.underlying32 Try.underlying3 (by kernel_rfl) zh0
  obtain ⟨m, rfl, rfl, rfl, w_m⟩ := open_int Try.underlying3 (hval 1 3 v1 rfl rfl) zh1
  refine (walk_FnExactStretchColumns a_s n_s c_s s m W w_s w_m).mono fun e W' ⟨he, bel⟩ => ?_
  subst he
  exact ⟨_, rfl, _, _, _, [], _, [], hW', trodAll_mk1 (shut_bool Try.underlying4 _), (trodAll_cons_mk (Below.trod laid_out (by kernel_rfl) (of_decide_eq_true (by kernel_rfl)) zk0 bel zl0) (trodAll_cons_mk (Below.trod laid_out (by kernel_rfl) (of_decide_eq_true (by kernel_rfl)) zk1 bel zl1) trodAll_mk0)), rfl, bel.frame _, fun h => by cases h⟩

/-- The statement. -/
theorem FnExactStretchColumns_holds : Rows.FnExactStretchColumnsSaid :=
  OpenClaim.holds_of_wide 12 Try.f12 rfl rfl rfl rfl rfl rfl rfl ⟨rfl, rfl, rfl, rfl, rfl⟩ rfl rfl rfl rfl rfl (by kernel_rfl) Try.func12 (by unfold joinedFacts; rw [may_enter, lifts_final, make_cut]; kernel_rfl)
    (of_decide_eq_true (by kernel_rfl)) (by unfold Func.isWrapper; first | (rw [if_pos (by decide +kernel)]; kernel_rfl) | (rw [if_neg (by decide +kernel)]; exact ⟨rfl, rfl⟩))
    (fun os started H enc _ => lifted_FnExactStretchColumns os started H enc)
end Go.Proofs.Ytlkfpcajpdohiaa
