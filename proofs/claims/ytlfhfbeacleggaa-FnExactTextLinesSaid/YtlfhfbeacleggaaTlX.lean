/- The exact law on TextLines holds at every input: it answers as its model does, writes into no argument, and what it returns is its own. No condition. -/
import Derived.Test.YtlfhfbeacleggaaJn
import Derived.Test.YtlfhfbeacleggaaTlS
import Derived.Test.YtlfhfbeacleggaaMkG
namespace Go.Proofs.Ytlfhfbeacleggaa
open Go.ChangeShapes Go.WideShapes Go.ChangeAt Go.RowKit
set_option linter.unusedVariables false
open Classical

theorem bl_markT {w u v : World} {B : Nat} {x : Option Nat} (h : ∀ k, x = some k → B ≤ k) (hb : Below w.heap.size w u) (hB : w.heap.size ≤ B) (hg : u.grownBy v x) : Below w.heap.size w v :=
  hb.grown hg hb.size (fun k hk => Nat.le_trans hB (h k hk))
theorem row_lenT {w : World} {a : Option Addr} {n c : Nat} {zs : List Int} (hr : IsRow .i64 w a n c zs) : n ≤ maxLen := by
  rcases hr with ⟨_, rfl, _, _⟩ | ⟨_, _, hl, hm, _⟩
  · exact Nat.zero_le _
  · omega
theorem flip_nT {x y : Option Nat} (h : ∀ k, x = some k → y ≠ some k) : ∀ k, y = some k → x ≠ some k := fun k hk e => h k e hk
theorem tlO_len {l : List Int} {h : Int} : (tlO l h).length ≤ 40 := by
  cases q : okW l && inB h 1 1000
  · rw [tlO_no q]; simp
  · rw [tlO_yes q, tlL_len]
    exact fiL_le (okW_iff.1 (by simp only [Bool.and_eq_true] at q; exact q.1)) (Nat.le_refl _)
set_option maxHeartbeats 2000000 in
theorem walk_FnExactTextLines (a : Option Addr) (n c : Nat) (zs : List Int) (m : Int) (w : World) (hr : IsRow .i64 w a n c zs) (hm : (Lit.int .i64 m).wf = true) :
    Calls Try.prog 6 #[.slice a n c, .int .i64 m] w fun e w' => e = .returned (.bool true) ∧ Below w.heap.size w w' := by
  have hx := IL.of_row hr
  obtain ⟨l, hl⟩ : ∃ l, l = zs.take n := ⟨_, rfl⟩
  rw [← hl] at hx
  have hn : n ≤ maxLen := row_lenT hr
  unfold maxLen at hn
  clear hr hm hl
  rcases (by omega : 1048576 < n ∨ n ≤ 1048576) with hb | hb
  · go_enter Try.func6, Try.ntmps6
    go_wp2
    go_ret
    exact ⟨rfl, bl_refl _⟩
  have hnl : n = l.length := hx.1
  have hl1 : l.length ≤ 1048576 := by omega
  have hl2 := tlO_len (l := l) (h := m)
  have CS := fun (u : World) (A : Option Addr) (d : Nat) (h : IL u A l.length l) => TextLines_s u A l.length d l m h (by omega)
  have CI := fun (u : World) (A : Option Addr) (d : Nat) (h : IL u A l.length l) => TextLines_i u A l.length d l m h (by omega)
  obtain ⟨L, hL⟩ : ∃ L, L = tlO l m := ⟨_, rfl⟩
  rw [← hL] at hl2 CS CI
  have HCS := hide CS
  have HCI := hide CI
  have HX := hide hx
  clear hnl CS CI hL hx
  go_enter Try.func6, Try.ntmps6
  go_wp2_with fail
  (with_reducible refine (toIntS_l _ _ _ _ _ HX.out hb).mono ?_)
  rintro e u1 ⟨A1, c1, rfl, ho1, hb1⟩
  go_wp2_with fail
  (with_reducible refine (HCS.out _ _ _ ho1.reads).mono ?_)
  rintro e u2 ⟨A2, c2, rfl, ho2, hb2⟩
  have HB2 := hide (bl_call hb2 hb1)
  clear ho1 hb2
  go_wp2_with fail
  (with_reducible refine (toIntS_l _ _ _ _ _ (HX.out.below HB2.out) hb).mono ?_)
  rintro e u3 ⟨A3, c3, rfl, ho3, hb3⟩
  have P23 := hide (TO.apart ho2 ho3)
  have ho2 := ho2.below hb3
  have HB3 := hide (bl_call hb3 HB2.out)
  have SZ2 := HB2.out.size
  have SZ3 := HB3.out.size
  clear hb3
  go_wp2_with fail
  (with_reducible refine (HCI.out _ _ _ ho3.reads).mono ?_)
  rintro e u4 ⟨A4, c4, rfl, ho4, hb4⟩
  have P24 := hide (TO.apart ho2 ho4)
  have P34 := hide (fun k (hk : (Value.slice A3 l.length c3).ownBlock = some k) (hk' : (Value.slice A4 L.length c4).ownBlock = some k) => show False by
    have a := (ho3.own_lt k hk).2
    have b := (TO.own_lt ho4 k hk').1
    omega)
  have ho2 := ho2.below hb4
  have ho3 := ho3.below hb4
  have HB4 := hide (bl_call hb4 HB3.out)
  clear hb4
  go_wp2_with fail
  (with_reducible refine (eqLineS_g _ _ _ _ _ _ L ho4.reads ho2.reads (by omega)).mono ?_)
  rintro e u5 ⟨rfl, hb5⟩
  have ho2 := ho2.below hb5
  have ho3 := ho3.below hb5
  have ho4 := ho4.below hb5
  have HB5 := hide (bl_call hb5 HB4.out)
  clear hb5
  go_wp2_with fail
  (with_reducible refine (toIntS_l _ _ _ _ _ (HX.out.below HB5.out) hb).mono ?_)
  rintro e u6 ⟨A6, c6, rfl, ho6, hb6⟩
  have ho2 := ho2.below hb6
  have ho3 := ho3.below hb6
  have ho4 := ho4.below hb6
  have HB6 := hide (bl_call hb6 HB5.out)
  clear hb6
  go_wp2_with fail
  (with_reducible refine (eqIntS_l _ _ _ _ _ _ _ _ _ ho3.reads ho6.reads (by omega) (by omega)).mono ?_)
  rintro e u7 ⟨rfl, j7, rfl⟩
  simp only [decide_true]
  clear ho6
  have L3 := hide (fun k h => (ho3.own_lt k h).1)
  have L4 := hide (fun k h => (TO.own_lt ho4 k h).1)
  have HB7 := hide (bl_drewN HB6.out j7)
  have ho2 : TO (u6.drewN j7) _ _ _ _ L := ho2
  have ho4 : TO (u6.drewN j7) _ _ _ _ L := ho4
  go_wp2_with fail
  (with_reducible refine (markIntS_l _ _ _ _ _ l 1 (ho3.drewN j7) (by omega) (by omega) (by omega)).mono ?_)
  rintro e u8 ⟨rfl, _, hg8⟩
  have ho2 := ho2.kept hg8 P23.out
  have ho4 := ho4.kept hg8 (fun k hk e => P34.out k e hk)
  have HB8 := hide (bl_markT L3.out HB7.out SZ2 hg8)
  clear ho3 hg8
  have k0 : decide ((1 : Int) + (l.length : Int) < 0) = false := decide_eq_false (by omega)
  go_wp2_with fail
  (with_reducible refine (eqLineS_g _ _ _ _ _ _ L ho4.reads ho2.reads (by omega)).mono ?_)
  rintro e u9 ⟨rfl, hb9⟩
  have ho2 := ho2.below hb9
  have ho4 := ho4.below hb9
  have HB9 := hide (bl_call hb9 HB8.out)
  clear hb9
  go_wp2_with fail
  (with_reducible refine (markLineS_g _ _ _ _ _ L ho4 (by omega)).mono ?_)
  rintro e u10 ⟨rfl, ho10, hg10⟩
  have ho2 := ho2.kept hg10 P24.out
  have HB10 := hide (bl_markT L4.out HB9.out SZ3 hg10)
  have HR10 := hide (show TL u10 A4 L.length (mkGs L.length) by have h9 := ho10.reads; rwa [mkGs_len] at h9)
  clear ho4 hg10 ho10
  go_wp2_with fail
  (with_reducible refine (heldLineS_g _ _ _ _ HR10.out (by omega)).mono ?_)
  rintro e w' ⟨rfl, rfl⟩
  go_wp2_with fail
  (with_reducible refine (toIntS_l _ _ _ _ _ (HX.out.below HB10.out) hb).mono ?_)
  rintro e u11 ⟨A11, c11, rfl, ho11, hb11⟩
  have ho2 := ho2.below hb11
  have HR11 := hide (HR10.out.below hb11)
  have HB11 := hide (bl_call hb11 HB10.out)
  clear hb11
  go_wp2_with fail
  (with_reducible refine (HCI.out _ _ _ ho11.reads).mono ?_)
  rintro e u12 ⟨A12, c12, rfl, ho12, hb12⟩
  have ho2 := ho2.below hb12
  have HR12 := hide (HR11.out.below hb12)
  have HB12 := hide (bl_call hb12 HB11.out)
  clear hb12 ho11
  go_wp2_with fail
  (with_reducible refine (eqLineS_g _ _ _ _ _ _ L ho12.reads ho2.reads (by omega)).mono ?_)
  rintro e u13 ⟨rfl, hb13⟩
  have HR13 := hide (HR12.out.below hb13)
  have HB13 := hide (bl_call hb13 HB12.out)
  clear hb13
  go_wp2_with fail
  (with_reducible refine (heldLineS_g _ _ _ _ HR13.out (by omega)).mono ?_)
  rintro e w' ⟨rfl, rfl⟩
  go_wp2
  go_ret
  exact ⟨rfl, HB13.out⟩
set_option maxRecDepth 100000 in
theorem lifted_FnExactTextLines (os : Os) (started : os.Started) (H : Type) (enc : TypeId × Value → H) :
    ReturnsInHanded {} Try.checked os 6 .any (Rows.fnExactTextLinesSpec.pre6 enc Try.prog Try.f6 Rows.fnExactTextLinesRow.domain false) (Rows.fnExactTextLinesSpec.post enc Try.prog Try.f6 false true false false) := by
  refine returnsInHanded_of_change (C := Try.checked) own_knob started (by kernel_rfl) Try.func6
    (ChangeSpec.witness6 (enc := enc) (C := Try.checked) false ⟨#[], #[.slice none 0 0, .int .i64 0], []⟩ 8 (by kernel_rfl) (by kernel_rfl) (by kernel_rfl) (by kernel_rfl)) ?_
  intro W base args ds gs before hval0 hW hcnd _
  have hval : ∀ (j : Nat) t v, Try.f6.params[j]? = some t → args[j]? = some v → Value.okWide Try.prog W .any base t v := hval0
  have hW' := hW
  obtain ⟨p, q, hA0, hV, rfl, hfz, hnd⟩ := hW
  have hA : DataW.TrodAll enc Try.prog W 0 (fun _ => true) true Try.f6.params.toList args.toList ds p := hA0
  rw [Try.params6] at hA hval
  obtain ⟨v0, vs0, d0, ds0, p0, q0, hargs, rfl, rfl, zh0, r0⟩ := trodAll_cons hA
  obtain ⟨v1, vs1, d1, ds1, p1, q1, rfl, rfl, rfl, zh1, r1⟩ := trodAll_cons r0
  obtain ⟨rfl, rfl, rfl⟩ := trodAll_nil r1
  obtain rfl : args = #[v0, v1] := by cases args; simp_all
  obtain ⟨rfl, rfl⟩ := trodVars_none hV
  have zk0 := zh0
  have zl0 : ∀ x ∈ p0, x.block < W.heap.size := by obtain ⟨m, hm⟩ := zk0; exact DataW.trod_lt m _ _ _ hm
  have zk1 := zh1
  have zl1 : ∀ x ∈ p1, x.block < W.heap.size := by obtain ⟨m, hm⟩ := zk1; exact DataW.trod_lt m _ _ _ hm
  clear hA0 hval0
  obtain ⟨a_s, n_s, c_s, rfl⟩ := okWide_slice Try.underlying32 (hval 0 32 v0 rfl rfl)
  obtain ⟨s, w_s⟩ := isRow_of Try.underlying32 Try.underlying3 (by kernel_rfl) zh0
  obtain ⟨m, rfl, rfl, rfl, w_m⟩ := open_int Try.underlying3 (hval 1 3 v1 rfl rfl) zh1
  refine (walk_FnExactTextLines a_s n_s c_s s m W w_s w_m).mono fun e W' ⟨he, bel⟩ => ?_
  subst he
  exact ⟨_, rfl, _, _, _, [], _, [], hW', trodAll_mk1 (shut_bool Try.underlying4 _), (trodAll_cons_mk (Below.trod laid_out (by kernel_rfl) (of_decide_eq_true (by kernel_rfl)) zk0 bel zl0) (trodAll_cons_mk (Below.trod laid_out (by kernel_rfl) (of_decide_eq_true (by kernel_rfl)) zk1 bel zl1) trodAll_mk0)), rfl, bel.frame _, fun h => by cases h⟩

/-- The statement. -/
theorem FnExactTextLines_holds : Rows.FnExactTextLinesSaid :=
  OpenClaim.holds_of_wide 6 Try.f6 rfl rfl rfl rfl rfl rfl rfl ⟨rfl, rfl, rfl, rfl, rfl⟩ rfl rfl rfl rfl rfl (by kernel_rfl) Try.func6 (by unfold joinedFacts; rw [may_enter, lifts_final, make_cut]; kernel_rfl)
    (of_decide_eq_true (by kernel_rfl)) (by unfold Func.isWrapper; first | (rw [if_pos (by decide +kernel)]; kernel_rfl) | (rw [if_neg (by decide +kernel)]; exact ⟨rfl, rfl⟩))
    (fun os started H enc _ => lifted_FnExactTextLines os started H enc)
end Go.Proofs.Ytlfhfbeacleggaa
