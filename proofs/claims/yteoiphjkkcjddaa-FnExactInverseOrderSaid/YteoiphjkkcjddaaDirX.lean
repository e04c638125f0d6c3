/- The exact laws on OrderOf and InverseOrder hold at every input: they answer as their models do, write into no argument, and what they return is their own. No condition. -/
import Derived.Test.YteoiphjkkcjddaaDirS
import Derived.Test.YteoiphjkkcjddaaInv
namespace Go.Proofs.Yteoiphjkkcjddaa
open Go.ChangeShapes Go.WideShapes Go.ChangeAt Go.RowKit
set_option linter.unusedVariables false

theorem row_len {w : World} {a : Option Addr} {n c : Nat} {zs : List Int} (hr : IsRow .i64 w a n c zs) : n ≤ maxLen := by
  rcases hr with ⟨_, rfl, _, _⟩ | ⟨_, _, hl, hm, _⟩
  · exact Nat.zero_le _
  · omega
theorem bl_mark {w u v : World} {B c j : Nat} {e : TypeId} {A : Option Addr} {l : List Int} (h : OL u e B A c l) (hb : Below w.heap.size w u) (hB : w.heap.size ≤ B) (hg : (u.drewN j).grownBy v (Value.slice A l.length c).ownBlock) : Below w.heap.size w v :=
  (bl_drewN hb j).grown hg hb.size (fun k hk => Nat.le_trans hB (h.own_lt k hk).1)
theorem flip_ne {x y : Option Nat} (h : ∀ k, x = some k → y ≠ some k) : ∀ k, y = some k → x ≠ some k := fun k hk e => h k e hk

theorem invO_len (l : List Int) : (invO l).length ≤ 60 := by
  cases h : okI l
  · rw [invO_no h]; simp
  · rw [invO_yes h, invL_len]; exact (okI_iff.1 h).1
set_option maxHeartbeats 2000000 in
theorem walk_FnExactOrderOf (a : Option Addr) (n c : Nat) (zs : List Int) (w : World) (hr : IsRow .i64 w a n c zs) :
    Calls Try.prog 4 #[.slice a n c] w fun e w' => e = .returned (.bool true) ∧ Below w.heap.size w w' := by
  have hx := IL.of_row hr
  obtain ⟨l, hl⟩ : ∃ l, l = zs.take n := ⟨_, rfl⟩
  rw [← hl] at hx
  have hn : n ≤ maxLen := row_len hr
  unfold maxLen at hn
  clear hr hl
  rcases (by omega : 1048576 < n ∨ n ≤ 1048576) with hb | hb
  · go_enter Try.func4, Try.ntmps4
    go_wp2
    go_ret
    exact ⟨rfl, bl_refl _⟩
  · have hnl : n = l.length := hx.1
    have hl1 : l.length ≤ 1048576 := by omega
    have hl2 : (ordO l).length ≤ 60 := ordO_len l
    have CS := fun (u : World) (A : Option Addr) (d : Nat) (h : IL u A l.length l) => OrderOf_s u A l.length d l h (by omega)
    have CI := fun (u : World) (A : Option Addr) (d : Nat) (h : IL u A l.length l) => OrderOf_i u A l.length d l h (by omega)
    obtain ⟨L, hL⟩ : ∃ L, L = ordO l := ⟨_, rfl⟩
    rw [← hL] at hl2 CS CI
    have HCS := hide CS
    have HCI := hide CI
    have HX := hide hx
    clear hnl CS CI hL hx
    go_enter Try.func4, Try.ntmps4
    go_wp2_with fail
    (with_reducible refine (toIntS_l _ _ _ _ _ HX.out hb).mono ?_)
    rintro e u1 ⟨A1, c1, rfl, ho1, hb1⟩
    go_wp2_with fail
    (with_reducible refine (HCS.out _ _ _ ho1.reads).mono ?_)
    rintro e u2 ⟨A2, c2, rfl, ho2, hb2⟩
    have HB2 := hide (bl_call hb2 hb1)
    clear ho1 hb2
    go_wp2_with fail
    (with_reducible refine (toIntS_l _ _ _ _ _ (HX.out.below HB2.out) hb).mono ?_)
    rintro e u3 ⟨A3, c3, rfl, ho3, hb3⟩
    have P23 := hide (OL.apart ho2 ho3)
    have ho2 := ho2.below hb3
    have HB3 := hide (bl_call hb3 HB2.out)
    have SZ2 := HB2.out.size
    have SZ3 := HB3.out.size
    clear hb3
    go_wp2_with fail
    (with_reducible refine (HCI.out _ _ _ ho3.reads).mono ?_)
    rintro e u4 ⟨A4, c4, rfl, ho4, hb4⟩
    have P24 := hide (OL.apart ho2 ho4)
    have P34 := hide (OL.apart ho3 ho4)
    have ho2 := ho2.below hb4
    have ho3 := ho3.below hb4
    have HB4 := hide (bl_call hb4 HB3.out)
    clear hb4
    go_wp2_with fail
    (with_reducible refine (eqIntS_l _ _ _ _ _ _ _ _ _ ho4.reads ho2.reads (by omega) (by omega)).mono ?_)
    rintro e u5 ⟨rfl, j5, rfl⟩
    simp only [decide_true]
    have HB5 := hide (bl_drewN HB4.out j5)
    go_wp2_with fail
    (with_reducible refine (toIntS_l _ _ _ _ _ (HX.out.below HB5.out) hb).mono ?_)
    rintro e u6 ⟨A6, c6, rfl, ho6, hb6⟩
    have ho2 := (ho2.drewN j5).below hb6
    have ho3 := (ho3.drewN j5).below hb6
    have ho4 := (ho4.drewN j5).below hb6
    have HB6 := hide (bl_call hb6 HB5.out)
    clear hb6
    go_wp2_with fail
    (with_reducible refine (eqIntS_l _ _ _ _ _ _ _ _ _ ho3.reads ho6.reads (by omega) (by omega)).mono ?_)
    rintro e u7 ⟨rfl, j7, rfl⟩
    simp only [decide_true]
    clear ho6
    go_wp2_with fail
    (with_reducible refine (markIntS_l _ _ _ _ _ l 1 (ho3.drewN j7) (by omega) (by omega) (by omega)).mono ?_)
    rintro e u8 ⟨rfl, _, hg8⟩
    have ho2 := (ho2.drewN j7).kept hg8 P23.out
    have ho4 := (ho4.drewN j7).kept hg8 (flip_ne P34.out)
    have HB8 := hide (bl_mark ho3 HB6.out SZ2 hg8)
    clear ho3 hg8
    have k0 : decide ((1 : Int) + (l.length : Int) < 0) = false := decide_eq_false (by omega)
    go_wp2_with fail
    (with_reducible refine (eqIntS_l _ _ _ _ _ _ _ _ _ ho4.reads ho2.reads (by omega) (by omega)).mono ?_)
    rintro e u9 ⟨rfl, j9, rfl⟩
    simp only [decide_true]
    go_wp2_with fail
    (with_reducible refine (markIntS_l _ _ _ _ _ L 1 (ho4.drewN j9) (by omega) (by omega) (by omega)).mono ?_)
    rintro e u10 ⟨rfl, ho10, hg10⟩
    have ho2 := (ho2.drewN j9).kept hg10 P24.out
    have HB10 := hide (bl_mark ho4 HB8.out SZ3 hg10)
    have hr10 := ho10.reads
    rw [upto_len] at hr10
    clear ho4 hg10 ho10
    go_wp2_with fail
    (with_reducible refine (heldIntS_l _ _ _ _ 1 hr10 (by omega) (by omega) (by omega)).mono ?_)
    rintro e w' ⟨rfl, rfl⟩
    go_wp2_with fail
    (with_reducible refine (toIntS_l _ _ _ _ _ (HX.out.below HB10.out) hb).mono ?_)
    rintro e u11 ⟨A11, c11, rfl, ho11, hb11⟩
    have ho2 := ho2.below hb11
    have hr11 := hr10.below hb11
    have HB11 := hide (bl_call hb11 HB10.out)
    clear hb11
    go_wp2_with fail
    (with_reducible refine (HCI.out _ _ _ ho11.reads).mono ?_)
    rintro e u12 ⟨A12, c12, rfl, ho12, hb12⟩
    have ho2 := ho2.below hb12
    have hr12 := hr11.below hb12
    have HB12 := hide (bl_call hb12 HB11.out)
    clear hb12 ho11
    go_wp2_with fail
    (with_reducible refine (eqIntS_l _ _ _ _ _ _ _ _ _ ho12.reads ho2.reads (by omega) (by omega)).mono ?_)
    rintro e u13 ⟨rfl, j13, rfl⟩
    simp only [decide_true]
    go_wp2_with fail
    (with_reducible refine (heldIntS_l _ _ _ _ 1 (hr12.drewN j13) (by omega) (by omega) (by omega)).mono ?_)
    rintro e w' ⟨rfl, rfl⟩
    go_wp2
    go_ret
    exact ⟨rfl, bl_drewN HB12.out _⟩
set_option maxRecDepth 100000 in
theorem lifted_FnExactOrderOf (os : Os) (started : os.Started) (H : Type) (enc : TypeId × Value → H) :
    ReturnsInHanded {} Try.checked os 4 .any (Rows.fnExactOrderOfSpec.pre6 enc Try.prog Try.f4 Rows.fnExactOrderOfRow.domain false) (Rows.fnExactOrderOfSpec.post enc Try.prog Try.f4 false true false false) := by
  refine returnsInHanded_of_change (C := Try.checked) own_knob started (by kernel_rfl) Try.func4
    (ChangeSpec.witness6 (enc := enc) (C := Try.checked) false ⟨#[], #[.slice none 0 0], []⟩ 8 (by kernel_rfl) (by kernel_rfl) (by kernel_rfl) (by kernel_rfl)) ?_
  intro W base args ds gs before hval0 hW hcnd _
  have hval : ∀ (j : Nat) t v, Try.f4.params[j]? = some t → args[j]? = some v → Value.okWide Try.prog W .any base t v := hval0
  have hW' := hW
  obtain ⟨p, q, hA0, hV, rfl, hfz, hnd⟩ := hW
  have hA : DataW.TrodAll enc Try.prog W 0 (fun _ => true) true Try.f4.params.toList args.toList ds p := hA0
  rw [Try.params4] at hA hval
  obtain ⟨v0, vs0, d0, ds0, p0, q0, hargs, rfl, rfl, zh0, r0⟩ := trodAll_cons hA
  obtain ⟨rfl, rfl, rfl⟩ := trodAll_nil r0
  obtain rfl : args = #[v0] := by cases args; simp_all
  obtain ⟨rfl, rfl⟩ := trodVars_none hV
  have zk0 := zh0
  have zl0 : ∀ x ∈ p0, x.block < W.heap.size := by obtain ⟨m, hm⟩ := zk0; exact DataW.trod_lt m _ _ _ hm
  clear hA0 hval0
  obtain ⟨a_s, n_s, c_s, rfl⟩ := okWide_slice Try.underlying22 (hval 0 22 v0 rfl rfl)
  obtain ⟨s, w_s⟩ := isRow_of Try.underlying22 Try.underlying3 (by kernel_rfl) zh0
  refine (walk_FnExactOrderOf a_s n_s c_s s W w_s).mono fun e W' ⟨he, bel⟩ => ?_
  subst he
  exact ⟨_, rfl, _, _, _, [], _, [], hW', trodAll_mk1 (shut_bool Try.underlying4 _), (trodAll_cons_mk (Below.trod laid_out (by kernel_rfl) (of_decide_eq_true (by kernel_rfl)) zk0 bel zl0) trodAll_mk0), rfl, bel.frame _, fun h => by cases h⟩

/-- The statement. -/
theorem FnExactOrderOf_holds : Rows.FnExactOrderOfSaid :=
  OpenClaim.holds_of_wide 4 Try.f4 rfl rfl rfl rfl rfl rfl rfl ⟨rfl, rfl, rfl, rfl, rfl⟩ rfl rfl rfl rfl rfl (by kernel_rfl) Try.func4 (by kernel_rfl)
    (of_decide_eq_true (by kernel_rfl)) (by unfold Func.isWrapper; first | (rw [if_pos (by decide +kernel)]; kernel_rfl) | (rw [if_neg (by decide +kernel)]; exact ⟨rfl, rfl⟩))
    (fun os started H enc _ => lifted_FnExactOrderOf os started H enc)
set_option maxHeartbeats 2000000 in
theorem walk_FnExactInverseOrder (a : Option Addr) (n c : Nat) (zs : List Int) (w : World) (hr : IsRow .i64 w a n c zs) :
    Calls Try.prog 6 #[.slice a n c] w fun e w' => e = .returned (.bool true) ∧ Below w.heap.size w w' := by
  have hx := IL.of_row hr
  obtain ⟨l, hl⟩ : ∃ l, l = zs.take n := ⟨_, rfl⟩
  rw [← hl] at hx
  have hn : n ≤ maxLen := row_len hr
  unfold maxLen at hn
  clear hr hl
  rcases (by omega : 1048576 < n ∨ n ≤ 1048576) with hb | hb
  · go_enter Try.func6, Try.ntmps6
    go_wp2
    go_ret
    exact ⟨rfl, bl_refl _⟩
  · have hnl : n = l.length := hx.1
    have hl1 : l.length ≤ 1048576 := by omega
    have hl2 : (invO l).length ≤ 60 := invO_len l
    have CS := fun (u : World) (A : Option Addr) (d : Nat) (h : IL u A l.length l) => InverseOrder_s u A l.length d l h (by omega)
    have CI := fun (u : World) (A : Option Addr) (d : Nat) (h : IL u A l.length l) => InverseOrder_i u A l.length d l h (by omega)
    obtain ⟨L, hL⟩ : ∃ L, L = invO l := ⟨_, rfl⟩
    rw [← hL] at hl2 CS CI
    have HCS := hide CS
    have HCI := hide CI
    have HX := hide hx
    clear hnl CS CI hL hx
    go_enter Try.func6, Try.ntmps6
    go_wp2_with fail
    (with_reducible refine (toIntS_l _ _ _ _ _ HX.out hb).mono ?_)
    rintro e u1 ⟨A1, c1, rfl, ho1, hb1⟩
    go_wp2_with fail
    (with_reducible refine (HCS.out _ _ _ ho1.reads).mono ?_)
    rintro e u2 ⟨A2, c2, rfl, ho2, hb2⟩
    have HB2 := hide (bl_call hb2 hb1)
    clear ho1 hb2
    go_wp2_with fail
    (with_reducible refine (toIntS_l _ _ _ _ _ (HX.out.below HB2.out) hb).mono ?_)
    rintro e u3 ⟨A3, c3, rfl, ho3, hb3⟩
    have P23 := hide (OL.apart ho2 ho3)
    have ho2 := ho2.below hb3
    have HB3 := hide (bl_call hb3 HB2.out)
    have SZ2 := HB2.out.size
    have SZ3 := HB3.out.size
    clear hb3
    go_wp2_with fail
    (with_reducible refine (HCI.out _ _ _ ho3.reads).mono ?_)
    rintro e u4 ⟨A4, c4, rfl, ho4, hb4⟩
    have P24 := hide (OL.apart ho2 ho4)
    have P34 := hide (OL.apart ho3 ho4)
    have ho2 := ho2.below hb4
    have ho3 := ho3.below hb4
    have HB4 := hide (bl_call hb4 HB3.out)
    clear hb4
    go_wp2_with fail
    (with_reducible refine (eqIntS_l _ _ _ _ _ _ _ _ _ ho4.reads ho2.reads (by omega) (by omega)).mono ?_)
    rintro e u5 ⟨rfl, j5, rfl⟩
    simp only [decide_true]
    have HB5 := hide (bl_drewN HB4.out j5)
    go_wp2_with fail
    (with_reducible refine (toIntS_l _ _ _ _ _ (HX.out.below HB5.out) hb).mono ?_)
    rintro e u6 ⟨A6, c6, rfl, ho6, hb6⟩
    have ho2 := (ho2.drewN j5).below hb6
    have ho3 := (ho3.drewN j5).below hb6
    have ho4 := (ho4.drewN j5).below hb6
    have HB6 := hide (bl_call hb6 HB5.out)
    clear hb6
    go_wp2_with fail
    (with_reducible refine (eqIntS_l _ _ _ _ _ _ _ _ _ ho3.reads ho6.reads (by omega) (by omega)).mono ?_)
    rintro e u7 ⟨rfl, j7, rfl⟩
    simp only [decide_true]
    clear ho6
    go_wp2_with fail
    (with_reducible refine (markIntS_l _ _ _ _ _ l 1 (ho3.drewN j7) (by omega) (by omega) (by omega)).mono ?_)
    rintro e u8 ⟨rfl, _, hg8⟩
    have ho2 := (ho2.drewN j7).kept hg8 P23.out
    have ho4 := (ho4.drewN j7).kept hg8 (flip_ne P34.out)
    have HB8 := hide (bl_mark ho3 HB6.out SZ2 hg8)
    clear ho3 hg8
    have k0 : decide ((1 : Int) + (l.length : Int) < 0) = false := decide_eq_false (by omega)
    go_wp2_with fail
    (with_reducible refine (eqIntS_l _ _ _ _ _ _ _ _ _ ho4.reads ho2.reads (by omega) (by omega)).mono ?_)
    rintro e u9 ⟨rfl, j9, rfl⟩
    simp only [decide_true]
    go_wp2_with fail
    (with_reducible refine (markIntS_l _ _ _ _ _ L 1 (ho4.drewN j9) (by omega) (by omega) (by omega)).mono ?_)
    rintro e u10 ⟨rfl, ho10, hg10⟩
    have ho2 := (ho2.drewN j9).kept hg10 P24.out
    have HB10 := hide (bl_mark ho4 HB8.out SZ3 hg10)
    have hr10 := ho10.reads
    rw [upto_len] at hr10
    clear ho4 hg10 ho10
    go_wp2_with fail
    (with_reducible refine (heldIntS_l _ _ _ _ 1 hr10 (by omega) (by omega) (by omega)).mono ?_)
    rintro e w' ⟨rfl, rfl⟩
    go_wp2_with fail
    (with_reducible refine (toIntS_l _ _ _ _ _ (HX.out.below HB10.out) hb).mono ?_)
    rintro e u11 ⟨A11, c11, rfl, ho11, hb11⟩
    have ho2 := ho2.below hb11
    have hr11 := hr10.below hb11
    have HB11 := hide (bl_call hb11 HB10.out)
    clear hb11
    go_wp2_with fail
    (with_reducible refine (HCI.out _ _ _ ho11.reads).mono ?_)
    rintro e u12 ⟨A12, c12, rfl, ho12, hb12⟩
    have ho2 := ho2.below hb12
    have hr12 := hr11.below hb12
    have HB12 := hide (bl_call hb12 HB11.out)
    clear hb12 ho11
    go_wp2_with fail
    (with_reducible refine (eqIntS_l _ _ _ _ _ _ _ _ _ ho12.reads ho2.reads (by omega) (by omega)).mono ?_)
    rintro e u13 ⟨rfl, j13, rfl⟩
    simp only [decide_true]
    go_wp2_with fail
    (with_reducible refine (heldIntS_l _ _ _ _ 1 (hr12.drewN j13) (by omega) (by omega) (by omega)).mono ?_)
    rintro e w' ⟨rfl, rfl⟩
    go_wp2
    go_ret
    exact ⟨rfl, bl_drewN HB12.out _⟩
set_option maxRecDepth 100000 in
theorem lifted_FnExactInverseOrder (os : Os) (started : os.Started) (H : Type) (enc : TypeId × Value → H) :
    ReturnsInHanded {} Try.checked os 6 .any (Rows.fnExactInverseOrderSpec.pre6 enc Try.prog Try.f6 Rows.fnExactInverseOrderRow.domain false) (Rows.fnExactInverseOrderSpec.post enc Try.prog Try.f6 false true false false) := by
  refine returnsInHanded_of_change (C := Try.checked) own_knob started (by kernel_rfl) Try.func6
    (ChangeSpec.witness6 (enc := enc) (C := Try.checked) false ⟨#[], #[.slice none 0 0], []⟩ 8 (by kernel_rfl) (by kernel_rfl) (by kernel_rfl) (by kernel_rfl)) ?_
  intro W base args ds gs before hval0 hW hcnd _
  have hval : ∀ (j : Nat) t v, Try.f6.params[j]? = some t → args[j]? = some v → Value.okWide Try.prog W .any base t v := hval0
  have hW' := hW
  obtain ⟨p, q, hA0, hV, rfl, hfz, hnd⟩ := hW
  have hA : DataW.TrodAll enc Try.prog W 0 (fun _ => true) true Try.f6.params.toList args.toList ds p := hA0
  rw [Try.params6] at hA hval
  obtain ⟨v0, vs0, d0, ds0, p0, q0, hargs, rfl, rfl, zh0, r0⟩ := trodAll_cons hA
  obtain ⟨rfl, rfl, rfl⟩ := trodAll_nil r0
  obtain rfl : args = #[v0] := by cases args; simp_all
  obtain ⟨rfl, rfl⟩ := trodVars_none hV
  have zk0 := zh0
  have zl0 : ∀ x ∈ p0, x.block < W.heap.size := by obtain ⟨m, hm⟩ := zk0; exact DataW.trod_lt m _ _ _ hm
  clear hA0 hval0
  obtain ⟨a_s, n_s, c_s, rfl⟩ := okWide_slice Try.underlying22 (hval 0 22 v0 rfl rfl)
  obtain ⟨s, w_s⟩ := isRow_of Try.underlying22 Try.underlying3 (by kernel_rfl) zh0
  refine (walk_FnExactInverseOrder a_s n_s c_s s W w_s).mono fun e W' ⟨he, bel⟩ => ?_
  subst he
  exact ⟨_, rfl, _, _, _, [], _, [], hW', trodAll_mk1 (shut_bool Try.underlying4 _), (trodAll_cons_mk (Below.trod laid_out (by kernel_rfl) (of_decide_eq_true (by kernel_rfl)) zk0 bel zl0) trodAll_mk0), rfl, bel.frame _, fun h => by cases h⟩

/-- The statement. -/
theorem FnExactInverseOrder_holds : Rows.FnExactInverseOrderSaid :=
  OpenClaim.holds_of_wide 6 Try.f6 rfl rfl rfl rfl rfl rfl rfl ⟨rfl, rfl, rfl, rfl, rfl⟩ rfl rfl rfl rfl rfl (by kernel_rfl) Try.func6 (by kernel_rfl)
    (of_decide_eq_true (by kernel_rfl)) (by unfold Func.isWrapper; first | (rw [if_pos (by decide +kernel)]; kernel_rfl) | (rw [if_neg (by decide +kernel)]; exact ⟨rfl, rfl⟩))
    (fun os started H enc _ => lifted_FnExactInverseOrder os started H enc)
end Go.Proofs.Yteoiphjkkcjddaa
