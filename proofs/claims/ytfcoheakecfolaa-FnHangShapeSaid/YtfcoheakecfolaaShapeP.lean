/- The promises on shapes hold for every code: the last width is repeated; indented lines are shorter; nothing hangs without lines. No condition. -/
import Derived.Test.YtfcoheakecfolaaDrawI
import Derived.Test.YtfcoheakecfolaaShapeI
import Derived.Test.YtfcoheakecfolaaHang
import Derived.Deep.RegionWith
namespace Go.Proofs.Ytfcoheakecfolaa
open Go.ChangeShapes Go.WideShapes Go.ChangeAt Go.RowKit
set_option linter.unusedVariables false

theorem hangA_of {w d f c : Int} (h : hangOk w d f c = true) : okShape (hangA w d f c) = true ∧ (hangA w d f c).length = (f + c + 1).toNat ∧ ∀ i : Nat, wol (hangA w d f c) i = if f ≤ i ∧ (i : Int) < f + c then w - d else w := by
  obtain ⟨h1, h2, h3, h4, h5⟩ := hangOk_iff.1 h
  obtain ⟨f, rfl⟩ := Int.eq_ofNat_of_zero_le h3.1
  obtain ⟨c, rfl⟩ := Int.eq_ofNat_of_zero_le h4.1
  have e := hangA_yes h
  have el := hangL_len w d f c
  have ok : okShape (hangL w d f c) = true := okShape_iff.2 ⟨by omega, fun j hj => by
    rw [hangL_get (by omega)]
    split <;> omega⟩
  rw [e]
  refine ⟨ok, by omega, fun i => ?_⟩
  rw [wol_yes ok, el, hangL_get (by omega)]
  by_cases hi : f ≤ i ∧ i < f + c
  · rw [if_pos (by omega), if_pos (by omega)]
  · rw [if_neg (by omega), if_neg (by omega)]

theorem walk_FnHangShape (a : Option Addr) (n c : Nat) (zs : List Int) (w : World) (hr : IsRow .u8 w a n c zs) :
    Calls Try.prog 6 #[.slice a n c] w fun e w' => e = .returned (.bool true) ∧ Below w.heap.size w w' := by
  have hm := small_row hr
  unfold maxLen at hm
  rcases (by omega : 1048576 < n ∨ n ≤ 1048576) with hn | hn
  · go_enter Try.func6, Try.ntmps6
    go_wp2
    go_ret
    exact ⟨rfl, bl_refl _⟩
  · go_enter Try.func6, Try.ntmps6
    go_wp2_with fail
    refine (DrawHangShape_any _ _ _ _ _ hr).mono ?_
    rintro e u0 ⟨x, y, z, t, rfl, ⟨hx0, hx1⟩, ⟨hy0, hy1⟩, ⟨hz0, hz1⟩, ⟨ht0, ht1⟩, hb⟩
    clear hr
    have CS := fun (u : World) => HangShape_s x y z t u
    have CI := fun (u : World) => HangShape_i x y z t u
    obtain ⟨L, hL⟩ : ∃ L, L = hangA x y z t := ⟨_, rfl⟩
    obtain ⟨ok, hok⟩ : ∃ ok, ok = hangOk x y z t := ⟨_, rfl⟩
    rw [← hL, ← hok] at CS CI
    have HCS := hide CS
    have HCI := hide CI
    have HL := hide hL
    have HOK := hide hok
    have hlen : L.length ≤ 50 := by
      rw [hL]
      unfold hangA
      split
      · rw [hangL_len]; omega
      · simp
    clear CS CI hL hok
    go_wp2_with fail
    refine (HCI.out _).mono ?_
    rintro e u1 ⟨A1, c1, rfl, ho1, hb1⟩
    go_wp2_with fail
    refine (HCS.out _).mono ?_
    rintro e u2 ⟨A2, c2, rfl, ho2, hb2⟩
    have ho1 := ho1.below hb2
    cases ok
    · go_wp2_with fail
      refine (eqInts_l _ _ _ _ _ _ _ _ _ ho1.reads ho2.reads (by omega) (by omega)).mono ?_
      rintro e w' ⟨rfl, j, rfl⟩
      simp only [decide_true]
      go_wp2_with fail
      refine (eqInts_l _ _ _ _ _ _ _ _ _ (ho1.drewN _).reads (ho2.drewN _).reads (by omega) (by omega)).mono ?_
      rintro e w' ⟨rfl, j2, rfl⟩
      simp only [decide_true]
      go_wp2
      go_ret
      refine ⟨rfl, ?_⟩
      repeat' (first | with_reducible exact bl_refl _ | with_reducible assumption | with_reducible refine bl_alloc ?_ _ | with_reducible refine bl_set ?_ ?_ _ | with_reducible refine bl_drewN ?_ _ | with_reducible refine bl_drew ?_ | with_reducible refine bl_call (by assumption) ?_)
    · have V := hangA_of HOK.out.symm
      rw [← HL.out] at V
      obtain ⟨v1, v2, v3⟩ := V
      have V := hangOk_iff.1 HOK.out.symm
      obtain ⟨⟨b0, b1⟩, ⟨b2, b3⟩, ⟨b4, b5⟩, ⟨b6, b7⟩, b8⟩ := V
      have H2 := hide v2
      have H3 := hide v3
      clear v1 v2 v3
      go_wp2_with fail
      refine (eqInts_l _ _ _ _ _ _ _ _ _ ho1.reads ho2.reads (by omega) (by omega)).mono ?_
      rintro e w' ⟨rfl, j, rfl⟩
      simp only [decide_true]
      go_wp2
      go_loopw [11] (fun i u => ∃ p : Nat, (p : Int) ≤ z + t + 3 ∧ i = .int .i64 p ∧ Below u2.heap.size u2 u) (fun i _ => (z + t + 3 - intOf i).toNat)
      case atStart => exact ⟨0, by omega, rfl, bl_drewN (bl_refl _) _⟩
      case round =>
        obtain ⟨p, hp, rfl, hbl⟩ := hrel
        by_cases hlt : (p : Int) < z + t + 3
        · have W := H3.out p
          rcases (by omega : (p : Int) < z ∨ z ≤ p ∧ (p : Int) < z + t ∨ z ≤ p ∧ z + t ≤ (p : Int)) with h | ⟨h, h'⟩ | ⟨h, h'⟩
          · rw [if_neg (by omega)] at W
            have HW := hide W
            clear W
            go_wp2_with fail
            refine (WidthOfLine_i _ _ _ _ _ _ (ho1.reads.below hbl) (by omega)).mono ?_
            rintro e u3 ⟨rfl, hb3⟩
            rw [HW.out]
            go_wp2
            go_roundw
            case rel => exact ⟨p + 1, by omega, by go_num, bl_call hb3 hbl⟩
            case measure => simp [intOf]; omega
          · rw [if_pos ⟨h, h'⟩] at W
            have HW := hide W
            clear W
            go_wp2_with fail
            refine (WidthOfLine_i _ _ _ _ _ _ (ho1.reads.below hbl) (by omega)).mono ?_
            rintro e u3 ⟨rfl, hb3⟩
            rw [HW.out]
            go_wp2
            go_roundw
            case rel => exact ⟨p + 1, by omega, by go_num, bl_call hb3 hbl⟩
            case measure => simp [intOf]; omega
          · rw [if_neg (by omega)] at W
            have HW := hide W
            clear W
            go_wp2_with fail
            refine (WidthOfLine_i _ _ _ _ _ _ (ho1.reads.below hbl) (by omega)).mono ?_
            rintro e u3 ⟨rfl, hb3⟩
            rw [HW.out]
            go_wp2
            go_roundw
            case rel => exact ⟨p + 1, by omega, by go_num, bl_call hb3 hbl⟩
            case measure => simp [intOf]; omega
        · have E : Hid ((L.length : Int) = z + t + 1) := hide (by have := H2.out; omega)
          have E2 : ((L.length : Int) == z + t + 1) = true := by rw [E.out]; simp
          go_wp2
          go_ret
          refine ⟨rfl, ?_⟩
          exact bl_call hbl (bl_call hb2 (bl_call hb1 hb))
set_option maxRecDepth 100000 in
theorem lifted_FnHangShape (os : Os) (started : os.Started) (H : Type) (enc : TypeId × Value → H) :
    ReturnsInHanded {} Try.checked os 6 .any (Rows.fnHangShapeSpec.pre6 enc Try.prog Try.f6 Rows.fnHangShapeRow.domain false) (Rows.fnHangShapeSpec.post enc Try.prog Try.f6 false true false false) := by
  refine returnsInHanded_of_change (C := Try.checked) own_knob started (by kernel_rfl) Try.func6
    (ChangeSpec.witness6 (enc := enc) (C := Try.checked) false ⟨#[], #[.slice none 0 0], []⟩ 8 (by kernel_rfl) (by kernel_rfl) (by kernel_rfl) (by kernel_rfl)) ?_
  intro W base args ds gs before hval0 hW hcnd _
  have hval : ∀ (j : Nat) t v, Try.f6.params[j]? = some t → args[j]? = some v → Value.okWide Try.prog W .any base t v := hval0
  have hW' := hW
  obtain ⟨p, q, hA0, hV, rfl, hfz, hnd⟩ := hW
  have hA : DataW.TrodAll enc Try.prog W 0 (fun _ => true) true Try.f6.params.toList args.toList ds p := hA0
  rw [Try.params6] at hA hval
  obtain ⟨v0, vs0, d0, ds0, p0, q0, hargs, rfl, rfl, zh0, r0⟩ := trodAll_cons hA
  obtain ⟨rfl, rfl, rfl⟩ := trodAll_nil r0
  obtain rfl : args = #[v0] := by cases args; simp_all
  obtain ⟨rfl, rfl⟩ := trodVars_none hV
  have zk0 := zh0
  have zl0 : ∀ x ∈ p0, x.block < W.heap.size := by obtain ⟨m, hm⟩ := zk0; exact DataW.trod_lt m _ _ _ hm
  clear hA0 hval0
  obtain ⟨a_code, n_code, c_code, rfl⟩ := okWide_slice Try.underlying22 (hval 0 22 v0 rfl rfl)
  obtain ⟨code, w_code⟩ := isRow_of Try.underlying22 Try.underlying5 (by kernel_rfl) zh0
  refine (walk_FnHangShape a_code n_code c_code code W w_code).mono fun e W' ⟨he, bel⟩ => ?_
  subst he
  exact ⟨_, rfl, _, _, _, [], _, [], hW', trodAll_mk1 (shut_bool Try.underlying4 _), (trodAll_cons_mk (Below.trod laid_out (by kernel_rfl) (of_decide_eq_true (by kernel_rfl)) zk0 bel zl0) trodAll_mk0), rfl, bel.frame _, fun h => by cases h⟩

/-- The statement. -/
theorem FnHangShape_holds : Rows.FnHangShapeSaid :=
  OpenClaim.holds_of_wide 6 Try.f6 rfl rfl rfl rfl rfl rfl rfl ⟨rfl, rfl, rfl, rfl, rfl⟩ rfl rfl rfl rfl rfl (by kernel_rfl) Try.func6 (by kernel_rfl)
    (of_decide_eq_true (by kernel_rfl)) (by unfold Func.isWrapper; first | (rw [if_pos (by decide +kernel)]; kernel_rfl) | (rw [if_neg (by decide +kernel)]; exact ⟨rfl, rfl⟩))
    (fun os started H enc _ => lifted_FnHangShape os started H enc)

theorem hangA_plain {w d f c : Int} (h : hangOk w d f c = true) : hangOk w d f 0 = true ∧ (hangA w d f 0).length = (f + 1).toNat ∧ ∀ i : Nat, i < (hangA w d f 0).length → ng (hangA w d f 0) i = w := by
  obtain ⟨h1, h2, h3, h4, h5⟩ := hangOk_iff.1 h
  have ok : hangOk w d f 0 = true := hangOk_iff.2 ⟨h1, h2, h3, by omega, by omega⟩
  have V := hangA_of ok
  refine ⟨ok, by rw [V.2.1]; simp, fun i hi => ?_⟩
  have e := V.2.2 i
  rw [wol_yes V.1, show min i ((hangA w d f 0).length - 1) = i from by omega, if_neg (by omega)] at e
  exact e

theorem walk_FnHangPlain (a : Option Addr) (n c : Nat) (zs : List Int) (w : World) (hr : IsRow .u8 w a n c zs) :
    Calls Try.prog 7 #[.slice a n c] w fun e w' => e = .returned (.bool true) ∧ Below w.heap.size w w' := by
  have hm := small_row hr
  unfold maxLen at hm
  rcases (by omega : 1048576 < n ∨ n ≤ 1048576) with hn | hn
  · go_enter Try.func7, Try.ntmps7
    go_wp2
    go_ret
    exact ⟨rfl, bl_refl _⟩
  · go_enter Try.func7, Try.ntmps7
    go_wp2_with fail
    refine (DrawHangShape_any _ _ _ _ _ hr).mono ?_
    rintro e u0 ⟨x, y, z, t, rfl, ⟨hx0, hx1⟩, ⟨hy0, hy1⟩, ⟨hz0, hz1⟩, ⟨ht0, ht1⟩, hb⟩
    clear hr
    have CS := fun (u : World) => HangShape_s x y z t u
    have CI := fun (u : World) => HangShape_i x y z t u
    have CP := fun (u : World) => HangShape_i x y z 0 u
    obtain ⟨L, hL⟩ : ∃ L, L = hangA x y z t := ⟨_, rfl⟩
    obtain ⟨ok, hok⟩ : ∃ ok, ok = hangOk x y z t := ⟨_, rfl⟩
    rw [← hL, ← hok] at CS CI
    have HCS := hide CS
    have HCI := hide CI
    have HL := hide hL
    have HOK := hide hok
    have hlen : L.length ≤ 50 := by
      rw [hL]
      unfold hangA
      split
      · rw [hangL_len]; omega
      · simp
    clear CS CI hL hok
    go_wp2_with fail
    refine (HCI.out _).mono ?_
    rintro e u1 ⟨A1, c1, rfl, ho1, hb1⟩
    go_wp2_with fail
    refine (HCS.out _).mono ?_
    rintro e u2 ⟨A2, c2, rfl, ho2, hb2⟩
    have ho1 := ho1.below hb2
    cases ok
    · clear CP
      go_wp2_with fail
      refine (eqInts_l _ _ _ _ _ _ _ _ _ ho1.reads ho2.reads (by omega) (by omega)).mono ?_
      rintro e w' ⟨rfl, j, rfl⟩
      simp only [decide_true]
      go_wp2_with fail
      refine (eqInts_l _ _ _ _ _ _ _ _ _ (ho1.drewN _).reads (ho2.drewN _).reads (by omega) (by omega)).mono ?_
      rintro e w' ⟨rfl, j2, rfl⟩
      simp only [decide_true]
      go_wp2
      go_ret
      refine ⟨rfl, ?_⟩
      repeat' (first | with_reducible exact bl_refl _ | with_reducible assumption | with_reducible refine bl_alloc ?_ _ | with_reducible refine bl_set ?_ ?_ _ | with_reducible refine bl_drewN ?_ _ | with_reducible refine bl_drew ?_ | with_reducible refine bl_call (by assumption) ?_)
    · have V := hangA_plain HOK.out.symm
      obtain ⟨v1, v2, v3⟩ := V
      obtain ⟨M, hM⟩ : ∃ M, M = hangA x y z 0 := ⟨_, rfl⟩
      rw [← hM] at v2 v3 CP
      rw [v1] at CP
      have V := hangOk_iff.1 HOK.out.symm
      obtain ⟨⟨b0, b1⟩, ⟨b2, b3⟩, ⟨b4, b5⟩, ⟨b6, b7⟩, b8⟩ := V
      have hml : M.length ≤ 50 := by omega
      have E : ((M.length : Int) == z + 1) = true := by rw [v2]; simp; omega
      have HE := hide E
      have H3 := hide v3
      have HCP := hide CP
      clear v1 v2 v3 CP hM E
      go_wp2_with fail
      refine (eqInts_l _ _ _ _ _ _ _ _ _ ho1.reads ho2.reads (by omega) (by omega)).mono ?_
      rintro e w' ⟨rfl, j, rfl⟩
      simp only [decide_true]
      go_wp2_with fail
      refine (HCP.out _).mono ?_
      rintro e u3 ⟨A3, c3, rfl, ho3, hb3⟩
      go_wp2
      go_loop [13] (fun i => ∃ p : Nat, p ≤ M.length ∧ i = .int .i64 p) (fun i => M.length - (intOf i).toNat)
      case atStart => exact ⟨0, by omega, rfl⟩
      case round =>
        obtain ⟨p, hp, rfl⟩ := hrel
        by_cases hlt : p < M.length
        · obtain ⟨b, o, rfl, _, hc⟩ := ho3.reads.at_ hlt
          rw [H3.out p hlt] at hc
          go_wp2
          go_round
          case rel => exact ⟨p + 1, by omega, by go_num⟩
          case measure => simp [intOf]; omega
        · have E := HE.out
          go_wp2
          go_ret
          refine ⟨rfl, ?_⟩
          exact bl_call hb3 (bl_drewN (bl_call hb2 (bl_call hb1 hb)) _)
set_option maxRecDepth 100000 in
theorem lifted_FnHangPlain (os : Os) (started : os.Started) (H : Type) (enc : TypeId × Value → H) :
    ReturnsInHanded {} Try.checked os 7 .any (Rows.fnHangPlainSpec.pre6 enc Try.prog Try.f7 Rows.fnHangPlainRow.domain false) (Rows.fnHangPlainSpec.post enc Try.prog Try.f7 false true false false) := by
  refine returnsInHanded_of_change (C := Try.checked) own_knob started (by kernel_rfl) Try.func7
    (ChangeSpec.witness6 (enc := enc) (C := Try.checked) false ⟨#[], #[.slice none 0 0], []⟩ 8 (by kernel_rfl) (by kernel_rfl) (by kernel_rfl) (by kernel_rfl)) ?_
  intro W base args ds gs before hval0 hW hcnd _
  have hval : ∀ (j : Nat) t v, Try.f7.params[j]? = some t → args[j]? = some v → Value.okWide Try.prog W .any base t v := hval0
  have hW' := hW
  obtain ⟨p, q, hA0, hV, rfl, hfz, hnd⟩ := hW
  have hA : DataW.TrodAll enc Try.prog W 0 (fun _ => true) true Try.f7.params.toList args.toList ds p := hA0
  rw [Try.params7] at hA hval
  obtain ⟨v0, vs0, d0, ds0, p0, q0, hargs, rfl, rfl, zh0, r0⟩ := trodAll_cons hA
  obtain ⟨rfl, rfl, rfl⟩ := trodAll_nil r0
  obtain rfl : args = #[v0] := by cases args; simp_all
  obtain ⟨rfl, rfl⟩ := trodVars_none hV
  have zk0 := zh0
  have zl0 : ∀ x ∈ p0, x.block < W.heap.size := by obtain ⟨m, hm⟩ := zk0; exact DataW.trod_lt m _ _ _ hm
  clear hA0 hval0
  obtain ⟨a_code, n_code, c_code, rfl⟩ := okWide_slice Try.underlying22 (hval 0 22 v0 rfl rfl)
  obtain ⟨code, w_code⟩ := isRow_of Try.underlying22 Try.underlying5 (by kernel_rfl) zh0
  refine (walk_FnHangPlain a_code n_code c_code code W w_code).mono fun e W' ⟨he, bel⟩ => ?_
  subst he
  exact ⟨_, rfl, _, _, _, [], _, [], hW', trodAll_mk1 (shut_bool Try.underlying4 _), (trodAll_cons_mk (Below.trod laid_out (by kernel_rfl) (of_decide_eq_true (by kernel_rfl)) zk0 bel zl0) trodAll_mk0), rfl, bel.frame _, fun h => by cases h⟩

/-- The statement. -/
theorem FnHangPlain_holds : Rows.FnHangPlainSaid :=
  OpenClaim.holds_of_wide 7 Try.f7 rfl rfl rfl rfl rfl rfl rfl ⟨rfl, rfl, rfl, rfl, rfl⟩ rfl rfl rfl rfl rfl (by kernel_rfl) Try.func7 (by kernel_rfl)
    (of_decide_eq_true (by kernel_rfl)) (by unfold Func.isWrapper; first | (rw [if_pos (by decide +kernel)]; kernel_rfl) | (rw [if_neg (by decide +kernel)]; exact ⟨rfl, rfl⟩))
    (fun os started H enc _ => lifted_FnHangPlain os started H enc)
end Go.Proofs.Ytfcoheakecfolaa
