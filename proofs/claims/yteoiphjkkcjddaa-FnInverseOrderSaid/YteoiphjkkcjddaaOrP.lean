/- The promises on orders hold for every code. No condition. -/
import Derived.Test.YteoiphjkkcjddaaOrD
namespace Go.Proofs.Yteoiphjkkcjddaa
open Go.ChangeShapes Go.WideShapes Go.ChangeAt Go.RowKit
set_option linter.unusedVariables false

set_option maxHeartbeats 2000000 in
theorem walk_FnOrderOf (a : Option Addr) (n c : Nat) (zs : List Int) (w : World) (hr : IsRow .u8 w a n c zs) :
    Calls Try.prog 11 #[.slice a n c] w fun e w' => e = .returned (.bool true) ∧ Below w.heap.size w w' := by
  have hm := small_row hr
  unfold maxLen at hm
  rcases (by omega : 1048576 < n ∨ n ≤ 1048576) with hn | hn
  · go_enter Try.func11, Try.ntmps11
    go_wp2
    go_ret
    exact ⟨rfl, bl_refl _⟩
  · obtain ⟨i0, hi0, jz0, jz1, jz2⟩ := info_parts int_info
    go_enter Try.func11, Try.ntmps11
    go_wp2_with fail
    refine (DrawOrderOf_any _ _ _ _ _ hr).mono ?_
    rintro e u0 ⟨A0, c0, l, rfl, ho0, hl9, hb⟩
    clear hr
    have CS := fun (u : World) (A : Option Addr) (c : Nat) (h : IL u A l.length l) => OrderOf_s u A l.length c l h (by omega)
    have CI := fun (u : World) (A : Option Addr) (c : Nat) (h : IL u A l.length l) => OrderOf_i u A l.length c l h (by omega)
    have hne := ordO_ne (l := l)
    obtain ⟨O, hO⟩ : ∃ O, O = ordO l := ⟨_, rfl⟩
    simp only [← hO] at CS CI hne
    have hO6 : O.length ≤ 60 := by rw [hO]; exact ordO_len l
    have HCS := hide CS
    have HCI := hide CI
    have HNE := hide hne
    clear CS CI hO hne
    go_wp2_with fail
    (with_reducible refine (HCI.out _ _ _ ho0.reads).mono ?_)
    rintro e u1 ⟨A1, c1, rfl, ho1, hb1⟩
    have hr0 := ho0.reads.below hb1
    go_wp2_with fail
    (with_reducible refine (HCS.out _ _ _ hr0).mono ?_)
    rintro e u2 ⟨A2, c2, rfl, ho2, hb2⟩
    have hr0 := hr0.below hb2
    have ho1 := ho1.below hb2
    go_wp2_with fail
    (with_reducible refine (eqInts_l _ _ _ _ _ _ _ _ _ ho1.reads ho2.reads (by omega) (by omega)).mono ?_)
    rintro e u3 ⟨rfl, j, rfl⟩
    simp only [decide_true]
    have hr1 := ho1.reads.drewN j
    have hr0 := hr0.drewN j
    have HB := hide (bl_drewN (bl_call hb2 (bl_call hb1 hb)) j)
    clear ho1 ho2 ho0
    rcases Nat.eq_zero_or_pos O.length with h0 | h0
    · have d0 : ((O.length : Int) == 0) = true := by simp [h0]
      clear h0
      go_wp2_with fail
      (with_reducible refine (HCS.out _ _ _ hr0).mono ?_)
      rintro e u4 ⟨A4, c4, rfl, ho4, hb4⟩
      have hr4 := hr1.below hb4
      go_wp2_with fail
      (with_reducible refine (eqInts_l _ _ _ _ _ _ _ _ _ hr4 ho4.reads (by omega) (by omega)).mono ?_)
      rintro e u5 ⟨rfl, j5, rfl⟩
      simp only [decide_true]
      go_wp2
      go_ret
      exact ⟨rfl, bl_drewN (bl_call hb4 HB.out) _⟩
    · have d0 : ((O.length : Int) == 0) = false := by simp; intro h; rw [h] at h0; simp at h0
      have HOK := hide (HNE.out (by omega))
      have hOl := HOK.out.2.2
      have HOL := hide hOl
      have d1 : ((O.length : Int) != (l.length : Int)) = false := by rw [hOl]; simp
      have d2 : ((O.length : Int) != (O.length : Int)) = false := by simp
      have hoI : okI O = true := by rw [HOK.out.2.1]; exact ord_ok HOK.out.1
      have RB := fun (u : World) (A : Option Addr) (c : Nat) (h : IL u A O.length O) => InverseOrder_i u A O.length c O h (by omega)
      have eI := invO_yes hoI
      obtain ⟨K, hK⟩ : ∃ K, K = invO O := ⟨_, rfl⟩
      have hKl : K.length = O.length := by rw [hK, eI, invL_len]
      have hKg : ∀ p, p < O.length → ∃ k : Nat, ng O p = (k : Int) ∧ k < O.length ∧ ng K k = (p : Int) := fun p hp => by
        have h1 := (okI_iff.1 hoI).2.1 _ (ng_mem hp)
        have h2 := invL_at hoI hp
        refine ⟨(ng O p).toNat, by omega, by omega, ?_⟩
        rw [hK, eI]; exact h2
      simp only [← hK, hKl] at RB
      have RB := hide RB
      have HKG := hide hKg
      have HKL := hide hKl
      clear hOl hoI eI hK hKl hKg h0
      go_wp2_with fail
      (with_reducible refine (RB.out _ _ _ hr1).mono ?_)
      rintro e u4 ⟨A4, c4, rfl, ho4, hb4⟩
      have hr4 := ho4.reads
      have hr1 := hr1.below hb4
      have HB4 := hide (bl_call hb4 HB.out)
      clear ho4 hb4
      go_wp2
      go_loop [6] (fun i => ∃ p : Nat, p ≤ O.length ∧ i = .int .i64 p) (fun i => O.length - (intOf i).toNat)
      case atStart => exact ⟨0, by omega, rfl⟩
      case round =>
        obtain ⟨p, hp, rfl⟩ := hrel
        by_cases hlt : p < O.length
        · obtain ⟨k, e1, hk, e2⟩ := HKG.out p hlt
          obtain ⟨b, o, rfl, hbv, hc⟩ := hr1.at_ hlt
          obtain ⟨b', o', rfl, hbv', hc'⟩ := hr4.at_ (i := k) (by rw [HKL.out]; exact hk)
          rw [e1] at hc
          rw [e2] at hc'
          clear e1 e2
          go_wp2
          go_round
          case rel => exact ⟨p + 1, by omega, by go_num⟩
          case measure => simp [intOf]; omega
        · go_wp2
          go_ret
          exact ⟨rfl, HB4.out⟩
set_option maxRecDepth 100000 in
theorem lifted_FnOrderOf (os : Os) (started : os.Started) (H : Type) (enc : TypeId × Value → H) :
    ReturnsInHanded {} Try.checked os 11 .any (Rows.fnOrderOfSpec.pre6 enc Try.prog Try.f11 Rows.fnOrderOfRow.domain false) (Rows.fnOrderOfSpec.post enc Try.prog Try.f11 false true false false) := by
  refine returnsInHanded_of_change (C := Try.checked) own_knob started (by kernel_rfl) Try.func11
    (ChangeSpec.witness6 (enc := enc) (C := Try.checked) false ⟨#[], #[.slice none 0 0], []⟩ 8 (by kernel_rfl) (by kernel_rfl) (by kernel_rfl) (by kernel_rfl)) ?_
  intro W base args ds gs before hval0 hW hcnd _
  have hval : ∀ (j : Nat) t v, Try.f11.params[j]? = some t → args[j]? = some v → Value.okWide Try.prog W .any base t v := hval0
  have hW' := hW
  obtain ⟨p, q, hA0, hV, rfl, hfz, hnd⟩ := hW
  have hA : DataW.TrodAll enc Try.prog W 0 (fun _ => true) true Try.f11.params.toList args.toList ds p := hA0
  rw [Try.params11] at hA hval
  obtain ⟨v0, vs0, d0, ds0, p0, q0, hargs, rfl, rfl, zh0, r0⟩ := trodAll_cons hA
  obtain ⟨rfl, rfl, rfl⟩ := trodAll_nil r0
  obtain rfl : args = #[v0] := by cases args; simp_all
  obtain ⟨rfl, rfl⟩ := trodVars_none hV
  have zk0 := zh0
  have zl0 : ∀ x ∈ p0, x.block < W.heap.size := by obtain ⟨m, hm⟩ := zk0; exact DataW.trod_lt m _ _ _ hm
  clear hA0 hval0
  obtain ⟨a_code, n_code, c_code, rfl⟩ := okWide_slice Try.underlying30 (hval 0 30 v0 rfl rfl)
  obtain ⟨code, w_code⟩ := isRow_of Try.underlying30 Try.underlying5 (by kernel_rfl) zh0
  refine (walk_FnOrderOf a_code n_code c_code code W w_code).mono fun e W' ⟨he, bel⟩ => ?_
  subst he
  exact ⟨_, rfl, _, _, _, [], _, [], hW', trodAll_mk1 (shut_bool Try.underlying4 _), (trodAll_cons_mk (Below.trod laid_out (by kernel_rfl) (of_decide_eq_true (by kernel_rfl)) zk0 bel zl0) trodAll_mk0), rfl, bel.frame _, fun h => by cases h⟩

/-- The statement. -/
theorem FnOrderOf_holds : Rows.FnOrderOfSaid :=
  OpenClaim.holds_of_wide 11 Try.f11 rfl rfl rfl rfl rfl rfl rfl ⟨rfl, rfl, rfl, rfl, rfl⟩ rfl rfl rfl rfl rfl (by kernel_rfl) Try.func11 (by kernel_rfl)
    (of_decide_eq_true (by kernel_rfl)) (by unfold Func.isWrapper; first | (rw [if_pos (by decide +kernel)]; kernel_rfl) | (rw [if_neg (by decide +kernel)]; exact ⟨rfl, rfl⟩))
    (fun os started H enc _ => lifted_FnOrderOf os started H enc)

set_option maxHeartbeats 2000000 in
theorem walk_FnInverseOrder (a : Option Addr) (n c : Nat) (zs : List Int) (w : World) (hr : IsRow .u8 w a n c zs) :
    Calls Try.prog 16 #[.slice a n c] w fun e w' => e = .returned (.bool true) ∧ Below w.heap.size w w' := by
  have hm := small_row hr
  unfold maxLen at hm
  rcases (by omega : 1048576 < n ∨ n ≤ 1048576) with hn | hn
  · go_enter Try.func16, Try.ntmps16
    go_wp2
    go_ret
    exact ⟨rfl, bl_refl _⟩
  · obtain ⟨i0, hi0, jz0, jz1, jz2⟩ := info_parts int_info
    go_enter Try.func16, Try.ntmps16
    go_wp2_with fail
    refine (DrawInverseOrder_any _ _ _ _ _ hr).mono ?_
    rintro e u0 ⟨A0, c0, l, rfl, ho0, hl9, hb⟩
    clear hr
    have CS := fun (u : World) (A : Option Addr) (c : Nat) (h : IL u A l.length l) => InverseOrder_s u A l.length c l h (by omega)
    have CI := fun (u : World) (A : Option Addr) (c : Nat) (h : IL u A l.length l) => InverseOrder_i u A l.length c l h (by omega)
    have hne := invO_ne (l := l)
    obtain ⟨O, hO⟩ : ∃ O, O = invO l := ⟨_, rfl⟩
    simp only [← hO] at CS CI hne
    have hO6 : O.length ≤ 60 := by rw [hO]; exact invO_len l
    have HCS := hide CS
    have HCI := hide CI
    have HNE := hide hne
    clear CS CI hO hne
    go_wp2_with fail
    (with_reducible refine (HCI.out _ _ _ ho0.reads).mono ?_)
    rintro e u1 ⟨A1, c1, rfl, ho1, hb1⟩
    have hr0 := ho0.reads.below hb1
    go_wp2_with fail
    (with_reducible refine (HCS.out _ _ _ hr0).mono ?_)
    rintro e u2 ⟨A2, c2, rfl, ho2, hb2⟩
    have hr0 := hr0.below hb2
    have ho1 := ho1.below hb2
    go_wp2_with fail
    (with_reducible refine (eqInts_l _ _ _ _ _ _ _ _ _ ho1.reads ho2.reads (by omega) (by omega)).mono ?_)
    rintro e u3 ⟨rfl, j, rfl⟩
    simp only [decide_true]
    have hr1 := ho1.reads.drewN j
    have hr0 := hr0.drewN j
    have HB := hide (bl_drewN (bl_call hb2 (bl_call hb1 hb)) j)
    clear ho1 ho2 ho0
    rcases Nat.eq_zero_or_pos O.length with h0 | h0
    · have d0 : ((O.length : Int) == 0) = true := by simp [h0]
      clear h0
      go_wp2_with fail
      (with_reducible refine (HCS.out _ _ _ hr0).mono ?_)
      rintro e u4 ⟨A4, c4, rfl, ho4, hb4⟩
      have hr4 := hr1.below hb4
      go_wp2_with fail
      (with_reducible refine (eqInts_l _ _ _ _ _ _ _ _ _ hr4 ho4.reads (by omega) (by omega)).mono ?_)
      rintro e u5 ⟨rfl, j5, rfl⟩
      simp only [decide_true]
      go_wp2
      go_ret
      exact ⟨rfl, bl_drewN (bl_call hb4 HB.out) _⟩
    · have d0 : ((O.length : Int) == 0) = false := by simp; intro h; rw [h] at h0; simp at h0
      have HOK := hide (HNE.out (by omega))
      have hOl := HOK.out.2.2
      have hO60 : O.length ≤ 60 := hO6
      have eO := HOK.out.2.1
      have hok2 : okI O = true := by rw [eO]; exact invL_ok HOK.out.1
      have eK : invO O = l := by rw [invO_yes hok2, eO]; exact invL_inv HOK.out.1
      have RB := fun (u : World) (A : Option Addr) (c : Nat) (h : IL u A O.length O) => InverseOrder_i u A O.length c O h (by omega)
      rw [eK] at RB
      have RB := hide RB
      have HOL := hide hOl
      clear hOl eO hok2 eK h0
      go_wp2_with fail
      (with_reducible refine (RB.out _ _ _ hr1).mono ?_)
      rintro e u4 ⟨A4, c4, rfl, ho4, hb4⟩
      have hr0 := hr0.below hb4
      have HB4 := hide (bl_call hb4 HB.out)
      go_wp2_with fail
      (with_reducible refine (eqInts_l _ _ _ _ _ _ _ _ _ ho4.reads hr0 (by omega) (by omega)).mono ?_)
      rintro e u5 ⟨rfl, j5, rfl⟩
      simp only [decide_true]
      go_wp2
      go_ret
      exact ⟨rfl, bl_drewN HB4.out _⟩
set_option maxRecDepth 100000 in
theorem lifted_FnInverseOrder (os : Os) (started : os.Started) (H : Type) (enc : TypeId × Value → H) :
    ReturnsInHanded {} Try.checked os 16 .any (Rows.fnInverseOrderSpec.pre6 enc Try.prog Try.f16 Rows.fnInverseOrderRow.domain false) (Rows.fnInverseOrderSpec.post enc Try.prog Try.f16 false true false false) := by
  refine returnsInHanded_of_change (C := Try.checked) own_knob started (by kernel_rfl) Try.func16
    (ChangeSpec.witness6 (enc := enc) (C := Try.checked) false ⟨#[], #[.slice none 0 0], []⟩ 8 (by kernel_rfl) (by kernel_rfl) (by kernel_rfl) (by kernel_rfl)) ?_
  intro W base args ds gs before hval0 hW hcnd _
  have hval : ∀ (j : Nat) t v, Try.f16.params[j]? = some t → args[j]? = some v → Value.okWide Try.prog W .any base t v := hval0
  have hW' := hW
  obtain ⟨p, q, hA0, hV, rfl, hfz, hnd⟩ := hW
  have hA : DataW.TrodAll enc Try.prog W 0 (fun _ => true) true Try.f16.params.toList args.toList ds p := hA0
  rw [Try.params16] at hA hval
  obtain ⟨v0, vs0, d0, ds0, p0, q0, hargs, rfl, rfl, zh0, r0⟩ := trodAll_cons hA
  obtain ⟨rfl, rfl, rfl⟩ := trodAll_nil r0
  obtain rfl : args = #[v0] := by cases args; simp_all
  obtain ⟨rfl, rfl⟩ := trodVars_none hV
  have zk0 := zh0
  have zl0 : ∀ x ∈ p0, x.block < W.heap.size := by obtain ⟨m, hm⟩ := zk0; exact DataW.trod_lt m _ _ _ hm
  clear hA0 hval0
  obtain ⟨a_code, n_code, c_code, rfl⟩ := okWide_slice Try.underlying30 (hval 0 30 v0 rfl rfl)
  obtain ⟨code, w_code⟩ := isRow_of Try.underlying30 Try.underlying5 (by kernel_rfl) zh0
  refine (walk_FnInverseOrder a_code n_code c_code code W w_code).mono fun e W' ⟨he, bel⟩ => ?_
  subst he
  exact ⟨_, rfl, _, _, _, [], _, [], hW', trodAll_mk1 (shut_bool Try.underlying4 _), (trodAll_cons_mk (Below.trod laid_out (by kernel_rfl) (of_decide_eq_true (by kernel_rfl)) zk0 bel zl0) trodAll_mk0), rfl, bel.frame _, fun h => by cases h⟩

/-- The statement. -/
theorem FnInverseOrder_holds : Rows.FnInverseOrderSaid :=
  OpenClaim.holds_of_wide 16 Try.f16 rfl rfl rfl rfl rfl rfl rfl ⟨rfl, rfl, rfl, rfl, rfl⟩ rfl rfl rfl rfl rfl (by kernel_rfl) Try.func16 (by kernel_rfl)
    (of_decide_eq_true (by kernel_rfl)) (by unfold Func.isWrapper; first | (rw [if_pos (by decide +kernel)]; kernel_rfl) | (rw [if_neg (by decide +kernel)]; exact ⟨rfl, rfl⟩))
    (fun os started H enc _ => lifted_FnInverseOrder os started H enc)
end Go.Proofs.Yteoiphjkkcjddaa
