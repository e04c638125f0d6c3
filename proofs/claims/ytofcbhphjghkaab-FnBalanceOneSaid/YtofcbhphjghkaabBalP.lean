/- The promises on BalancedHeight hold for every code: no smaller height suffices, and one column has all lines. No condition. -/
import Derived.Test.YtofcbhphjghkaabDrawH
import Derived.Test.YtofcbhphjghkaabBalC
namespace Go.Proofs.Ytofcbhphjghkaab
open Go.ChangeShapes Go.WideShapes Go.ChangeAt Go.RowKit
set_option linter.unusedVariables false

set_option maxHeartbeats 2000000 in
theorem walk_FnBalancedHeight (a : Option Addr) (n c : Nat) (zs : List Int) (w : World) (hr : IsRow .u8 w a n c zs) :
    Calls Try.prog 8 #[.slice a n c] w fun e w' => e = .returned (.bool true) ∧ Below w.heap.size w w' := by
  have hm := small_row hr; unfold maxLen at hm
  rcases (by omega : 1048576 < n ∨ n ≤ 1048576) with hn | hn
  · go_enter Try.func8, Try.ntmps8
    go_wp2
    go_ret
    exact ⟨rfl, bl_refl _⟩
  · go_enter Try.func8, Try.ntmps8
    go_wp2_with fail
    (with_reducible refine (DrawBalancedHeight_any _ _ _ _ _ hr).mono ?_)
    rintro e u0 ⟨A, d, l, m, rfl, hol, hll, hel, ⟨m0, m1⟩, hb⟩
    clear hr
    have hcap := OL_cap hol
    have HB := hide hb
    have HO := hide hol
    clear hol hb
    obtain ⟨v, hv⟩ : ∃ v, v = bhV l m := ⟨_, rfl⟩
    have CI := fun (u : World) (h : IL u A l.length l) => BalancedHeight_i u _ _ d l m h (by omega) hcap
    have CS := fun (u : World) (h : IL u A l.length l) => BalancedHeight_s u _ _ d l m h (by omega)
    have CN := hide (fun (u : World) (h : IL u A l.length l) (z : Int) => ColumnsNeeded_i u _ _ d l z h (by omega) hcap)
    rw [← hv] at CI CS
    have HCI := hide CI
    have HCS := hide CS
    have HV := hide hv
    clear CI CS hv
    go_wp2_with fail
    (with_reducible refine (HCI.out _ HO.out.reads).mono ?_)
    rintro e u1 ⟨rfl, hb1⟩
    have HO1 := hide (HO.out.below hb1)
    have HB1 := hide (bl_call hb1 HB.out)
    clear hb1
    go_wp2_with fail
    (with_reducible refine (HCS.out _ HO1.out.reads).mono ?_)
    rintro e u2 ⟨rfl, rfl⟩
    rcases (by omega : v < 0 ∨ 0 ≤ v) with h | h
    · go_wp2_with fail
      (with_reducible refine (HCS.out _ HO1.out.reads).mono ?_)
      rintro e u2 ⟨rfl, rfl⟩
      go_wp2
      go_ret
      exact ⟨rfl, HB1.out⟩
    · obtain ⟨⟨k1, k2⟩, ⟨k3, k4⟩, k5, k6, k7, k8⟩ := bhV_says (l := l) (m := m) (by rw [← HV.out]; exact h)
      rw [← HV.out] at k6 k7 k8
      have ok : okH l = true := okH_iff.2 ⟨k1, k2⟩
      have hp : allPos l := fun j hj => (k2 j hj).1
      obtain ⟨⟨g1, g2⟩, g3⟩ := (bh_is hp k3).1
      have SU := hide (fun (u : World) (h : IL u A l.length l) => sum_l u A l.length d l h (by omega) (fun j hj => by have := k2 j hj; omega))
      have hs0 := sl_pos (allPos_mem.1 hp)
      have hsa := cnv_area g1
      have hcl := cnv_le g1
      have hcz := cnv_zero hp g1
      have C1 := CN.out
      obtain ⟨b, hb⟩ : ∃ b, b = bh l m := ⟨_, rfl⟩
      rw [← hb] at k6 g1 g2 g3 hsa hcl hcz
      subst k6
      have e1 : cnV l (b : Int) = cnv l b := cnV_yes (by rw [ok, inB_yes h k8]; rfl)
      have CB := fun (u : World) (h : IL u A l.length l) => C1 u h b
      rw [e1] at CB
      obtain ⟨y, hy⟩ : ∃ y, y = cnv l b := ⟨_, rfl⟩
      rw [← hy] at CB g2 hsa hcl hcz
      have HCB := hide CB
      rcases Nat.eq_zero_or_pos b with hb0 | hb0
      · have hl0 : l.length = 0 := by
          rcases Nat.eq_zero_or_pos l.length with q | q
          · exact q
          · have a1 := g1 0 q
            have a2 := hp 0 q
            omega
        have hy0 : y = 0 := hcz.2 hl0
        have z0 : (((l.length : Nat) : Int) == 0) = true := by rw [hl0]; rfl
        have z1 : (y == 0) = true := by rw [hy0]; rfl
        have z2 : ((b : Int) == 0) = true := by rw [hb0]; rfl
        clear CB C1 CN e1 hb hy g3 hsa hcl hcz k1 k2 hp hel HV ok hs0 g1 k7 k5 hb0 hy0 hl0 HCI HCS HO
        go_wp2_with fail
        (with_reducible refine (HCB.out _ HO1.out.reads).mono ?_)
        rintro e u3 ⟨rfl, hb3⟩
        have HB3 := hide (bl_call hb3 HB1.out)
        clear hb3
        go_wp2
        go_ret
        exact ⟨rfl, HB3.out⟩
      · have e2 : cnV l ((b : Int) - 1) = cnv l ((b - 1 : Nat) : Int) := by
          have : ((b - 1 : Nat) : Int) = (b : Int) - 1 := by omega
          rw [this]
          exact cnV_yes (by rw [ok, inB_yes (by omega) (by omega)]; rfl)
        have CL := fun (u : World) (h : IL u A l.length l) => C1 u h ((b : Int) - 1)
        rw [e2] at CL
        have hng := g3 (b - 1) (by omega)
        obtain ⟨z, hz⟩ : ∃ z, z = cnv l ((b - 1 : Nat) : Int) := ⟨_, rfl⟩
        have hzz : z < 0 ∨ 0 ≤ z ∧ m < z := by
          by_cases q : allLe l ((b - 1 : Nat) : Int)
          · right
            have q1 := (cnv_le q).1
            rw [← hz] at q1
            refine ⟨q1, ?_⟩
            false_or_by_contra
            exact hng ⟨q, by omega⟩
          · left
            rw [hz, cnv_no q]
            omega
        rw [← hz] at CL
        have HCL := hide CL
        obtain ⟨s, hs⟩ : ∃ s, s = sl l := ⟨_, rfl⟩
        rw [← hs] at SU hsa hs0
        have p1 : y * (b : Int) ≤ m * (b : Int) := Int.mul_le_mul_of_nonneg_right g2 (by omega)
        have p2 : m * (b : Int) ≤ 8 * (b : Int) := Int.mul_le_mul_of_nonneg_right k4 (by omega)
        have p3 : (b : Int) * m = m * (b : Int) := Int.mul_comm _ _
        have p4 : s ≤ (b : Int) * m := by omega
        have p5 : (b : Int) * m ≤ 80000 := by omega
        have p6 : 0 ≤ (b : Int) * m := by omega
        have b0 : ¬ (b : Int) = 0 := by omega
        have b0' : ((b : Int) == 0) = false := beq_eq_false_iff_ne.2 b0
        have y0 : 0 ≤ y := hcl.1
        clear CB C1 CN e1 e2 hb hy g3 hsa hcl hcz k1 k2 hp hel HV ok hs hs0 g1 k7 k5 hng hz CL p1 p2 p3 HCI HCS HO
        rcases hzz with q | ⟨q, q'⟩
        all_goals
          go_wp2_with fail
          (with_reducible refine (HCB.out _ HO1.out.reads).mono ?_)
          rintro e u3 ⟨rfl, hb3⟩
          have HO3 := hide (HO1.out.below hb3)
          have HB3 := hide (bl_call hb3 HB1.out)
          clear hb3
          go_wp2_with fail
          (with_reducible refine (HCL.out _ HO3.out.reads).mono ?_)
          rintro e u4 ⟨rfl, hb4⟩
          have HO4 := hide (HO3.out.below hb4)
          have HB4 := hide (bl_call hb4 HB3.out)
          clear hb4
          go_wp2_with fail
          (with_reducible refine (SU.out _ HO4.out.reads).mono ?_)
          rintro e u5 ⟨rfl, rfl⟩
          go_wp2
          go_ret
          exact ⟨rfl, HB4.out⟩
set_option maxRecDepth 100000 in
theorem lifted_FnBalancedHeight (os : Os) (started : os.Started) (H : Type) (enc : TypeId × Value → H) :
    ReturnsInHanded {} Try.checked os 8 .any (Rows.fnBalancedHeightSpec.pre6 enc Try.prog Try.f8 Rows.fnBalancedHeightRow.domain false) (Rows.fnBalancedHeightSpec.post enc Try.prog Try.f8 false true false false) := by
  refine returnsInHanded_of_change (C := Try.checked) own_knob started (by kernel_rfl) Try.func8
    (ChangeSpec.witness6 (enc := enc) (C := Try.checked) false ⟨#[], #[.slice none 0 0], []⟩ 8 (by kernel_rfl) (by kernel_rfl) (by kernel_rfl) (by kernel_rfl)) ?_
  intro W base args ds gs before hval0 hW hcnd _
  have hval : ∀ (j : Nat) t v, Try.f8.params[j]? = some t → args[j]? = some v → Value.okWide Try.prog W .any base t v := hval0
  have hW' := hW
  obtain ⟨p, q, hA0, hV, rfl, hfz, hnd⟩ := hW
  have hA : DataW.TrodAll enc Try.prog W 0 (fun _ => true) true Try.f8.params.toList args.toList ds p := hA0
  rw [Try.params8] at hA hval
  obtain ⟨v0, vs0, d0, ds0, p0, q0, hargs, rfl, rfl, zh0, r0⟩ := trodAll_cons hA
  obtain ⟨rfl, rfl, rfl⟩ := trodAll_nil r0
  obtain rfl : args = #[v0] := by cases args; simp_all
  obtain ⟨rfl, rfl⟩ := trodVars_none hV
  have zk0 := zh0
  have zl0 : ∀ x ∈ p0, x.block < W.heap.size := by obtain ⟨m, hm⟩ := zk0; exact DataW.trod_lt m _ _ _ hm
  clear hA0 hval0
  obtain ⟨a_code, n_code, c_code, rfl⟩ := okWide_slice Try.underlying27 (hval 0 27 v0 rfl rfl)
  obtain ⟨code, w_code⟩ := isRow_of Try.underlying27 Try.underlying5 (by kernel_rfl) zh0
  refine (walk_FnBalancedHeight a_code n_code c_code code W w_code).mono fun e W' ⟨he, bel⟩ => ?_
  subst he
  exact ⟨_, rfl, _, _, _, [], _, [], hW', trodAll_mk1 (shut_bool Try.underlying4 _), (trodAll_cons_mk (Below.trod laid_out (by kernel_rfl) (of_decide_eq_true (by kernel_rfl)) zk0 bel zl0) trodAll_mk0), rfl, bel.frame _, fun h => by cases h⟩

/-- The statement. -/
theorem FnBalancedHeight_holds : Rows.FnBalancedHeightSaid :=
  OpenClaim.holds_of_wide 8 Try.f8 rfl rfl rfl rfl rfl rfl rfl ⟨rfl, rfl, rfl, rfl, rfl⟩ rfl rfl rfl rfl rfl (by kernel_rfl) Try.func8 (by kernel_rfl)
    (of_decide_eq_true (by kernel_rfl)) (by unfold Func.isWrapper; first | (rw [if_pos (by decide +kernel)]; kernel_rfl) | (rw [if_neg (by decide +kernel)]; exact ⟨rfl, rfl⟩))
    (fun os started H enc _ => lifted_FnBalancedHeight os started H enc)

set_option maxHeartbeats 2000000 in
theorem walk_FnBalanceOne (a : Option Addr) (n c : Nat) (zs : List Int) (w : World) (hr : IsRow .u8 w a n c zs) :
    Calls Try.prog 12 #[.slice a n c] w fun e w' => e = .returned (.bool true) ∧ Below w.heap.size w w' := by
  have hm := small_row hr; unfold maxLen at hm
  rcases (by omega : 1048576 < n ∨ n ≤ 1048576) with hn | hn
  · go_enter Try.func12, Try.ntmps12
    go_wp2
    go_ret
    exact ⟨rfl, bl_refl _⟩
  · go_enter Try.func12, Try.ntmps12
    go_wp2_with fail
    (with_reducible refine (DrawBalancedHeight_any _ _ _ _ _ hr).mono ?_)
    rintro e u0 ⟨A, d, l, m, rfl, hol, hll, hel, ⟨m0, m1⟩, hb⟩
    clear hr
    have hcap := OL_cap hol
    have HB := hide hb
    have HO := hide hol
    clear hol hb
    obtain ⟨v, hv⟩ : ∃ v, v = bhV l m := ⟨_, rfl⟩
    have CX := fun (z : Int) (u : World) (h : IL u A l.length l) => BalancedHeight_i u _ _ d l z h (by omega) hcap
    have CI := CX m
    have CS := fun (u : World) (h : IL u A l.length l) => BalancedHeight_s u _ _ d l m h (by omega)
    rw [← hv] at CI CS
    have HCI := hide CI
    have HCS := hide CS
    have HV := hide hv
    have HCX := hide CX
    clear CI CS CX hv
    go_wp2_with fail
    (with_reducible refine (HCI.out _ HO.out.reads).mono ?_)
    rintro e u1 ⟨rfl, hb1⟩
    have HO1 := hide (HO.out.below hb1)
    have HB1 := hide (bl_call hb1 HB.out)
    clear hb1
    go_wp2_with fail
    (with_reducible refine (HCS.out _ HO1.out.reads).mono ?_)
    rintro e u2 ⟨rfl, rfl⟩
    rcases (by omega : v < 0 ∨ 0 ≤ v) with h | h
    · go_wp2_with fail
      (with_reducible refine (HCS.out _ HO1.out.reads).mono ?_)
      rintro e u2 ⟨rfl, rfl⟩
      go_wp2
      go_ret
      exact ⟨rfl, HB1.out⟩
    · obtain ⟨⟨k1, k2⟩, ⟨k3, k4⟩, k5, k6, k7, k8⟩ := bhV_says (l := l) (m := m) (by rw [← HV.out]; exact h)
      rw [← HV.out] at k6
      have ok : okH l = true := okH_iff.2 ⟨k1, k2⟩
      have hp : allPos l := fun j hj => (k2 j hj).1
      have SU := fun (u : World) (h : IL u A l.length l) => sum_l u A l.length d l h (by omega) (fun j hj => by have := k2 j hj; omega)
      have e1 : bhV l 1 = sl l := by rw [bhV_yes (by rw [ok, inB_yes (by omega) (by omega), decide_eq_true k5]; rfl)]; exact bh_one hp
      have C1 := HCX.out 1
      rw [e1] at C1
      obtain ⟨s, hs⟩ : ∃ s, s = sl l := ⟨_, rfl⟩
      rw [← hs] at C1 SU
      have HC1 := hide C1
      have HSU := hide SU
      obtain ⟨z, hz⟩ : ∃ z : Int, z = min (m + 1) 8 := ⟨_, rfl⟩
      have e2 : bhV l z = bh l z := bhV_yes (by rw [ok, inB_yes (by omega) (by omega), decide_eq_true k5]; rfl)
      have C2 := HCX.out z
      have mo := bh_more (d := z) hp k3 (by omega)
      rw [e2] at C2
      obtain ⟨y, hy⟩ : ∃ y : Int, y = bh l z := ⟨_, rfl⟩
      rw [← hy] at C2
      have yv : y ≤ v := by omega
      have HC2 := hide C2
      clear C1 C2 SU e1 e2 hs hy mo hp ok k1 k2 k5 k6 k7 k8 HV HCX HCI HCS hel HO
      rcases (by omega : m + 1 ≤ 8 ∧ z = m + 1 ∨ 8 < m + 1 ∧ z = 8) with ⟨q1, q2⟩ | ⟨q1, q2⟩
      all_goals
        subst q2
        clear hz
        go_wp2_with fail
        (with_reducible refine (HC1.out _ HO1.out.reads).mono ?_)
        rintro e u3 ⟨rfl, hb3⟩
        have HO3 := hide (HO1.out.below hb3)
        have HB3 := hide (bl_call hb3 HB1.out)
        clear hb3
        go_wp2_with fail
        (with_reducible refine (HSU.out _ HO3.out.reads).mono ?_)
        rintro e u4 ⟨rfl, rfl⟩
        go_wp2_with fail
        (with_reducible refine (HC2.out _ HO3.out.reads).mono ?_)
        rintro e u5 ⟨rfl, hb5⟩
        have HB5 := hide (bl_call hb5 HB3.out)
        clear hb5
        go_wp2
        go_ret
        exact ⟨rfl, HB5.out⟩
set_option maxRecDepth 100000 in
theorem lifted_FnBalanceOne (os : Os) (started : os.Started) (H : Type) (enc : TypeId × Value → H) :
    ReturnsInHanded {} Try.checked os 12 .any (Rows.fnBalanceOneSpec.pre6 enc Try.prog Try.f12 Rows.fnBalanceOneRow.domain false) (Rows.fnBalanceOneSpec.post enc Try.prog Try.f12 false true false false) := by
  refine returnsInHanded_of_change (C := Try.checked) own_knob started (by kernel_rfl) Try.func12
    (ChangeSpec.witness6 (enc := enc) (C := Try.checked) false ⟨#[], #[.slice none 0 0], []⟩ 8 (by kernel_rfl) (by kernel_rfl) (by kernel_rfl) (by kernel_rfl)) ?_
  intro W base args ds gs before hval0 hW hcnd _
  have hval : ∀ (j : Nat) t v, Try.f12.params[j]? = some t → args[j]? = some v → Value.okWide Try.prog W .any base t v := hval0
  have hW' := hW
  obtain ⟨p, q, hA0, hV, rfl, hfz, hnd⟩ := hW
  have hA : DataW.TrodAll enc Try.prog W 0 (fun _ => true) true Try.f12.params.toList args.toList ds p := hA0
  rw [Try.params12] at hA hval
  obtain ⟨v0, vs0, d0, ds0, p0, q0, hargs, rfl, rfl, zh0, r0⟩ := trodAll_cons hA
  obtain ⟨rfl, rfl, rfl⟩ := trodAll_nil r0
  obtain rfl : args = #[v0] := by cases args; simp_all
  obtain ⟨rfl, rfl⟩ := trodVars_none hV
  have zk0 := zh0
  have zl0 : ∀ x ∈ p0, x.block < W.heap.size := by obtain ⟨m, hm⟩ := zk0; exact DataW.trod_lt m _ _ _ hm
  clear hA0 hval0
  obtain ⟨a_code, n_code, c_code, rfl⟩ := okWide_slice Try.underlying27 (hval 0 27 v0 rfl rfl)
  obtain ⟨code, w_code⟩ := isRow_of Try.underlying27 Try.underlying5 (by kernel_rfl) zh0
  refine (walk_FnBalanceOne a_code n_code c_code code W w_code).mono fun e W' ⟨he, bel⟩ => ?_
  subst he
  exact ⟨_, rfl, _, _, _, [], _, [], hW', trodAll_mk1 (shut_bool Try.underlying4 _), (trodAll_cons_mk (Below.trod laid_out (by kernel_rfl) (of_decide_eq_true (by kernel_rfl)) zk0 bel zl0) trodAll_mk0), rfl, bel.frame _, fun h => by cases h⟩

/-- The statement. -/
theorem FnBalanceOne_holds : Rows.FnBalanceOneSaid :=
  OpenClaim.holds_of_wide 12 Try.f12 rfl rfl rfl rfl rfl rfl rfl ⟨rfl, rfl, rfl, rfl, rfl⟩ rfl rfl rfl rfl rfl (by kernel_rfl) Try.func12 (by kernel_rfl)
    (of_decide_eq_true (by kernel_rfl)) (by unfold Func.isWrapper; first | (rw [if_pos (by decide +kernel)]; kernel_rfl) | (rw [if_neg (by decide +kernel)]; exact ⟨rfl, rfl⟩))
    (fun os started H enc _ => lifted_FnBalanceOne os started H enc)
end Go.Proofs.Ytofcbhphjghkaab
