/- The law that a set line ascends and ends where it should holds for every code. No condition. -/
import Derived.Test.YtafddofajfcffaaJn
import Derived.Test.YtafddofajfcffaaSl
import Derived.Test.YtafddofajfcffaaSlS
import Derived.Test.YtafddofajfcffaaSlN
import Derived.Test.YtafddofajfcffaaBxS
import Derived.Test.YtafddofajfcffaaSlP
namespace Go.Proofs.Ytafddofajfcffaa
open Go.ChangeShapes Go.WideShapes Go.ChangeAt Go.RowKit
set_option linter.unusedVariables false
set_option linter.unusedSimpArgs false

set_option maxRecDepth 8000 in
set_option maxHeartbeats 4000000 in
theorem walk_FnSetLine (a : Option Addr) (n c : Nat) (zs : List Int) (w : World) (hr : IsRow .u8 w a n c zs) :
    Calls Try.prog 15 #[.slice a n c] w fun e w' => e = .returned (.bool true) ∧ Below w.heap.size w w' := by
  have hm := small_rown hr
  unfold maxLen at hm
  rcases (by omega : 1048576 < n ∨ n ≤ 1048576) with hn | hn
  · go_enter Try.func15, Try.ntmps15
    go_wp2
    go_ret
    exact ⟨rfl, bl_refl _⟩
  go_enter Try.func15, Try.ntmps15
  go_wp2_with fail
  (with_reducible refine (DrawSetLine_any _ _ _ _ _ hr).mono ?_)
  rintro e u0 ⟨A, c0, L, f, t, d, rfl, hol, hll, hf, ht, hd, hb⟩
  clear hr
  have HR := hide hol.reads
  have HB := hide hb
  have CI := fun (u : World) (h : TL u A L.length L) => SetLine_i u A L.length c0 L h (by omega) f t d (by omega) (by omega)
  have CS := fun (u : World) (h : TL u A L.length L) => SetLine_s u A L.length c0 L h (by omega) f t d (by omega) (by omega)
  have BI := fun (u : World) (h : TL u A L.length L) => BoxesOf_i u A L.length c0 L h (by omega) f t (by omega) (by omega)
  have SA := setO_all (L := L) (a := f) (b := t) (d := d)
  have NO := setO_no (L := L) (a := f) (b := t) (d := d)
  have hlen := setO_len L f t d
  have hbx := bxO_len L f t
  obtain ⟨R, hR⟩ : ∃ R, R = setO L f t d := ⟨_, rfl⟩
  obtain ⟨X, hX⟩ : ∃ R, R = bxO L f t := ⟨_, rfl⟩
  rw [← hR] at CI CS SA NO hlen
  rw [← hX] at BI SA hbx
  have HCI := hide CI
  have HCS := hide CS
  have HBI := hide BI
  clear CI CS BI hR hX hol hb
  cases hok : okL L f t && inB d 1 10000
  · have h0 : ((R.length : Int) == 0) = true := by rw [NO hok]; rfl
    clear SA NO hok HBI
    go_wp2_with fail; (with_reducible refine (HCI.out _ HR.out).mono ?_); rintro e u1 ⟨A1, c1, rfl, ho1, hb1⟩; have HB1 := hide (bl_call hb1 HB.out); have HR1 := hide (HR.out.below hb1); have HO1 := hide ho1.reads; clear hb1 ho1 HB; go_wp2_with fail; (with_reducible refine (HCS.out _ HR1.out).mono ?_); rintro e u2 ⟨A2, c2, rfl, ho2, hb2⟩; have HB2 := hide (bl_call hb2 HB1.out); have HR2 := hide (HR1.out.below hb2); have HO2 := hide (HO1.out.below hb2); have HP2 := hide ho2.reads; clear hb2 ho2 HB1 HO1; go_wp2_with fail; (with_reducible refine (eqInts_l _ _ _ _ _ _ _ R R HO2.out HP2.out (by omega) (by omega)).mono ?_); rintro e w' ⟨rfl, j3, rfl⟩; simp only [decide_true]; have HR3 := hide (HR2.out.below (bl_drewN (bl_refl _) j3)); have HO3 := hide (HO2.out.drewN j3); have HB3 := hide (bl_drewN HB2.out j3); clear HP2 HO2 HR2 HB2
    go_wp2_with fail; (with_reducible refine (HCS.out _ HR3.out).mono ?_); rintro e u4 ⟨A4, c4, rfl, ho4, hb4⟩; have HB4 := hide (bl_call hb4 HB3.out); have HO4 := hide (HO3.out.below hb4); have HP4 := hide ho4.reads; clear hb4 ho4; go_wp2_with fail; (with_reducible refine (eqInts_l _ _ _ _ _ _ _ R R HO4.out HP4.out (by omega) (by omega)).mono ?_); rintro e w' ⟨rfl, j5, rfl⟩; simp only [decide_true]; go_wp2; go_ret; exact ⟨rfl, bl_drewN HB4.out j5⟩
  · obtain ⟨l1, l2, l3, W, T, S, eG, bW, bT, bS, hend⟩ := SA hok
    have h0 : ((R.length : Int) == 0) = false := beq_eq_false_iff_ne.2 (by omega)
    have h2 : ((R.length : Int) == (X.length : Int) + 1) = true := by rw [l1]; simp
    have MON := hide (fun r (h : r + 1 < R.length) => show ng R r ≤ ng R (r + 1) from by
      obtain ⟨m, _, _, hw0, _, hle⟩ := l2 r (by omega)
      omega)
    have GI := fun (u : World) (h : TL u A L.length L) => LineGlue_i u A L.length c0 L h (by omega) f t (by omega) (by omega)
    rw [eG] at GI
    have HGI := hide GI
    have LE : (if R = [] then -1 else ng R (R.length - 1)) = posn (d - W) T S W T S := by
      rw [if_neg (by intro h; rw [h] at l1; simp at l1), show R.length - 1 = X.length by omega, hend]
    have LA := fun (u : World) (A : Option Addr) (c : Nat) (h : IL u A R.length R) => last_l u A R.length c R h (by omega)
    rw [LE] at LA
    have PE := posn_exact (d := d) (W := W) (T := T) (S := S) bT.1 bS.1
    obtain ⟨z, hz⟩ : ∃ z, z = posn (d - W) T S W T S := ⟨_, rfl⟩
    rw [← hz] at LA PE
    have HLA := hide LA
    have HPE := hide PE
    have h1R : 1 ≤ R.length := by omega
    have ww : IntKind.i64.wrap (W - d) = W - d := IntWalk.i64_in _ (by omega)
    clear SA NO hok l1 l2 l3 GI LA PE LE hz hend eG
    go_wp2_with fail; (with_reducible refine (HCI.out _ HR.out).mono ?_); rintro e u1 ⟨A1, c1, rfl, ho1, hb1⟩; have HB1 := hide (bl_call hb1 HB.out); have HR1 := hide (HR.out.below hb1); have HO1 := hide ho1.reads; clear hb1 ho1 HB; go_wp2_with fail; (with_reducible refine (HCS.out _ HR1.out).mono ?_); rintro e u2 ⟨A2, c2, rfl, ho2, hb2⟩; have HB2 := hide (bl_call hb2 HB1.out); have HR2 := hide (HR1.out.below hb2); have HO2 := hide (HO1.out.below hb2); have HP2 := hide ho2.reads; clear hb2 ho2 HB1 HO1; go_wp2_with fail; (with_reducible refine (eqInts_l _ _ _ _ _ _ _ R R HO2.out HP2.out (by omega) (by omega)).mono ?_); rintro e w' ⟨rfl, j3, rfl⟩; simp only [decide_true]; have HR3 := hide (HR2.out.below (bl_drewN (bl_refl _) j3)); have HO3 := hide (HO2.out.drewN j3); have HB3 := hide (bl_drewN HB2.out j3); clear HP2 HO2 HR2 HB2
    go_wp2_with fail
    (with_reducible refine (HGI.out _ HR3.out).mono ?_)
    rintro e u4 ⟨rfl, hb4⟩
    have HB4 := hide (bl_alloc (bl_call hb4 HB3.out) (.cells #[.int .i64 W, .int .i64 T, .int .i64 S] 70))
    have HO4 := hide ((HO3.out.below hb4).below (bl_alloc (bl_refl u4) (.cells #[.int .i64 W, .int .i64 T, .int .i64 S] 70)))
    have HR4 := hide ((HR3.out.below hb4).below (bl_alloc (bl_refl u4) (.cells #[.int .i64 W, .int .i64 T, .int .i64 S] 70)))
    clear hb4 HO3 HR3 HB3 HCS HCI HGI
    go_wp2
    go_loopw [10] (fun i u => ∃ (k j : Nat), 1 ≤ k ∧ k ≤ R.length ∧ i = .int .i64 k ∧ (u4.alloc (.cells #[.int .i64 W, .int .i64 T, .int .i64 S] 70)).drewN j = u) (fun i _ => R.length - (intOf i).toNat)
    case atStart => exact ⟨1, 0, Nat.le_refl _, h1R, rfl, rfl⟩
    case round =>
      obtain ⟨k, j, hk1, hk, rfl, rfl⟩ := hrel
      by_cases hlt : k < R.length
      · obtain ⟨r, hr⟩ : ∃ r, k = r + 1 := ⟨k - 1, by omega⟩
        have hle := MON.out r (by omega)
        rw [← hr] at hle
        obtain ⟨b, o, rfl, hb0, r0⟩ := HO4.out.at_ (i := k) (by omega)
        obtain ⟨b', o', hA, hb0', r1⟩ := HO4.out.at_ (i := r) (by omega)
        injection hA with hA
        cases hA
        obtain ⟨x, hx⟩ : ∃ x, x = ng R r := ⟨_, rfl⟩
        obtain ⟨y, hy⟩ : ∃ x, x = ng R k := ⟨_, rfl⟩
        rw [← hx] at r1 hle
        rw [← hy] at r0 hle
        have CAST : (k : Int) - 1 = (r : Int) := by omega
        have wr' : IntKind.i64.wrap (r : Int) = (r : Int) := IntWalk.i64_in _ (by omega)
        have hi1 : (k : Int) < (R.length : Int) := by omega
        have hr1 : (r : Int) < (R.length : Int) := by omega
        have hr0 : (0 : Int) ≤ (r : Int) := by omega
        have hrl : r < R.length := by omega
        have g1 : decide (y < x) = false := decide_eq_false (by omega)
        have g2 : ¬ y < x := by omega
        clear hx hy hle hr
        go_wp2
        go_quiet (fail)
        go_wp2
        go_roundw
        case rel => exact ⟨k + 1, _, by omega, by omega, by go_num, rfl⟩
        case measure => simp [intOf]; omega
      · have HB5 := hide (bl_drewN HB4.out j)
        have HR5 := hide (HR4.out.drewN j)
        have HO5 := hide (HO4.out.drewN j)
        have m0 : ((u4.alloc (.cells #[.int .i64 W, .int .i64 T, .int .i64 S] 70)).drewN j).cell? ⟨u4.heap.size, 0, none⟩ = some (.int .i64 W) := by simp [go_sem]
        have m1 : ((u4.alloc (.cells #[.int .i64 W, .int .i64 T, .int .i64 S] 70)).drewN j).cell? ⟨u4.heap.size, 1, none⟩ = some (.int .i64 T) := by simp [go_sem]
        have m2 : ((u4.alloc (.cells #[.int .i64 W, .int .i64 T, .int .i64 S] 70)).drewN j).cell? ⟨u4.heap.size, 2, none⟩ = some (.int .i64 S) := by simp [go_sem]
        obtain ⟨U, hU⟩ : ∃ U, U = (u4.alloc (.cells #[.int .i64 W, .int .i64 T, .int .i64 S] 70)).drewN j := ⟨_, rfl⟩
        rw [← hU] at HB5 HR5 HO5 m0 m1 m2 ⊢
        clear hU HB4 HR4 HO4 MON
        rcases (by omega : (W = d) ∨ (W < d ∧ 0 < T) ∨ (W < d ∧ T = 0) ∨ (d < W ∧ W - d ≤ S) ∨ (d < W ∧ S < W - d)) with q | ⟨q, q'⟩ | ⟨q, q'⟩ | ⟨q, q'⟩ | ⟨q, q'⟩
        · obtain rfl := HPE.out (.inl q)
          subst q
          clear HPE
          go_wp2_with fail; (with_reducible refine (HBI.out _ HR5.out).mono ?_); rintro e u6 ⟨A6, c6, rfl, ho6, hb6⟩; have HB6 := hide (bl_call hb6 HB5.out); have HO6 := hide (HO5.out.below hb6); clear hb6 ho6; go_wp2_with fail; (with_reducible refine (HLA.out _ _ _ HO6.out).mono ?_); rintro e w' ⟨rfl, rfl⟩; go_wp2; go_ret; exact ⟨by first | rfl | simp, HB6.out⟩
        · obtain rfl := HPE.out (.inr (.inl ⟨q, q'⟩))
          have p1 : (W == z) = false := beq_eq_false_iff_ne.2 (by omega)
          clear HPE
          go_wp2_with fail; (with_reducible refine (HBI.out _ HR5.out).mono ?_); rintro e u6 ⟨A6, c6, rfl, ho6, hb6⟩; have HB6 := hide (bl_call hb6 HB5.out); have HO6 := hide (HO5.out.below hb6); clear hb6 ho6; go_wp2_with fail; (with_reducible refine (HLA.out _ _ _ HO6.out).mono ?_); rintro e w' ⟨rfl, rfl⟩; go_wp2; go_ret; exact ⟨by first | rfl | simp, HB6.out⟩
        · have p1 : (W == d) = false := beq_eq_false_iff_ne.2 (by omega)
          have p2 : ¬ d < W := by omega
          have p3 : ¬ 0 < T := by omega
          clear HPE
          go_wp2_with fail; (with_reducible refine (HBI.out _ HR5.out).mono ?_); rintro e u6 ⟨A6, c6, rfl, ho6, hb6⟩; have HB6 := hide (bl_call hb6 HB5.out); have HO6 := hide (HO5.out.below hb6); clear hb6 ho6; go_wp2; go_ret; exact ⟨rfl, HB6.out⟩
        · obtain rfl := HPE.out (.inr (.inr ⟨q, q'⟩))
          have p1 : (W == z) = false := beq_eq_false_iff_ne.2 (by omega)
          have p2 : ¬ W < z := by omega
          clear HPE
          go_wp2_with fail; (with_reducible refine (HBI.out _ HR5.out).mono ?_); rintro e u6 ⟨A6, c6, rfl, ho6, hb6⟩; have HB6 := hide (bl_call hb6 HB5.out); have HO6 := hide (HO5.out.below hb6); clear hb6 ho6; go_wp2_with fail; (with_reducible refine (HLA.out _ _ _ HO6.out).mono ?_); rintro e w' ⟨rfl, rfl⟩; go_wp2; go_ret; exact ⟨by first | rfl | simp, HB6.out⟩
        · have p1 : (W == d) = false := beq_eq_false_iff_ne.2 (by omega)
          have p2 : ¬ W < d := by omega
          have p3 : ¬ W - d ≤ S := by omega
          clear HPE
          go_wp2_with fail; (with_reducible refine (HBI.out _ HR5.out).mono ?_); rintro e u6 ⟨A6, c6, rfl, ho6, hb6⟩; have HB6 := hide (bl_call hb6 HB5.out); have HO6 := hide (HO5.out.below hb6); clear hb6 ho6; go_wp2; go_ret; exact ⟨rfl, HB6.out⟩
set_option maxRecDepth 100000 in
theorem lifted_FnSetLine (os : Os) (started : os.Started) (H : Type) (enc : TypeId × Value → H) :
    ReturnsInHanded {} Try.checked os 15 .any (Rows.fnSetLineSpec.pre6 enc Try.prog Try.f15 Rows.fnSetLineRow.domain false) (Rows.fnSetLineSpec.post enc Try.prog Try.f15 false true false false) := by
  refine returnsInHanded_of_change (C := Try.checked) own_knob started (by kernel_rfl) Try.func15
    (ChangeSpec.witness6 (enc := enc) (C := Try.checked) false ⟨#[], #[.slice none 0 0], []⟩ 8 (by kernel_rfl) (by kernel_rfl) (by kernel_rfl) (by kernel_rfl)) ?_
  intro W base args ds gs before hval0 hW hcnd _
  have hval : ∀ (j : Nat) t v, Try.f15.params[j]? = some t → args[j]? = some v → Value.okWide Try.prog W .any base t v := hval0
  have hW' := hW
  obtain ⟨p, q, hA0, hV, rfl, hfz, hnd⟩ := hW
  have hA : DataW.TrodAll enc Try.prog W 0 (fun _ => true) true Try.f15.params.toList args.toList ds p := hA0
  rw [Try.params15] at hA hval
  obtain ⟨v0, vs0, d0, ds0, p0, q0, hargs, rfl, rfl, zh0, r0⟩ := trodAll_cons hA
  obtain ⟨rfl, rfl, rfl⟩ := trodAll_nil r0
  obtain rfl : args = #[v0] := by cases args; simp_all
  obtain ⟨rfl, rfl⟩ := trodVars_none hV
  have zk0 := zh0
  have zl0 : ∀ x ∈ p0, x.block < W.heap.size := by obtain ⟨m, hm⟩ := zk0; exact DataW.trod_lt m _ _ _ hm
  clear hA0 hval0
  obtain ⟨a_code, n_code, c_code, rfl⟩ := okWide_slice Try.underlying54 (hval 0 54 v0 rfl rfl)
  obtain ⟨code, w_code⟩ := isRow_of Try.underlying54 Try.underlying5 (by kernel_rfl) zh0
  refine (walk_FnSetLine a_code n_code c_code code W w_code).mono fun e W' ⟨he, bel⟩ => ?_
  subst he
  exact ⟨_, rfl, _, _, _, [], _, [], hW', trodAll_mk1 (shut_bool Try.underlying4 _), (trodAll_cons_mk (Below.trod laid_out (by kernel_rfl) (of_decide_eq_true (by kernel_rfl)) zk0 bel zl0) trodAll_mk0), rfl, bel.frame _, fun h => by cases h⟩

/-- The statement. -/
theorem FnSetLine_holds : Rows.FnSetLineSaid :=
  OpenClaim.holds_of_wide 15 Try.f15 rfl rfl rfl rfl rfl rfl rfl ⟨rfl, rfl, rfl, rfl, rfl⟩ rfl rfl rfl rfl rfl (by kernel_rfl) Try.func15 (by unfold joinedFacts; rw [may_enter, lifts_final, make_cut]; kernel_rfl)
    (of_decide_eq_true (by kernel_rfl)) (by unfold Func.isWrapper; first | (rw [if_pos (by decide +kernel)]; kernel_rfl) | (rw [if_neg (by decide +kernel)]; exact ⟨rfl, rfl⟩))
    (fun os started H enc _ => lifted_FnSetLine os started H enc)
end Go.Proofs.Ytafddofajfcffaa
