/- The law that boxes do not overlap in a set line holds for every code. No condition. -/
import Derived.Test.YtafddofajfcffaaJn
import Derived.Test.YtafddofajfcffaaSl
import Derived.Test.YtafddofajfcffaaSlS
import Derived.Test.YtafddofajfcffaaSlN
import Derived.Test.YtafddofajfcffaaBxS
namespace Go.Proofs.Ytafddofajfcffaa
open Go.ChangeShapes Go.WideShapes Go.ChangeAt Go.RowKit
set_option linter.unusedVariables false
set_option linter.unusedSimpArgs false

theorem DrawFitLine_sl (w : World) (a : Option Addr) (n c : Nat) (zs : List Int) (h : IsRow .u8 w a n c zs) :
    Calls Try.prog 111 #[.slice a n c] w fun e w' => ∃ (A : Option Addr) (c : Nat) (L : List It) (x y d : Int), e = .returned (.tuple #[.slice A L.length c, .int .i64 x, .int .i64 y, .int .i64 d]) ∧ TO w' 76 w.heap.size A c L ∧ L.length ≤ 23 ∧ (-1 ≤ x ∧ x ≤ 23) ∧ (-1 ≤ y ∧ y ≤ 23) ∧ (0 ≤ d ∧ d ≤ 10001) ∧ Below w.heap.size w w' := by
  go_enter Try.func111, Try.ntmps111
  go_wp2_with fail
  (with_reducible refine (newReader_any _ _ _ _ _ h).mono ?_)
  rintro e u0 ⟨rfl, hrd, hb⟩
  have hgl : w.heap.size < u0.heap.size := hrd.lt
  go_wp2_with fail
  (with_reducible refine (someLine_any _ _ _ _ hrd (by omega) (by omega)).mono ?_)
  rintro e u1 ⟨A, c1, L, x, y, rfl, hol, hll, hx, hy, hrd1, hon1⟩
  have HO1 := hide (on_call hon1 (on_below hb (on_refl w (some w.heap.size))))
  have hz1 := hon1.size
  clear hon1 hb
  go_wp2_with fail
  (with_reducible refine (someWidth_any _ _ _ _ hrd1 (by omega)).mono ?_)
  rintro e u2 ⟨d, hd, rfl, hrd2, hon2⟩
  have hol2 := hol.readI hon2 (by omega)
  have O2 := on_call hon2 HO1.out
  go_wp2
  refine bodyPost_ret (v := .tuple #[.slice A L.length c1, .int .i64 x, .int .i64 y, .int .i64 d]) (by simp [results, Try.results111, go_sem]) rfl ⟨A, c1, L, x, y, d, rfl, hol2.more (by omega), hll, hx, hy, hd, on_new O2 (Nat.le_refl _)⟩
theorem DrawSetLine_any (w : World) (a : Option Addr) (n c : Nat) (zs : List Int) (h : IsRow .u8 w a n c zs) :
    Calls Try.prog 61 #[.slice a n c] w fun e w' => ∃ (A : Option Addr) (c : Nat) (L : List It) (x y d : Int), e = .returned (.tuple #[.slice A L.length c, .int .i64 x, .int .i64 y, .int .i64 d]) ∧ TO w' 76 w.heap.size A c L ∧ L.length ≤ 23 ∧ (-1 ≤ x ∧ x ≤ 23) ∧ (-1 ≤ y ∧ y ≤ 23) ∧ (0 ≤ d ∧ d ≤ 10001) ∧ Below w.heap.size w w' := by
  go_enter Try.func61, Try.ntmps61
  go_wp2_with fail
  (with_reducible refine (DrawFitLine_sl _ _ _ _ _ h).mono ?_)
  rintro e u1 ⟨A, c1, L, x, y, d, rfl, hol, hll, hx, hy, hd, hb⟩
  go_wp2
  refine bodyPost_ret (v := .tuple #[.slice A L.length c1, .int .i64 x, .int .i64 y, .int .i64 d]) (by simp [results, Try.results61, go_sem]) rfl ⟨A, c1, L, x, y, d, rfl, hol, hll, hx, hy, hd, hb⟩
set_option maxRecDepth 8000 in
set_option maxHeartbeats 4000000 in
theorem walk_FnSetBoxes (a : Option Addr) (n c : Nat) (zs : List Int) (w : World) (hr : IsRow .u8 w a n c zs) :
    Calls Try.prog 16 #[.slice a n c] w fun e w' => e = .returned (.bool true) ∧ Below w.heap.size w w' := by
  have hm := small_rown hr
  unfold maxLen at hm
  rcases (by omega : 1048576 < n ∨ n ≤ 1048576) with hn | hn
  · go_enter Try.func16, Try.ntmps16
    go_wp2
    go_ret
    exact ⟨rfl, bl_refl _⟩
  go_enter Try.func16, Try.ntmps16
  go_wp2_with fail
  (with_reducible refine (DrawSetLine_any _ _ _ _ _ hr).mono ?_)
  rintro e u0 ⟨A, c0, L, f, t, d, rfl, hol, hll, hf, ht, hd, hb⟩
  clear hr
  have HR := hide hol.reads
  have HB := hide hb
  have CI := fun (u : World) (h : TL u A L.length L) => SetLine_i u A L.length c0 L h (by omega) f t d (by omega) (by omega)
  have CS := fun (u : World) (h : TL u A L.length L) => SetLine_s u A L.length c0 L h (by omega) f t d (by omega) (by omega)
  have BI := fun (u : World) (h : TL u A L.length L) => BoxesOf_i u A L.length c0 L h (by omega) f t (by omega) (by omega)
  have SA := setO_all (L := L) (a := f) (b := t) (d := d)
  have NO := setO_no (L := L) (a := f) (b := t) (d := d)
  have hlen := setO_len L f t d
  have hbx := bxO_len L f t
  obtain ⟨R, hR⟩ : ∃ R, R = setO L f t d := ⟨_, rfl⟩
  obtain ⟨X, hX⟩ : ∃ R, R = bxO L f t := ⟨_, rfl⟩
  rw [← hR] at CI CS SA NO hlen
  rw [← hX] at BI SA hbx
  have HCI := hide CI
  have HCS := hide CS
  have HBI := hide BI
  clear CI CS BI hR hX hol hb
  cases hok : okL L f t && inB d 1 10000
  · have h0 : ((R.length : Int) == 0) = true := by rw [NO hok]; rfl
    clear SA NO hok HBI
    go_wp2_with fail; (with_reducible refine (HCI.out _ HR.out).mono ?_); rintro e u1 ⟨A1, c1, rfl, ho1, hb1⟩; have HB1 := hide (bl_call hb1 HB.out); have HR1 := hide (HR.out.below hb1); have HO1 := hide ho1.reads; clear hb1 ho1 HB; go_wp2_with fail; (with_reducible refine (HCS.out _ HR1.out).mono ?_); rintro e u2 ⟨A2, c2, rfl, ho2, hb2⟩; have HB2 := hide (bl_call hb2 HB1.out); have HR2 := hide (HR1.out.below hb2); have HO2 := hide (HO1.out.below hb2); have HP2 := hide ho2.reads; clear hb2 ho2 HB1 HO1; go_wp2_with fail; (with_reducible refine (eqInts_l _ _ _ _ _ _ _ R R HO2.out HP2.out (by omega) (by omega)).mono ?_); rintro e w' ⟨rfl, j3, rfl⟩; simp only [decide_true]; have HR3 := hide (HR2.out.below (bl_drewN (bl_refl _) j3)); have HO3 := hide (HO2.out.drewN j3); have HB3 := hide (bl_drewN HB2.out j3); clear HP2 HO2 HR2 HB2
    go_wp2_with fail; (with_reducible refine (HCS.out _ HR3.out).mono ?_); rintro e u4 ⟨A4, c4, rfl, ho4, hb4⟩; have HB4 := hide (bl_call hb4 HB3.out); have HO4 := hide (HO3.out.below hb4); have HP4 := hide ho4.reads; clear hb4 ho4; go_wp2_with fail; (with_reducible refine (eqInts_l _ _ _ _ _ _ _ R R HO4.out HP4.out (by omega) (by omega)).mono ?_); rintro e w' ⟨rfl, j5, rfl⟩; simp only [decide_true]; go_wp2; go_ret; exact ⟨rfl, bl_drewN HB4.out j5⟩
  · obtain ⟨l1, l2, l3, _⟩ := SA hok
    have h0 : ((R.length : Int) == 0) = false := beq_eq_false_iff_ne.2 (by omega)
    have h2 : ((X.length : Int) + 1 != (R.length : Int)) = false := by rw [l1]; simp
    have L2 := hide l2
    have L3 := hide l3
    have L1 := hide l1
    clear SA NO hok l1 l2 l3
    go_wp2_with fail; (with_reducible refine (HCI.out _ HR.out).mono ?_); rintro e u1 ⟨A1, c1, rfl, ho1, hb1⟩; have HB1 := hide (bl_call hb1 HB.out); have HR1 := hide (HR.out.below hb1); have HO1 := hide ho1.reads; clear hb1 ho1 HB; go_wp2_with fail; (with_reducible refine (HCS.out _ HR1.out).mono ?_); rintro e u2 ⟨A2, c2, rfl, ho2, hb2⟩; have HB2 := hide (bl_call hb2 HB1.out); have HR2 := hide (HR1.out.below hb2); have HO2 := hide (HO1.out.below hb2); have HP2 := hide ho2.reads; clear hb2 ho2 HB1 HO1; go_wp2_with fail; (with_reducible refine (eqInts_l _ _ _ _ _ _ _ R R HO2.out HP2.out (by omega) (by omega)).mono ?_); rintro e w' ⟨rfl, j3, rfl⟩; simp only [decide_true]; have HR3 := hide (HR2.out.below (bl_drewN (bl_refl _) j3)); have HO3 := hide (HO2.out.drewN j3); have HB3 := hide (bl_drewN HB2.out j3); clear HP2 HO2 HR2 HB2
    go_wp2_with fail
    (with_reducible refine (HBI.out _ HR3.out).mono ?_)
    rintro e u4 ⟨A4, c4, rfl, ho4, hb4⟩
    have HB4 := hide (bl_call hb4 HB3.out)
    have HO4 := hide (HO3.out.below hb4)
    have HR4 := hide (HR3.out.below hb4)
    have HX4 := hide ho4.reads
    clear hb4 ho4 HO3 HR3 HB3 HCS HCI HBI
    go_wp2
    go_loopw [9] (fun i u => ∃ (k j : Nat), k ≤ X.length ∧ i = .int .i64 k ∧ u4.drewN j = u) (fun i _ => X.length - (intOf i).toNat)
    case atStart => exact ⟨0, 0, Nat.zero_le _, rfl, rfl⟩
    case round =>
      obtain ⟨k, j, hk, rfl, rfl⟩ := hrel
      by_cases hlt : k < X.length
      · obtain ⟨m, em, hml, hw0, hw1, hle⟩ := L2.out k hlt
        have b1 := L3.out k (by omega)
        have b2 := L3.out (k + 1) (by omega)
        have hl1 := L1.out
        obtain ⟨b, o, rfl, hb0, r0⟩ := HO4.out.at_ (i := k) (by omega)
        obtain ⟨b', o', hA, hb0', r1⟩ := HO4.out.at_ (i := k + 1) (by omega)
        injection hA with hA
        cases hA
        obtain ⟨bx, ox, rfl, hbx0, x0⟩ := HX4.out.at_ hlt
        obtain ⟨bi, oi, rfl, hbi0, d0, d1, d2, d3, d4, d5⟩ := HR4.out.at6 hml
        rw [em] at x0
        obtain ⟨x, hx⟩ : ∃ x, x = ng R k := ⟨_, rfl⟩
        obtain ⟨y, hy⟩ : ∃ x, x = ng R (k + 1) := ⟨_, rfl⟩
        obtain ⟨wd, hwd⟩ : ∃ x, x = (tg L m).w := ⟨_, rfl⟩
        rw [← hx] at r0 hle b1
        rw [← hy] at r1 hle b2
        rw [← hwd] at d1 hle hw0 hw1
        have hi1 : (k : Int) < (R.length : Int) := by omega
        have hi2 : (k : Int) + 1 < (R.length : Int) := by omega
        have hi3 : (k : Int) < (X.length : Int) := by omega
        have hi4 : (m : Int) < (L.length : Int) := by omega
        have hj2 : k + 1 < R.length := by omega
        have hj1 : k < R.length := by omega
        have ws : IntKind.i64.wrap (x + wd) = x + wd := IntWalk.i64_in _ (by omega)
        have g1 : decide (y < x + wd) = false := decide_eq_false (by omega)
        have g2 : ¬ y < x + wd := by omega
        clear hx hy hwd hle b1 b2 hw0 hw1 em d0 d2 d3 d4 d5 hl1
        go_wp2
        go_quiet (fail)
        go_wp2
        go_roundw
        case rel => exact ⟨k + 1, _, by omega, by go_num, rfl⟩
        case measure => simp [intOf]; omega
      · go_wp2
        go_ret
        exact ⟨rfl, bl_drewN HB4.out _⟩
set_option maxRecDepth 100000 in
theorem lifted_FnSetBoxes (os : Os) (started : os.Started) (H : Type) (enc : TypeId × Value → H) :
    ReturnsInHanded {} Try.checked os 16 .any (Rows.fnSetBoxesSpec.pre6 enc Try.prog Try.f16 Rows.fnSetBoxesRow.domain false) (Rows.fnSetBoxesSpec.post enc Try.prog Try.f16 false true false false) := by
  refine returnsInHanded_of_change (C := Try.checked) own_knob started (by kernel_rfl) Try.func16
    (ChangeSpec.witness6 (enc := enc) (C := Try.checked) false ⟨#[], #[.slice none 0 0], []⟩ 8 (by kernel_rfl) (by kernel_rfl) (by kernel_rfl) (by kernel_rfl)) ?_
  intro W base args ds gs before hval0 hW hcnd _
  have hval : ∀ (j : Nat) t v, Try.f16.params[j]? = some t → args[j]? = some v → Value.okWide Try.prog W .any base t v := hval0
  have hW' := hW
  obtain ⟨p, q, hA0, hV, rfl, hfz, hnd⟩ := hW
  have hA : DataW.TrodAll enc Try.prog W 0 (fun _ => true) true Try.f16.params.toList args.toList ds p := hA0
  rw [Try.params16] at hA hval
  obtain ⟨v0, vs0, d0, ds0, p0, q0, hargs, rfl, rfl, zh0, r0⟩ := trodAll_cons hA
  obtain ⟨rfl, rfl, rfl⟩ := trodAll_nil r0
  obtain rfl : args = #[v0] := by cases args; simp_all
  obtain ⟨rfl, rfl⟩ := trodVars_none hV
  have zk0 := zh0
  have zl0 : ∀ x ∈ p0, x.block < W.heap.size := by obtain ⟨m, hm⟩ := zk0; exact DataW.trod_lt m _ _ _ hm
  clear hA0 hval0
  obtain ⟨a_code, n_code, c_code, rfl⟩ := okWide_slice Try.underlying54 (hval 0 54 v0 rfl rfl)
  obtain ⟨code, w_code⟩ := isRow_of Try.underlying54 Try.underlying5 (by kernel_rfl) zh0
  refine (walk_FnSetBoxes a_code n_code c_code code W w_code).mono fun e W' ⟨he, bel⟩ => ?_
  subst he
  exact ⟨_, rfl, _, _, _, [], _, [], hW', trodAll_mk1 (shut_bool Try.underlying4 _), (trodAll_cons_mk (Below.trod laid_out (by kernel_rfl) (of_decide_eq_true (by kernel_rfl)) zk0 bel zl0) trodAll_mk0), rfl, bel.frame _, fun h => by cases h⟩

/-- The statement. -/
theorem FnSetBoxes_holds : Rows.FnSetBoxesSaid :=
  OpenClaim.holds_of_wide 16 Try.f16 rfl rfl rfl rfl rfl rfl rfl ⟨rfl, rfl, rfl, rfl, rfl⟩ rfl rfl rfl rfl rfl (by kernel_rfl) Try.func16 (by unfold joinedFacts; rw [may_enter, lifts_final, make_cut]; kernel_rfl)
    (of_decide_eq_true (by kernel_rfl)) (by unfold Func.isWrapper; first | (rw [if_pos (by decide +kernel)]; kernel_rfl) | (rw [if_neg (by decide +kernel)]; exact ⟨rfl, rfl⟩))
    (fun os started H enc _ => lifted_FnSetBoxes os started H enc)
end Go.Proofs.Ytafddofajfcffaa
