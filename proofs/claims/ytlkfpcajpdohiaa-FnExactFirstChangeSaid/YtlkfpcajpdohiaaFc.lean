/- FirstChange, in the program and in its model. -/
import Derived.Test.YtlkfpcajpdohiaaFcM
import Derived.Test.YtlkfpcajpdohiaaFcI
import Derived.Test.YtlkfpcajpdohiaaFf
import Derived.Test.YtlkfpcajpdohiaaFfS
namespace Go.Proofs.Ytlkfpcajpdohiaa
open Go.ChangeShapes Go.WideShapes Go.ChangeAt Go.RowKit
set_option linter.unusedVariables false
set_option maxRecDepth 4000
open Classical

theorem IL.takeF {w : World} {A : Option Addr} {n k : Nat} {l : List Int} (h : IL w A n l) (hk : k ≤ n) : IL w A k (l.take k) := by
  obtain ⟨h1, h2⟩ := h
  refine ⟨by simp; omega, fun h0 => ?_⟩
  obtain ⟨b, o, e, hb, hc⟩ := h2 (by omega)
  refine ⟨b, o, e, hb, fun i hi => ?_⟩
  rw [ng_take hi]
  exact hc i (by omega)
/-- The search finds how many lines are left. -/
theorem cut_fcN {x : List Int} {c : Int} {n r : Nat} (hn : n ≤ x.length) (hr : r ≤ (x.take n).length) (h : Cut (x.take n) c r r) : fcN x c n = r := by
  have hl : (x.take n).length = n := by simp; omega
  rw [hl] at hr
  refine fcN_eq hr (fun k hk => ?_) (fun k h1 h2 => ?_)
  · have := h.1 k hk
    rwa [ng_take (by omega)] at this
  · have := h.2 k h1 (by rw [hl]; exact h2)
    rwa [ng_take h2] at this
set_option maxHeartbeats 2000000 in
theorem FirstChange_i (w : World) (A B : Option Addr) (n m c c' : Nat) (L M : List It) (d : Int) (h : TL w A n L) (hn : n ≤ 1048576) (h2 : TL w B m M) (hm : m ≤ 1048576) :
    Calls Try.prog 17 #[.slice A n c, .slice B m c', .int .i64 d] w fun e w' => e = .returned (.int .i64 (fcO L M d)) ∧ Below w.heap.size w w' := by
  obtain rfl : n = L.length := h.1
  obtain rfl : m = M.length := h2.1
  have HI := hide h
  have HJ := hide h2
  clear h h2
  have CI := CommonItems_i w A B L.length M.length c c' L M HI.out HJ.out (by omega) (by omega)
  cases q : (isOk L && isOk M)
  · have O := hide (fcO_no (L := L) (M := M) (d := d) (by rw [q]; rfl))
    have ec : ciO L M = -1 := by
      cases q1 : isOk L
      · exact ciO_no1 q1
      · rw [q1, Bool.true_and] at q; exact ciO_no2 q
    rw [ec] at CI
    have HCI := hide CI
    clear CI ec q
    go_enter Try.func17, Try.ntmps17
    go_wp2_with fail
    (with_reducible refine HCI.out.mono ?_)
    rintro e u1 ⟨rfl, hb1⟩
    go_wp2
    go_ret
    exact ⟨by (rw [O.out]; first | done | rfl), hb1⟩
  obtain ⟨q1, q2⟩ := (Bool.and_eq_true _ _).mp q
  rw [ciO_yes q1 q2] at CI
  have kb := kp_le L M
  have hl60 := (isOk_iff.1 q1).2.1
  obtain ⟨cc, hcc⟩ : ∃ x, x = kp L M := ⟨_, rfl⟩
  rw [← hcc] at CI kb
  have HCC := hide hcc
  have HCI := hide CI
  clear CI hcc
  cases q3 : inB d 1 10000
  · have O := hide (fcO_no (L := L) (M := M) (d := d) (by rw [q3]; simp))
    clear q q1 q2
    have c0 : ¬ ((cc : Int) < 0) := by omega
    go_enter Try.func17, Try.ntmps17
    go_wp2_with fail
    (with_reducible refine HCI.out.mono ?_)
    rintro e u1 ⟨rfl, hb1⟩
    have HB1 := hide hb1
    clear hb1
    go_wp2_with (go_at_call 54; refine (validWidth_ii _ _).mono ?_; rintro e w' ⟨rfl, rfl⟩)
    go_ret
    exact ⟨by (rw [O.out]; first | done | rfl), HB1.out⟩
  · have O := hide (fcO_yes (d := d) q1 q2 q3)
    have FA := fun (u : World) (hu : TL u A L.length L) => FirstFit_i u A L.length c L d hu (by omega)
    have FB := fun (u : World) (hu : TL u B M.length M) => FirstFit_i u B M.length c' M d hu (by omega)
    have xl := ffO_len (L := L) (d := d)
    have yl := ffO_len (L := M) (d := d)
    have xp := (ffO_valid (L := L) (d := d) (by rw [q1, q3]; rfl)).2.1
    have asc := fun i j h1 h2 => ffO_asc (L := L) (d := d) (i := i) (j := j) h1 h2
    unfold RetL at FA FB
    obtain ⟨X, hX⟩ : ∃ X, X = ffO L d := ⟨_, rfl⟩
    obtain ⟨Y, hY⟩ : ∃ Y, Y = ffO M d := ⟨_, rfl⟩
    rw [← hX] at FA xl xp asc O
    rw [← hY] at FB yl O
    have HFA := hide FA
    have HFB := hide FB
    have HAS := hide asc
    clear FA FB asc hX hY q q1 q2
    have c0 : ¬ ((cc : Int) < 0) := by omega
    go_enter Try.func17, Try.ntmps17
    go_wp2_with fail
    (with_reducible refine HCI.out.mono ?_)
    rintro e u1 ⟨rfl, hb1⟩
    have HB1 := hide hb1
    have HI1 := hide (HI.out.below hb1)
    have HJ1 := hide (HJ.out.below hb1)
    clear hb1
    go_wp2_with (go_at_call 54; refine (validWidth_ii _ _).mono ?_; rintro e w' ⟨rfl, rfl⟩)
    (with_reducible refine (HFA.out _ HI1.out).mono ?_)
    rintro e u2 ⟨A2, c2, rfl, ho2, hb2⟩
    have HB2 := hide (bl_call hb2 HB1.out)
    have HJ2 := hide (HJ1.out.below hb2)
    have HO2 := hide ho2
    clear hb2 ho2
    go_wp2_with fail
    (with_reducible refine (HFB.out _ HJ2.out).mono ?_)
    rintro e u3 ⟨A3, c3, rfl, ho3, hb3⟩
    have HB3 := hide (bl_call hb3 HB2.out)
    have HO3 := hide (HO2.out.below hb3)
    have HY := hide ho3.reads
    clear hb3 ho3
    go_wp2_with fail
    (with_reducible refine (prefInt_i _ _ _ _ _ _ _ X Y HO3.out.reads HY.out (by omega) (by omega)).mono ?_)
    rintro e w' ⟨rfl, j, rfl⟩
    have HB4 := hide (bl_drewN HB3.out j)
    have HO4 := hide (HO3.out.drewN j)
    have kl := kp_le X Y
    obtain ⟨n, hn'⟩ : ∃ n, n = kp X Y := ⟨_, rfl⟩
    rw [← hn'] at O kl ⊢
    obtain ⟨g, rfl, _, _, hcap, _⟩ := own_form HO4.out xp
    have HIL := hide (HO4.out.reads.takeF (k := n) kl.1)
    have htl : (X.take n).length = n := by simp; omega
    have hnc : n ≤ c2 := by omega
    have hnc2 : (n : Int) ≤ (c2 : Int) := by omega
    have hc0 : ¬ c2 = 0 := by omega
    have SI := fun (u : World) (hu : IL u (some ⟨g, 0, none⟩) n (X.take n)) => SearchInts_i u (some ⟨g, 0, none⟩) c2 (X.take n) (cc : Int) (by rw [htl]; exact hu) (by rw [htl]; omega) (fun i j h1 h2 => by rw [htl] at h2; rw [ng_take (by omega), ng_take h2]; exact Int.le_of_lt (HAS.out i j h1 (by omega)))
    rw [htl] at SI
    have HSI := hide SI
    have CF := hide (fun (r : Nat) (h1 : r ≤ n) (h : Cut (X.take n) (cc : Int) r r) => cut_fcN (x := X) (c := (cc : Int)) (n := n) (r := r) kl.1 (by rw [htl]; exact h1) h)
    clear SI htl hn' kl HFA HFB HCI
    go_wp2_with fail
    (with_reducible refine (HSI.out _ HIL.out).mono ?_)
    rintro e u5 ⟨⟨r, rfl, hr1, hr2⟩, hb5⟩
    have HB5 := hide (bl_call hb5 HB4.out)
    have E := hide (CF.out r hr1 hr2)
    clear hb5 hr2
    go_wp2
    go_ret
    exact ⟨by (rw [O.out, ← HCC.out, E.out]; first | done | rfl), HB5.out⟩
set_option maxHeartbeats 2000000 in
theorem FirstChange_s (w : World) (A B : Option Addr) (n m c c' : Nat) (L M : List It) (d : Int) (h : TL w A n L) (hn : n ≤ 1048576) (h2 : TL w B m M) (hm : m ≤ 1048576) :
    Calls Try.prog 15 #[.slice A n c, .slice B m c', .int .i64 d] w fun e w' => e = .returned (.int .i64 (fcO L M d)) ∧ Below w.heap.size w w' := by
  obtain rfl : n = L.length := h.1
  obtain rfl : m = M.length := h2.1
  have HI := hide h
  have HJ := hide h2
  clear h h2
  have VA := validItems_s w A L.length c L HI.out (by omega)
  have VB := fun (u : World) (hu : TL u B M.length M) => validItems_s u B M.length c' M hu (by omega)
  cases q1 : isOk L
  · have O := hide (fcO_no (L := L) (M := M) (d := d) (by rw [q1]; rfl))
    rw [q1] at VA
    have HVA := hide VA
    clear VA VB q1
    go_enter Try.func15, Try.ntmps15
    go_wp2_with fail
    (with_reducible refine HVA.out.mono ?_)
    rintro e u1 ⟨rfl, hb1⟩
    go_wp2
    go_ret
    exact ⟨by (rw [O.out]; first | done | rfl), hb1⟩
  cases q2 : isOk M
  · have O := hide (fcO_no (L := L) (M := M) (d := d) (by rw [q2]; simp))
    rw [q1] at VA
    rw [q2] at VB
    have HVA := hide VA
    have HVB := hide VB
    clear VA VB q1 q2
    go_enter Try.func15, Try.ntmps15
    go_wp2_with fail
    (with_reducible refine HVA.out.mono ?_)
    rintro e u1 ⟨rfl, hb1⟩
    have HB1 := hide hb1
    have HJ1 := hide (HJ.out.below hb1)
    clear hb1
    go_wp2_with fail
    (with_reducible refine (HVB.out _ HJ1.out).mono ?_)
    rintro e u2 ⟨rfl, hb2⟩
    go_wp2
    go_ret
    exact ⟨by (rw [O.out]; first | done | rfl), bl_call hb2 HB1.out⟩
  cases q3 : inB d 1 10000
  · have O := hide (fcO_no (L := L) (M := M) (d := d) (by rw [q3]; simp))
    rw [q1] at VA
    rw [q2] at VB
    have HVA := hide VA
    have HVB := hide VB
    clear VA VB q1 q2
    go_enter Try.func15, Try.ntmps15
    go_wp2_with fail
    (with_reducible refine HVA.out.mono ?_)
    rintro e u1 ⟨rfl, hb1⟩
    have HB1 := hide hb1
    have HJ1 := hide (HJ.out.below hb1)
    clear hb1
    go_wp2_with fail
    (with_reducible refine (HVB.out _ HJ1.out).mono ?_)
    rintro e u2 ⟨rfl, hb2⟩
    have HB2 := hide (bl_call hb2 HB1.out)
    clear hb2
    go_wp2_with (go_at_call 49; refine (validWidth_ss _ _).mono ?_; rintro e w' ⟨rfl, rfl⟩)
    go_ret
    exact ⟨by (rw [O.out]; first | done | rfl), HB2.out⟩
  · have O := hide (fcO_yes (d := d) q1 q2 q3)
    rw [q1] at VA
    rw [q2] at VB
    have HVA := hide VA
    have HVB := hide VB
    have FA := fun (u : World) (hu : TL u A L.length L) => FirstFit_s u A L.length c L d hu (by omega)
    have FB := fun (u : World) (hu : TL u B M.length M) => FirstFit_s u B M.length c' M d hu (by omega)
    have CM := fun (u : World) (hu : TL u A L.length L) (hv : TL u B M.length M) => common_s u A B L.length M.length c c' L M hu hv (by omega) (by omega)
    have xl := ffO_len (L := L) (d := d)
    have yl := ffO_len (L := M) (d := d)
    have kb := kp_le L M
    have hl60 := (isOk_iff.1 q1).2.1
    unfold RetL at FA FB
    obtain ⟨X, hX⟩ : ∃ X, X = ffO L d := ⟨_, rfl⟩
    obtain ⟨Y, hY⟩ : ∃ Y, Y = ffO M d := ⟨_, rfl⟩
    obtain ⟨cc, hcc⟩ : ∃ x, x = kp L M := ⟨_, rfl⟩
    rw [← hX] at FA xl O
    rw [← hY] at FB yl O
    rw [← hcc] at CM kb O
    have HFA := hide FA
    have HFB := hide FB
    have HCM := hide CM
    clear FA FB CM hX hY hcc q1 q2 VA VB
    go_enter Try.func15, Try.ntmps15
    go_wp2_with fail
    (with_reducible refine HVA.out.mono ?_)
    rintro e u1 ⟨rfl, hb1⟩
    have HB1 := hide hb1
    have HI1 := hide (HI.out.below hb1)
    have HJ1 := hide (HJ.out.below hb1)
    clear hb1
    go_wp2_with fail
    (with_reducible refine (HVB.out _ HJ1.out).mono ?_)
    rintro e u2 ⟨rfl, hb2⟩
    have HB2 := hide (bl_call hb2 HB1.out)
    have HI2 := hide (HI1.out.below hb2)
    have HJ2 := hide (HJ1.out.below hb2)
    clear hb2
    go_wp2_with (go_at_call 49; refine (validWidth_ss _ _).mono ?_; rintro e w' ⟨rfl, rfl⟩)
    (with_reducible refine (HFA.out _ HI2.out).mono ?_)
    rintro e u3 ⟨A3, c3, rfl, ho3, hb3⟩
    have HB3 := hide (bl_call hb3 HB2.out)
    have HI3 := hide (HI2.out.below hb3)
    have HJ3 := hide (HJ2.out.below hb3)
    have HO3 := hide ho3
    clear hb3 ho3
    go_wp2_with fail
    (with_reducible refine (HFB.out _ HJ3.out).mono ?_)
    rintro e u4 ⟨A4, c4, rfl, ho4, hb4⟩
    have HB4 := hide (bl_call hb4 HB3.out)
    have HI4 := hide (HI3.out.below hb4)
    have HJ4 := hide (HJ3.out.below hb4)
    have HX4 := hide (HO3.out.below hb4).reads
    have HY4 := hide ho4.reads
    clear hb4 ho4
    go_wp2_with fail
    (with_reducible refine (KeptLines_s _ _ _ _ _ _ _ X Y HX4.out HY4.out (by omega) (by omega)).mono ?_)
    rintro e w' ⟨rfl, j5, rfl⟩
    have kl := kp_le X Y
    obtain ⟨n, hn'⟩ : ∃ n, n = kp X Y := ⟨_, rfl⟩
    rw [← hn'] at O kl ⊢
    clear hn'
    go_wp2_with fail
    (with_reducible refine (HCM.out _ (HI4.out.drewN j5) (HJ4.out.drewN j5)).mono ?_)
    rintro e w' ⟨rfl, j6, rfl⟩
    have HXR := hide ((HX4.out.drewN j5).drewN j6)
    have HB6 := hide (bl_drewN (bl_drewN HB4.out j5) j6)
    obtain ⟨U, hU⟩ : ∃ U, U = (u4.drewN j5).drewN j6 := ⟨_, rfl⟩
    rw [← hU] at HXR HB6 ⊢
    have O2 := hide O.out
    clear hU HFA HFB HCM HVA HVB HB1 HB2 HB3 HB4 HI1 HI2 HI3 HI4 HJ1 HJ2 HJ3 HJ4 HX4 HY4 HO3 O
    go_wp2
    go_loopw [8] (fun i u => ∃ k : Nat, k ≤ n ∧ i = .int .i64 k ∧ fcN X (cc : Int) n = fcN X (cc : Int) k ∧ Below U.heap.size U u) (fun i _ => (intOf i).toNat)
    case atStart => exact ⟨n, Nat.le_refl _, rfl, rfl, bl_refl _⟩
    case round =>
      obtain ⟨k, hk, rfl, he, hbl⟩ := hrel
      have HE := hide he
      have HBL := hide hbl
      clear he hbl
      rcases Nat.eq_zero_or_pos k with h0 | h0
      · have HK0 := hide (show fcN X (cc : Int) k = 0 by rw [h0]; rfl)
        have g0 : ¬ ((0 : Int) < (k : Int)) := by omega
        have g0' : ¬ (0 < k) := by omega
        have g1 : decide ((0 : Int) < (k : Int)) = false := decide_eq_false g0
        have hkz : (k : Int) = 0 := by omega
        have HKZ := hide hkz
        clear hkz h0
        go_wp2
        go_ret
        exact ⟨by (rw [O2.out, HE.out, HK0.out, HKZ.out]; first | done | rfl), bl_call HBL.out HB6.out⟩
      · obtain ⟨m, hm⟩ : ∃ m, k = m + 1 := ⟨k - 1, by omega⟩
        have HMK := hide hm
        have e1 : (k : Int) - 1 = (m : Int) := by omega
        have w1 : IntKind.i64.wrap (m : Int) = (m : Int) := IntWalk.i64_in _ (by omega)
        have g0 : (0 : Int) < (k : Int) := by omega
        have g1 : decide ((0 : Int) < (k : Int)) = true := decide_eq_true g0
        have hmX : m < X.length := by omega
        have hmX' : (m : Int) < (X.length : Int) := by omega
        have m0 : (0 : Int) ≤ (m : Int) := by omega
        obtain ⟨b, o, rfl, hb0, c0⟩ := (HXR.out.below HBL.out).at_ hmX
        have PUT := hide (fun (h : (cc : Int) ≤ ng X m) => fcN_put h)
        have END := hide (fun (h : ¬ (cc : Int) ≤ ng X m) => fcN_end h)
        obtain ⟨y, hy⟩ : ∃ y, y = ng X m := ⟨_, rfl⟩
        rw [← hy] at c0 PUT END
        clear hy hm
        by_cases hc : (cc : Int) ≤ y
        · have P := hide (PUT.out hc)
          clear PUT END
          go_wp2
          go_roundw
          case rel => exact ⟨m, by omega, by first | rfl | go_num, by rw [HE.out, HMK.out, P.out], HBL.out⟩
          case measure => simp [intOf]; omega
        · have P := hide (END.out hc)
          clear PUT END
          go_wp2
          go_ret
          exact ⟨by (rw [O2.out, HE.out, HMK.out, P.out]; first | done | rfl), bl_call HBL.out HB6.out⟩
end Go.Proofs.Ytlkfpcajpdohiaa
