/- The exact law on FitLine holds at every input: it answers as its model does and writes into no argument. No condition. -/
import Derived.Test.YtmolkppdfbldnaaJn
import Derived.Test.YtmolkppdfbldnaaFit
namespace Go.Proofs.Ytmolkppdfbldnaa
open Go.ChangeShapes Go.WideShapes Go.ChangeAt Go.RowKit
set_option linter.unusedVariables false

/-- What FitLine answers. -/
noncomputable def ftO (L : List It) (a b d : Int) : Int × Int := if isOk L then ftL L a b d else (0, -1)
theorem ftO_no {L : List It} {a b d : Int} (h : isOk L = false) : ftO L a b d = (0, -1) := by simp [ftO, h]
theorem ftO_yes {L : List It} {a b d : Int} (h : isOk L = true) : ftO L a b d = ftL L a b d := by simp [ftO, h]
theorem ftO_non {L : List It} {a b d : Int} (h : (okL L a b && inB d 1 10000) = false) : ftO L a b d = (0, -1) := by
  cases q : isOk L
  · exact ftO_no q
  · rw [ftO_yes q]
    exact ftL_no (by simpa [okL, q] using h)
set_option maxRecDepth 8000 in
set_option maxHeartbeats 4000000 in
theorem FitLine_i (w : World) (A : Option Addr) (n c : Nat) (L : List It) (h : TL w A n L) (hn : n ≤ 1048576) (a b d : Int) (wa : -9223372036854775808 ≤ a ∧ a ≤ 9223372036854775807) (wb : -9223372036854775808 ≤ b ∧ b ≤ 9223372036854775807) :
    Calls Try.prog 34 #[.slice A n c, .int .i64 a, .int .i64 b, .int .i64 d] w fun e w' => e = .returned (.tuple #[.int .i64 (ftO L a b d).1, .int .i64 (ftO L a b d).2]) ∧ Below w.heap.size w w' := by
  have ME := hide (measure_i w A n c L h (by omega))
  obtain rfl : n = L.length := h.1
  clear h
  cases hok : isOk L
  · have E := hide (ftO_no (L := L) (a := a) (b := b) (d := d) hok)
    rw [hok] at ME
    clear hok wa wb
    go_enter Try.func34, Try.ntmps34
    go_wp2_with fail
    (with_reducible refine ME.out.mono ?_)
    rintro e u1 ⟨v, rfl, hv, hv0, hb⟩
    obtain rfl := hv0 (by trivial)
    have HB1 := hide hb
    clear hv hv0 hb
    go_wp2
    go_ret2
    exact ⟨by rw [E.out]; rfl, bl_alloc HB1.out _⟩
  · have HK := isOk_iff.1 hok
    have HALL := hide HK.1
    have hl60 := HK.2.1
    rw [hok] at ME
    rw [ftO_yes hok]
    clear HK hok
    go_enter Try.func34, Try.ntmps34
    go_wp2_with fail
    (with_reducible refine ME.out.mono ?_)
    rintro e u1 ⟨v, rfl, hv, hv0, hb⟩
    obtain ⟨g, c1, gs, gf, gb, rfl, hrow, hpr⟩ := hv (by trivial)
    have HPS := hide (ps_made hrow hpr)
    have HB1 := hide (bl_alloc hb (.cells #[.slice (some ⟨g, 0, none⟩) L.length c1, .slice (some ⟨gs, 0, none⟩) (L.length + 1) (L.length + 1), .slice (some ⟨gf, 0, none⟩) (L.length + 1) (L.length + 1), .slice (some ⟨gb, 0, none⟩) (L.length + 1) (L.length + 1)] 74))
    have HF := hide (fit_i _ L HPS.out HALL.out hl60 a b d wa wb)
    clear hv hv0 hb hrow hpr wa wb
    have k0 := HPS.out.k0
    have k1 := HPS.out.k1
    have k2 := HPS.out.k2
    have k3 := HPS.out.k3
    go_wp2_with fail
    (with_reducible refine HF.out.mono ?_)
    rintro e u2 ⟨rfl, hb⟩
    have HB2 := hide (bl_call hb HB1.out)
    clear hb k0 k1 k2 k3
    go_wp2
    go_ret2
    exact ⟨rfl, HB2.out⟩
set_option maxHeartbeats 4000000 in
theorem FitLine_s (w : World) (A : Option Addr) (n c : Nat) (L : List It) (h : TL w A n L) (hn : n ≤ 1048576) (a b d : Int) (wa : -9223372036854775808 ≤ a ∧ a ≤ 9223372036854775807) (wb : -9223372036854775808 ≤ b ∧ b ≤ 9223372036854775807) :
    Calls Try.prog 33 #[.slice A n c, .int .i64 a, .int .i64 b, .int .i64 d] w fun e w' => e = .returned (.tuple #[.int .i64 (ftO L a b d).1, .int .i64 (ftO L a b d).2]) ∧ Below w.heap.size w w' := by
  have VL := hide (validLine_s w A n c L h hn a b wa wb)
  obtain rfl : n = L.length := h.1
  have HI := hide h
  clear h wa wb
  cases hol : okL L a b
  · have E := hide (ftO_non (L := L) (a := a) (b := b) (d := d) (by simp [hol]))
    rw [hol] at VL
    clear hol
    go_enter Try.func33, Try.ntmps33
    go_wp2_with fail
    (with_reducible refine VL.out.mono ?_)
    rintro e u1 ⟨rfl, hb⟩
    have HB1 := hide hb
    clear hb
    go_wp2
    go_ret2
    exact ⟨by rw [E.out]; rfl, HB1.out⟩
  cases q1 : inB d 1 10000
  · have E := hide (ftO_non (L := L) (a := a) (b := b) (d := d) (by simp [q1]))
    rw [hol] at VL
    clear hol
    go_enter Try.func33, Try.ntmps33
    go_wp2_with fail
    (with_reducible refine VL.out.mono ?_)
    rintro e u1 ⟨rfl, hb⟩
    have HB1 := hide hb
    clear hb
    go_wp2_with (go_at_call 69; refine (validWidth_ss _ _).mono ?_; rintro e w' ⟨rfl, rfl⟩)
    go_ret2
    exact ⟨by rw [E.out]; rfl, HB1.out⟩
  · rw [hol] at VL
    have hh := hol
    simp only [okL, Bool.and_eq_true] at hh
    have E := ftL_yes (L := L) (a := a) (b := b) (d := d) (by simp [hh.2, q1])
    obtain ⟨p, q, hp, rfl, hpq, hq, _, _, hnf⟩ := hasL_of hh.2
    have OK := isOk_iff.1 hh.1
    rw [ftO_yes hh.1]
    obtain ⟨e1, e2, e3⟩ := lg_eqs (L := L) (q := q) hp
    obtain ⟨b1, b2, b3⟩ := lg_bd (p := p) OK.1 hq (min (fBx L p) q) (Nat.min_le_right _ _)
    rw [e1, e2, e3] at E
    have LG := fun (u : World) (hu : TL u A L.length L) => lineGlue_s u A c L hu OK.1 OK.2.1.2 a p q hp hpq hq
    rw [stS_min hpq (by omega) hnf] at LG
    obtain ⟨z0, hz0⟩ : ∃ z, z = sW L q - sW L (min (fBx L p) q) + atW (tg L q) := ⟨_, rfl⟩
    obtain ⟨z1, hz1⟩ : ∃ z, z = sT L q - sT L (min (fBx L p) q) := ⟨_, rfl⟩
    obtain ⟨z2, hz2⟩ : ∃ z, z = sS L q - sS L (min (fBx L p) q) := ⟨_, rfl⟩
    rw [← hz0, ← hz1, ← hz2] at E LG
    rw [← hz0] at b1
    rw [← hz1] at b2
    rw [← hz2] at b3
    have HLG := hide LG
    have i1 := cl_in b1
    have i2 := cl_in b2
    have i3 := cl_in b3
    have hd := inB_iff.1 q1
    have FG := fun (u : World) => fitGlue_s (cl z0) (cl z1) (cl z2) d u ⟨by omega, i1.2⟩ i2 i3 ⟨by omega, hd.2⟩
    rw [← E] at FG
    have HFG := hide FG
    clear hol hh OK hnf E e1 e2 e3 LG hz0 hz1 hz2 hp FG hd i1 i2 i3
    go_enter Try.func33, Try.ntmps33
    go_wp2_with fail
    (with_reducible refine VL.out.mono ?_)
    rintro e u1 ⟨rfl, hb⟩
    have HB1 := hide hb
    have HI1 := hide (HI.out.below hb)
    clear hb
    go_wp2_with (go_at_call 69; refine (validWidth_ss _ _).mono ?_; rintro e w' ⟨rfl, rfl⟩)
    (with_reducible refine (HLG.out _ HI1.out).mono ?_)
    rintro e u2 ⟨rfl, hb⟩
    have HB2 := hide (bl_call hb HB1.out)
    clear hb
    go_wp2_with fail
    (with_reducible refine (clampGlue_s z0 z1 z2 _).mono ?_)
    rintro e u3 ⟨rfl, hb⟩
    have HB3 := hide (bl_call hb HB2.out)
    clear hb
    go_wp2_with fail
    (with_reducible refine (HFG.out _).mono ?_)
    rintro e u4 ⟨rfl, hb⟩
    have HB4 := hide (bl_call hb HB3.out)
    clear hb
    go_wp2
    go_ret2
    exact ⟨rfl, HB4.out⟩
set_option maxHeartbeats 2000000 in
theorem walk_FnExactFitLine (a : Option Addr) (n c : Nat) (L : List It) (a0 b0 d0 : Int) (w : World) (h : TL w a n L) (hm : n ≤ maxLen) (wa : (Lit.int .i64 a0).wf = true) (wb : (Lit.int .i64 b0).wf = true) (wd : (Lit.int .i64 d0).wf = true) :
    Calls Try.prog 6 #[.slice a n c, .int .i64 a0, .int .i64 b0, .int .i64 d0] w fun e w' => e = .returned (.bool true) ∧ Below w.heap.size w w' := by
  have wa' := wf_bd wa
  have wb' := wf_bd wb
  clear wa wb wd
  unfold maxLen at hm
  have hnl : n = L.length := h.1
  have HI := hide h
  clear h
  rcases (by omega : (1048576 : Int) - (n : Int) < 0 ∨ 0 ≤ (1048576 : Int) - (n : Int)) with q | q
  · clear hnl wa' wb'
    have SZ := fun (u : World) => szItemS_l u a n c 1048576 (by omega) (by omega) (by omega)
    rw [if_pos q] at SZ
    have HSZ := hide SZ
    clear SZ
    go_enter Try.func6, Try.ntmps6
    go_wp2_with fail
    (with_reducible refine (HSZ.out _).mono ?_)
    rintro e w' ⟨rfl, rfl⟩
    go_wp2
    go_ret
    exact ⟨rfl, bl_refl _⟩
  have hn : n ≤ 1048576 := by omega
  have hll : L.length ≤ 1048576 := by omega
  have q' : ¬ ((1048576 : Int) - (n : Int) < 0) := by omega
  clear hnl
  have SZ := fun (u : World) => szItemS_l u a n c 1048576 (by omega) (by omega) (by omega)
  rw [if_neg q'] at SZ
  have HSZ := hide SZ
  clear SZ
  have CS := fun (u : World) (A : Option Addr) (d : Nat) (h : TL u A L.length L) => FitLine_s u A L.length d L h (by omega) a0 b0 d0 wa' wb'
  have CI := fun (u : World) (A : Option Addr) (d : Nat) (h : TL u A L.length L) => FitLine_i u A L.length d L h (by omega) a0 b0 d0 wa' wb'
  obtain ⟨x, hx⟩ : ∃ x, x = (ftO L a0 b0 d0).1 := ⟨_, rfl⟩
  obtain ⟨y, hy⟩ : ∃ y, y = (ftO L a0 b0 d0).2 := ⟨_, rfl⟩
  rw [← hx, ← hy] at CS CI
  have HCS := hide CS
  have HCI := hide CI
  clear CS CI hx hy wa' wb'
  go_enter Try.func6, Try.ntmps6
  go_wp2_with fail
  (with_reducible refine (HSZ.out _).mono ?_)
  rintro e w' ⟨rfl, rfl⟩
  go_wp2_with fail
  (with_reducible refine (toItemS_l _ _ _ _ L HI.out hn).mono ?_)
  rintro e u1 ⟨A1, c1, rfl, ho1, hb1⟩
  go_wp2_with fail
  (with_reducible refine (HCS.out _ _ _ ho1.reads).mono ?_)
  rintro e u2 ⟨rfl, hb2⟩
  have HB2 := hide (bl_call hb2 hb1)
  clear ho1 hb1 hb2
  go_wp2_with fail
  (with_reducible refine (toItemS_l _ _ _ _ L (HI.out.below HB2.out) hn).mono ?_)
  rintro e u3 ⟨A3, c3, rfl, ho3, hb3⟩
  have HB3 := hide (bl_call hb3 HB2.out)
  clear hb3
  go_wp2_with fail
  (with_reducible refine (HCI.out _ _ _ ho3.reads).mono ?_)
  rintro e u4 ⟨rfl, hb4⟩
  have HB4 := hide (bl_call hb4 HB3.out)
  have ho3 := ho3.below hb4
  clear hb4
  go_wp2_with fail
  (with_reducible refine (toItemS_l _ _ _ _ L (HI.out.below HB4.out) hn).mono ?_)
  rintro e u6 ⟨A6, c6, rfl, ho6, hb6⟩
  have ho3 := ho3.below hb6
  go_wp2_with fail
  (with_reducible refine (eqItemS_l _ _ _ _ _ _ L ho3.reads ho6.reads hll).mono ?_)
  rintro e u7 ⟨rfl, hb7⟩
  go_wp2
  go_ret
  exact ⟨rfl, bl_call hb7 (bl_call hb6 HB4.out)⟩
set_option maxRecDepth 100000 in
theorem lifted_FnExactFitLine (os : Os) (started : os.Started) (H : Type) (enc : TypeId × Value → H) :
    ReturnsInHanded {} Try.checked os 6 .any (Rows.fnExactFitLineSpec.pre6 enc Try.prog Try.f6 Rows.fnExactFitLineRow.domain false) (Rows.fnExactFitLineSpec.post enc Try.prog Try.f6 false true false false) := by
  refine returnsInHanded_of_change (C := Try.checked) own_knob started (by kernel_rfl) Try.func6
    (ChangeSpec.witness6 (enc := enc) (C := Try.checked) false ⟨#[], #[.slice none 0 0, .int .i64 0, .int .i64 0, .int .i64 0], []⟩ 8 (by kernel_rfl) (by kernel_rfl) (by kernel_rfl) (by kernel_rfl)) ?_
  intro W base args ds gs before hval0 hW hcnd _
  have hval : ∀ (j : Nat) t v, Try.f6.params[j]? = some t → args[j]? = some v → Value.okWide Try.prog W .any base t v := hval0
  have hW' := hW
  obtain ⟨p, q, hA0, hV, rfl, hfz, hnd⟩ := hW
  have hA : DataW.TrodAll enc Try.prog W 0 (fun _ => true) true Try.f6.params.toList args.toList ds p := hA0
  rw [Try.params6] at hA hval
  obtain ⟨v0, vs0, d0, ds0, p0, q0, hargs, rfl, rfl, zh0, r0⟩ := trodAll_cons hA
  obtain ⟨v1, vs1, d1, ds1, p1, q1, rfl, rfl, rfl, zh1, r1⟩ := trodAll_cons r0
  obtain ⟨v2, vs2, d2, ds2, p2, q2, rfl, rfl, rfl, zh2, r2⟩ := trodAll_cons r1
  obtain ⟨v3, vs3, d3, ds3, p3, q3, rfl, rfl, rfl, zh3, r3⟩ := trodAll_cons r2
  obtain ⟨rfl, rfl, rfl⟩ := trodAll_nil r3
  obtain rfl : args = #[v0, v1, v2, v3] := by cases args; simp_all
  obtain ⟨rfl, rfl⟩ := trodVars_none hV
  have zk0 := zh0
  have zl0 : ∀ x ∈ p0, x.block < W.heap.size := by obtain ⟨m, hm⟩ := zk0; exact DataW.trod_lt m _ _ _ hm
  have zk1 := zh1
  have zl1 : ∀ x ∈ p1, x.block < W.heap.size := by obtain ⟨m, hm⟩ := zk1; exact DataW.trod_lt m _ _ _ hm
  have zk2 := zh2
  have zl2 : ∀ x ∈ p2, x.block < W.heap.size := by obtain ⟨m, hm⟩ := zk2; exact DataW.trod_lt m _ _ _ hm
  have zk3 := zh3
  have zl3 : ∀ x ∈ p3, x.block < W.heap.size := by obtain ⟨m, hm⟩ := zk3; exact DataW.trod_lt m _ _ _ hm
  clear hA0 hval0
  obtain ⟨a_a, n_a, c_a, rfl⟩ := okWide_slice Try.underlying22 (hval 0 22 v0 rfl rfl)
  obtain ⟨L_a, t_a, m_a, _⟩ := items_in Try.underlying22 (by kernel_rfl) (by kernel_rfl) zh0
  obtain ⟨x, rfl, rfl, rfl, w_x⟩ := open_int Try.underlying3 (hval 1 3 v1 rfl rfl) zh1
  obtain ⟨y, rfl, rfl, rfl, w_y⟩ := open_int Try.underlying3 (hval 2 3 v2 rfl rfl) zh2
  obtain ⟨z, rfl, rfl, rfl, w_z⟩ := open_int Try.underlying3 (hval 3 3 v3 rfl rfl) zh3
  refine (walk_FnExactFitLine a_a n_a c_a L_a x y z W t_a m_a w_x w_y w_z).mono fun e W' ⟨he, bel⟩ => ?_
  subst he
  exact ⟨_, rfl, _, _, _, [], _, [], hW', trodAll_mk1 (shut_bool Try.underlying4 _), (trodAll_cons_mk (Below.trod laid_out (by kernel_rfl) (of_decide_eq_true (by kernel_rfl)) zk0 bel zl0) (trodAll_cons_mk (Below.trod laid_out (by kernel_rfl) (of_decide_eq_true (by kernel_rfl)) zk1 bel zl1) (trodAll_cons_mk (Below.trod laid_out (by kernel_rfl) (of_decide_eq_true (by kernel_rfl)) zk2 bel zl2) (trodAll_cons_mk (Below.trod laid_out (by kernel_rfl) (of_decide_eq_true (by kernel_rfl)) zk3 bel zl3) trodAll_mk0)))), rfl, bel.frame _, fun h => by cases h⟩

/-- The statement. -/
theorem FnExactFitLine_holds : Rows.FnExactFitLineSaid :=
  OpenClaim.holds_of_wide 6 Try.f6 rfl rfl rfl rfl rfl rfl rfl ⟨rfl, rfl, rfl, rfl, rfl⟩ rfl rfl rfl rfl rfl (by kernel_rfl) Try.func6 (by unfold joinedFacts; rw [may_enter, lifts_final, make_cut]; kernel_rfl)
    (of_decide_eq_true (by kernel_rfl)) (by unfold Func.isWrapper; first | (rw [if_pos (by decide +kernel)]; kernel_rfl) | (rw [if_neg (by decide +kernel)]; exact ⟨rfl, rfl⟩))
    (fun os started H enc _ => lifted_FnExactFitLine os started H enc)
end Go.Proofs.Ytmolkppdfbldnaa
