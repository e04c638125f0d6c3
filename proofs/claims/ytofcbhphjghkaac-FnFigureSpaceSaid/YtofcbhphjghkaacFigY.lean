/- The exact law on PlaceFigures holds at every input: it answers as its model does, writes into no argument, and what it returns is its own. No condition. -/
import Derived.Test.YtofcbhphjghkaacFigX
import Derived.Test.YtofcbhphjghkaacFigP
namespace Go.Proofs.Ytofcbhphjghkaac
open Go.ChangeShapes Go.WideShapes Go.ChangeAt Go.RowKit
set_option linter.unusedVariables false

theorem markFigureS_l (w : World) (e : TypeId) (B : Nat) (A : Option Addr) (c : Nat) (L : List Du) (z : Int) (ha : TO w e B A c L) (hn : L.length ≤ 2000000) (z0 : 0 ≤ z) (z1 : z ≤ 1000000000) :
    Calls Try.prog 26 #[.slice A L.length c, .int .i64 z] w fun e' w' => e' = .returned (.int .i64 (z + 2 * (L.length : Int))) ∧ w.grownBy w' (Value.slice A L.length c).ownBlock := by
  rcases Nat.eq_zero_or_pos L.length with h0 | h0
  · rw [h0]
    go_enter Try.func26, Try.ntmps26
    go_wp2
    go_loop [1, 5] (fun k i => k = .int .i64 z ∧ i = .int .i64 0) (fun _ _ => 0)
    case atStart => exact ⟨rfl, rfl⟩
    case round =>
      obtain ⟨rfl, rfl⟩ := hrel
      go_wp2
      go_ret
      exact ⟨int_ret (by simp), World.grownBy.refl _ _⟩
  · obtain ⟨g, rfl, hB, hg, hfz⟩ := ha.frozen h0
    have H0 : Hid (∃ xs, w.ownsRow B e 2 (.slice (some ⟨g, 0, none⟩) L.length c) L.length xs) := hide ⟨_, ha⟩
    clear ha hfz
    go_enter Try.func26, Try.ntmps26
    go_wp2
    go_loopw [1, 5] (fun k i u => ∃ p : Nat, p ≤ L.length ∧ k = .int .i64 (z + 2 * p) ∧ i = .int .i64 p ∧ (∃ xs, u.ownsRow B e 2 (.slice (some ⟨g, 0, none⟩) L.length c) L.length xs) ∧ w.grownBy u (some g)) (fun _ i _ => L.length - (intOf i).toNat)
    case atStart => exact ⟨0, by omega, by go_num, rfl, H0.out, World.grownBy.refl _ _⟩
    case round =>
      obtain ⟨p, hp, rfl, rfl, ⟨xs, hol⟩, hgr⟩ := hrel
      by_cases hlt : p < L.length
      · obtain ⟨_, d0⟩ := own_cell (j := p * 2) hol (by omega)
        obtain ⟨_, d1⟩ := own_cell (j := p * 2 + 1) hol (by omega)
        have f0 := World.ownsRow.frozenAt hol (p * 2)
        have f1 := World.ownsRow.frozenAt hol (p * 2 + 1)
        have M := hide (fun a b => World.ownsRow.stored (World.ownsRow.stored hol (p * 2) a).1 (p * 2 + 1) b)
        have HG := hide hgr
        clear hol hgr
        go_wp2
        go_roundw
        case rel => exact ⟨p + 1, by omega, by go_num, by go_num, ⟨_, (M.out _ _).1⟩, on_set' (on_set' HG.out (.inl rfl) _) (.inl rfl) _⟩
        case measure => simp [intOf]; omega
      · go_wp2
        go_ret
        exact ⟨int_ret (by omega), hgr⟩

theorem TO_own_lt {w : World} {e : TypeId} {B : Nat} {A : Option Addr} {c : Nat} {L : List Du} (h : TO w e B A c L) : ∀ k, (Value.slice A L.length c).ownBlock = some k → B ≤ k ∧ k < w.heap.size := fun k hk => World.ownsRow.lt h k hk
theorem TO_capf {w : World} {e : TypeId} {B : Nat} {A : Option Addr} {c : Nat} {L : List Du} (h : TO w e B A c L) : L.length ≤ c := by
  rcases Nat.eq_zero_or_pos L.length with h0 | h0
  · omega
  · obtain ⟨_, _, _, _, h1, _⟩ := h.form h0
    exact h1
theorem bl_markX {w u v : World} {B j : Nat} {x : Option Nat} (h : ∀ k, x = some k → B ≤ k) (hb : Below w.heap.size w u) (hB : w.heap.size ≤ B) (hg : (u.drewN j).grownBy v x) : Below w.heap.size w v :=
  (bl_drewN hb j).grown hg hb.size (fun k hk => Nat.le_trans hB (h k hk))
theorem plV_len {F : List Du} {sp : List Int} : ((plV F sp).getD []).length ≤ 10 := by
  cases q : (fgok F && okLen sp 0 12 0 10000)
  · rw [plV_no q]; simp
  · rw [plV_yes q]
    have h1 := (fgok_iff.1 (Bool.and_eq_true_iff.1 q).1).1
    cases h : pl F 0 sp with
    | none => simp
    | some l => have := pl_len h; simp; omega
set_option maxHeartbeats 4000000 in
theorem walk_FnExactPlaceFigures (a : Option Addr) (n c : Nat) (L : List Du) (a1 : Option Addr) (n1 c1 : Nat) (zs1 : List Int) (w : World) (h : TL w a n L) (hm : n ≤ maxLen) (hr1 : IsRow .i64 w a1 n1 c1 zs1) :
    Calls Try.prog 5 #[.slice a n c, .slice a1 n1 c1] w fun e w' => e = .returned (.bool true) ∧ Below w.heap.size w w' := by
  have hx1 := IL.of_row hr1
  have hm1 := row_len hr1
  obtain ⟨s, hs⟩ : ∃ s, s = zs1.take n1 := ⟨_, rfl⟩
  rw [← hs] at hx1
  unfold maxLen at hm hm1
  have hnl : n = L.length := h.1
  have hns : n1 = s.length := hx1.1
  have HI := hide h
  have HX1 := hide hx1
  clear h hr1 hs hx1
  rcases (by omega : 1048576 < n1 ∨ n1 ≤ 1048576) with b1 | b1
  · clear hnl hns
    go_enter Try.func5, Try.ntmps5
    go_wp2
    go_ret
    exact ⟨rfl, bl_refl _⟩
  rcases (by omega : (1048576 : Int) - (n : Int) < 0 ∨ 0 ≤ (1048576 : Int) - (n : Int)) with q | q
  · clear hnl hns
    have SZ := fun (u : World) => szFigureS_l u a n c 1048576 (by omega) (by omega) (by omega)
    rw [if_pos q] at SZ
    have HSZ := hide SZ
    clear SZ
    go_enter Try.func5, Try.ntmps5
    go_wp2_with fail
    (with_reducible refine (HSZ.out _).mono ?_)
    rintro e w' ⟨rfl, rfl⟩
    go_wp2
    go_ret
    exact ⟨rfl, bl_refl _⟩
  have hn : n ≤ 1048576 := by omega
  have hll : L.length ≤ 1048576 := by omega
  have hl1 : s.length ≤ 1048576 := by omega
  have q' : ¬ ((1048576 : Int) - (n : Int) < 0) := by omega
  clear hnl hns
  have SZ := fun (u : World) => szFigureS_l u a n c 1048576 (by omega) (by omega) (by omega)
  rw [if_neg q'] at SZ
  have HSZ := hide SZ
  clear SZ
  have CS := fun (u : World) (A B : Option Addr) (d e : Nat) (h1 : TL u A L.length L) (h2 : IL u B s.length s) (h3 : B = none → e = 0) => PlaceFigures_s u A B d e L s h1 h2 h3 (by omega) (by omega)
  have CI := fun (u : World) (A B : Option Addr) (d e : Nat) (h1 : TL u A L.length L) (hc : L.length ≤ d) (h2 : IL u B s.length s) => PlaceFigures_i u A B d e L s h1 hc h2 (by omega) (by omega)
  have PL := plV_len (F := L) (sp := s)
  unfold RetO at CS CI
  obtain ⟨R, hR⟩ : ∃ R, R = (plV L s).getD [] := ⟨_, rfl⟩
  obtain ⟨t, ht⟩ : ∃ t, t = (plV L s).isSome := ⟨_, rfl⟩
  rw [← hR, ← ht] at CS CI
  rw [← hR] at PL
  have HCS := hide CS
  have HCI := hide CI
  clear CS CI hR ht
  go_enter Try.func5, Try.ntmps5
  go_wp2_with fail
  (with_reducible refine (HSZ.out _).mono ?_)
  rintro e w' ⟨rfl, rfl⟩
  go_wp2_with fail
  (with_reducible refine (toFigureS_l _ _ _ _ L HI.out hn).mono ?_)
  rintro e u1 ⟨A1, d1, rfl, ho1, hb1⟩
  go_wp2_with fail
  (with_reducible refine (toIntS_l _ _ _ _ _ (HX1.out.below hb1) b1).mono ?_)
  rintro e u2 ⟨A2, d2, rfl, ho2, hb2⟩
  have HB2 := hide (bl_call hb2 hb1)
  have ho1 := ho1.below hb2
  go_wp2_with fail
  (with_reducible refine (HCS.out _ _ _ _ _ ho1.reads ho2.reads (OL_none ho2)).mono ?_)
  rintro e u3 ⟨A3, d3, rfl, ho3, hb3⟩
  have HB3 := hide (bl_call hb3 HB2.out)
  have SZ3 := HB3.out.size
  clear ho1 ho2 hb1 hb2 hb3 HB2
  go_wp2_with fail
  (with_reducible refine (toFigureS_l _ _ _ _ L (HI.out.below HB3.out) hn).mono ?_)
  rintro e u4 ⟨A4, d4, rfl, ho4, hb4⟩
  have L34 := hide (fun k h => (ho3.own_lt k h).2)
  have L4 := hide (fun k h => (TO_own_lt ho4 k h).1)
  have L4' := hide (fun k h => (TO_own_lt ho4 k h).2)
  have ho3 := ho3.below hb4
  have HB4 := hide (bl_call hb4 HB3.out)
  have SZ4 := HB4.out.size
  have S34 := hb4.size
  clear hb4
  go_wp2_with fail
  (with_reducible refine (toIntS_l _ _ _ _ _ (HX1.out.below HB4.out) b1).mono ?_)
  rintro e u5 ⟨A5, d5, rfl, ho5, hb5⟩
  have L5 := hide (fun k h => (ho5.own_lt k h).1)
  have L5' := hide (fun k h => (ho5.own_lt k h).2)
  have ho3 := ho3.below hb5
  have ho4 := ho4.below hb5
  have HB5 := hide (bl_call hb5 HB4.out)
  have S45 := hb5.size
  clear hb5
  go_wp2_with fail
  (with_reducible refine (HCI.out _ _ _ _ _ ho4.reads (TO_capf ho4) ho5.reads).mono ?_)
  rintro e u6 ⟨A6, d6, rfl, ho6, hb6⟩
  have L6 := hide (fun k h => (ho6.own_lt k h).1)
  have ho3 := ho3.below hb6
  have ho4 := ho4.below hb6
  have ho5 := ho5.below hb6
  have HB6 := hide (bl_call hb6 HB5.out)
  clear hb6
  go_wp2_with fail
  (with_reducible refine (eqIntS_l _ _ _ _ _ _ _ R R ho6.reads ho3.reads (by omega) (by omega)).mono ?_)
  rintro e u7 ⟨rfl, j7, rfl⟩
  simp only [decide_true]
  have HB7 := hide (bl_drewN HB6.out j7)
  go_wp2_with fail
  (with_reducible refine (toFigureS_l _ _ _ _ L (HI.out.below HB7.out) hn).mono ?_)
  rintro e u8 ⟨A8, d8, rfl, ho8, hb8⟩
  have ho3 := (ho3.drewN j7).below hb8
  have ho4 := (TO.drewN ho4 j7).below hb8
  have ho5 := (ho5.drewN j7).below hb8
  have ho6 := (ho6.drewN j7).below hb8
  have HB8 := hide (bl_call hb8 HB7.out)
  clear hb8 HB7
  go_wp2_with fail
  (with_reducible refine (eqFigureS_l _ _ _ _ _ _ L ho4.reads ho8.reads hll).mono ?_)
  rintro e u9 ⟨rfl, hb9⟩
  have ho3 := ho3.below hb9
  have ho4 := ho4.below hb9
  have ho5 := ho5.below hb9
  have ho6 := ho6.below hb9
  have HB9 := hide (bl_call hb9 HB8.out)
  clear hb9 ho8 HB8
  go_wp2_with fail
  (with_reducible refine (toIntS_l _ _ _ _ _ (HX1.out.below HB9.out) b1).mono ?_)
  rintro e u10 ⟨A10, d10, rfl, ho10, hb10⟩
  have ho3 := ho3.below hb10
  have ho4 := ho4.below hb10
  have ho5 := ho5.below hb10
  have ho6 := ho6.below hb10
  have HB10 := hide (bl_call hb10 HB9.out)
  clear hb10 HB9
  go_wp2_with fail
  (with_reducible refine (eqIntS_l _ _ _ _ _ _ _ _ _ ho5.reads ho10.reads (by omega) (by omega)).mono ?_)
  rintro e u11 ⟨rfl, j11, rfl⟩
  simp only [decide_true]
  clear ho10
  go_wp2_with fail
  (with_reducible refine (markFigureS_l _ _ _ _ _ L 1 (TO.drewN ho4 j11) (by omega) (by omega) (by omega)).mono ?_)
  rintro e u12 ⟨rfl, hg12⟩
  have ho3 := (ho3.drewN j11).kept hg12 (fun k h1 h2 => by have := L34.out k h1; have := L4.out k h2; omega)
  have ho5 := (ho5.drewN j11).kept hg12 (fun k h1 h2 => by have := L5.out k h1; have := L4'.out k h2; omega)
  have ho6 := (ho6.drewN j11).kept hg12 (fun k h1 h2 => by have := L6.out k h1; have := L4'.out k h2; omega)
  have HB12 := hide (bl_markX L4.out HB10.out SZ3 hg12)
  clear ho4 hg12 HB10
  go_wp2_with fail
  (with_reducible refine (markIntS_l _ _ _ _ _ s _ ho5 (by omega) (by omega) (by omega)).mono ?_)
  rintro e u13 ⟨rfl, _, hg13⟩
  have ho3 := ho3.kept hg13 (fun k h1 h2 => by have := L34.out k h1; have := L5.out k h2; omega)
  have ho6 := ho6.kept hg13 (fun k h1 h2 => by have := L6.out k h1; have := L5'.out k h2; omega)
  have HB13 := hide (bl_markX (j := 0) L5.out HB12.out SZ4 hg13)
  have kz : decide ((1 : Int) + 2 * (L.length : Int) + (s.length : Int) < 0) = false := decide_eq_false (by omega)
  have kz' : ¬ ((1 : Int) + 2 * (L.length : Int) + (s.length : Int) < 0) := by omega
  clear ho5 hg13 HB12
  go_wp2_with fail
  (with_reducible refine (eqIntS_l _ _ _ _ _ _ _ R R ho6.reads ho3.reads (by omega) (by omega)).mono ?_)
  rintro e u14 ⟨rfl, j14, rfl⟩
  simp only [decide_true]
  go_wp2_with fail
  (with_reducible refine (markIntS_l _ _ _ _ _ R 1 (ho6.drewN j14) (by omega) (by omega) (by omega)).mono ?_)
  rintro e u15 ⟨rfl, ho15, hg15⟩
  have ho3 := (ho3.drewN j14).kept hg15 (fun k h1 h2 => by have := L34.out k h1; have := L6.out k h2; omega)
  have HB15 := hide (bl_markX L6.out HB13.out (by omega) hg15)
  have hr15 := ho15.reads
  rw [upto_len] at hr15
  have HR15 := hide hr15
  clear ho6 hg15 HB13 hr15 ho15
  go_wp2_with fail
  (with_reducible refine (heldIntS_l _ _ _ _ 1 HR15.out (by omega) (by omega) (by omega)).mono ?_)
  rintro e w' ⟨rfl, rfl⟩
  go_wp2_with fail
  (with_reducible refine (toFigureS_l _ _ _ _ L (HI.out.below HB15.out) hn).mono ?_)
  rintro e u16 ⟨A16, d16, rfl, ho16, hb16⟩
  have ho3 := ho3.below hb16
  have HR16 := hide (HR15.out.below hb16)
  have HB16 := hide (bl_call hb16 HB15.out)
  clear hb16 HB15
  go_wp2_with fail
  (with_reducible refine (toIntS_l _ _ _ _ _ (HX1.out.below HB16.out) b1).mono ?_)
  rintro e u17 ⟨A17, d17, rfl, ho17, hb17⟩
  have ho3 := ho3.below hb17
  have ho16 := ho16.below hb17
  have HR17 := hide (HR16.out.below hb17)
  have HB17 := hide (bl_call hb17 HB16.out)
  clear hb17 HB16
  go_wp2_with fail
  (with_reducible refine (HCI.out _ _ _ _ _ ho16.reads (TO_capf ho16) ho17.reads).mono ?_)
  rintro e u18 ⟨A18, d18, rfl, ho18, hb18⟩
  have ho3 := ho3.below hb18
  have HR18 := hide (HR17.out.below hb18)
  have HB18 := hide (bl_call hb18 HB17.out)
  clear hb18 HB17 ho16 ho17
  go_wp2_with fail
  (with_reducible refine (eqIntS_l _ _ _ _ _ _ _ R R ho18.reads ho3.reads (by omega) (by omega)).mono ?_)
  rintro e u19 ⟨rfl, j19, rfl⟩
  simp only [decide_true]
  go_wp2_with fail
  (with_reducible refine (heldIntS_l _ _ _ _ 1 (HR18.out.drewN j19) (by omega) (by omega) (by omega)).mono ?_)
  rintro e w' ⟨rfl, rfl⟩
  go_wp2
  go_ret
  exact ⟨rfl, bl_drewN HB18.out _⟩
set_option maxRecDepth 100000 in
theorem lifted_FnExactPlaceFigures (os : Os) (started : os.Started) (H : Type) (enc : TypeId × Value → H) :
    ReturnsInHanded {} Try.checked os 5 .any (Rows.fnExactPlaceFiguresSpec.pre6 enc Try.prog Try.f5 Rows.fnExactPlaceFiguresRow.domain false) (Rows.fnExactPlaceFiguresSpec.post enc Try.prog Try.f5 false true false false) := by
  refine returnsInHanded_of_change (C := Try.checked) own_knob started (by kernel_rfl) Try.func5
    (ChangeSpec.witness6 (enc := enc) (C := Try.checked) false ⟨#[], #[.slice none 0 0, .slice none 0 0], []⟩ 8 (by kernel_rfl) (by kernel_rfl) (by kernel_rfl) (by kernel_rfl)) ?_
  intro W base args ds gs before hval0 hW hcnd _
  have hval : ∀ (j : Nat) t v, Try.f5.params[j]? = some t → args[j]? = some v → Value.okWide Try.prog W .any base t v := hval0
  have hW' := hW
  obtain ⟨p, q, hA0, hV, rfl, hfz, hnd⟩ := hW
  have hA : DataW.TrodAll enc Try.prog W 0 (fun _ => true) true Try.f5.params.toList args.toList ds p := hA0
  rw [Try.params5] at hA hval
  obtain ⟨v0, vs0, d0, ds0, p0, q0, hargs, rfl, rfl, zh0, r0⟩ := trodAll_cons hA
  obtain ⟨v1, vs1, d1, ds1, p1, q1, rfl, rfl, rfl, zh1, r1⟩ := trodAll_cons r0
  obtain ⟨rfl, rfl, rfl⟩ := trodAll_nil r1
  obtain rfl : args = #[v0, v1] := by cases args; simp_all
  obtain ⟨rfl, rfl⟩ := trodVars_none hV
  have zk0 := zh0
  have zl0 : ∀ x ∈ p0, x.block < W.heap.size := by obtain ⟨m, hm⟩ := zk0; exact DataW.trod_lt m _ _ _ hm
  have zk1 := zh1
  have zl1 : ∀ x ∈ p1, x.block < W.heap.size := by obtain ⟨m, hm⟩ := zk1; exact DataW.trod_lt m _ _ _ hm
  clear hA0 hval0
  obtain ⟨a_x, n_x, c_x, rfl⟩ := okWide_slice Try.underlying22 (hval 0 22 v0 rfl rfl)
  obtain ⟨L_x, t_x, m_x⟩ := duos_in Try.underlying22 (by kernel_rfl) (by kernel_rfl) zh0
  obtain ⟨a_s, n_s, c_s, rfl⟩ := okWide_slice Try.underlying23 (hval 1 23 v1 rfl rfl)
  obtain ⟨s, w_s⟩ := isRow_of Try.underlying23 Try.underlying3 (by kernel_rfl) zh1
  refine (walk_FnExactPlaceFigures a_x n_x c_x L_x a_s n_s c_s s W t_x m_x w_s).mono fun e W' ⟨he, bel⟩ => ?_
  subst he
  exact ⟨_, rfl, _, _, _, [], _, [], hW', trodAll_mk1 (shut_bool Try.underlying4 _), (trodAll_cons_mk (Below.trod laid_out (by kernel_rfl) (of_decide_eq_true (by kernel_rfl)) zk0 bel zl0) (trodAll_cons_mk (Below.trod laid_out (by kernel_rfl) (of_decide_eq_true (by kernel_rfl)) zk1 bel zl1) trodAll_mk0)), rfl, bel.frame _, fun h => by cases h⟩

/-- The statement. -/
theorem FnExactPlaceFigures_holds : Rows.FnExactPlaceFiguresSaid :=
  OpenClaim.holds_of_wide 5 Try.f5 rfl rfl rfl rfl rfl rfl rfl ⟨rfl, rfl, rfl, rfl, rfl⟩ rfl rfl rfl rfl rfl (by kernel_rfl) Try.func5 (by kernel_rfl)
    (of_decide_eq_true (by kernel_rfl)) (by unfold Func.isWrapper; first | (rw [if_pos (by decide +kernel)]; kernel_rfl) | (rw [if_neg (by decide +kernel)]; exact ⟨rfl, rfl⟩))
    (fun os started H enc _ => lifted_FnExactPlaceFigures os started H enc)
end Go.Proofs.Ytofcbhphjghkaac
