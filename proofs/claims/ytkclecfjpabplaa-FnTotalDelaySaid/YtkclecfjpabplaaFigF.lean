/- The promise on delays of figures holds for every code: a delay is the sum of the pages minus the sum of Page, and least where each figure is placed as early as can be. No condition. -/
import Derived.Test.YtkclecfjpabplaaJn
import Derived.Test.YtkclecfjpabplaaFigE
namespace Go.Proofs.Ytkclecfjpabplaa
open Go.ChangeShapes Go.WideShapes Go.ChangeAt Go.RowKit
set_option linter.unusedVariables false
set_option maxRecDepth 4000

set_option maxHeartbeats 4000000 in
theorem walk_FnTotalDelay (a : Option Addr) (n c : Nat) (zs : List Int) (w : World) (hr : IsRow .u8 w a n c zs) :
    Calls Try.prog 8 #[.slice a n c] w fun e w' => e = .returned (.bool true) ∧ Below w.heap.size w w' := by
  have hm := small_row hr
  unfold maxLen at hm
  rcases (by omega : 1048576 < n ∨ n ≤ 1048576) with hn | hn
  · go_enter Try.func8, Try.ntmps8
    go_wp2
    go_ret
    exact ⟨rfl, bl_refl _⟩
  go_enter Try.func8, Try.ntmps8
  go_wp2_with fail
  (with_reducible refine (DrawTotalDelay_any _ _ _ _ _ hr).mono ?_)
  rintro e u0 ⟨A, c', L, B, d, l, C, k, P, rfl, hto, hol, hop, hll, hls, hlp, hb⟩
  clear hr
  have CI := fun (u : World) (h1 : TL u A L.length L) (h2 : IL u B l.length l) (h3 : IL u C P.length P) => TotalDelay_i u A B C c' d k L l P h1 h2 h3 (by omega) (by omega) (by omega)
  have CS := fun (u : World) (h1 : TL u A L.length L) (h2 : IL u B l.length l) (h3 : IL u C P.length P) => TotalDelay_s u A B C c' d k L l P h1 h2 (OL_none hol) h3 (by omega) (by omega) (by omega)
  have PI := fun (u : World) (h1 : TL u A L.length L) (h2 : IL u B l.length l) => PlaceFigures_i u A B c' d L l h1 (TO_capf hto) h2 (by omega) (by omega)
  have TI := fun (u : World) (R : Option Addr) (j : Nat) (r : List Int) (h1 : TL u A L.length L) (h2 : IL u B l.length l) (h3 : IL u R r.length r) (hr : r.length ≤ 5) => TotalDelay_i u A B R c' d j L l r h1 h2 h3 (by omega) (by omega) (by omega)
  have HT := hide hto
  have HO := hide hol
  have HP := hide hop
  have HB := hide hb
  clear hto hol hop hb
  cases q : ckV L l P
  · have e0 := tdV_no q
    rw [e0] at CI CS
    have HCI := hide CI
    have HCS := hide CS
    clear CI CS PI TI q e0
    go_wp2_with fail
    (with_reducible refine (HCI.out _ HT.out.reads HO.out.reads HP.out.reads).mono ?_)
    rintro e u1 ⟨rfl, hb1⟩
    have HT1 := hide (HT.out.below hb1)
    have HO1 := hide (HO.out.below hb1)
    have HP1 := hide (HP.out.below hb1)
    have HB1 := hide (bl_call hb1 HB.out)
    clear hb1
    go_wp2_with fail
    (with_reducible refine (HCS.out _ HT1.out.reads HO1.out.reads HP1.out.reads).mono ?_)
    rintro e u2 ⟨rfl, hb2⟩
    have HT2 := hide (HT1.out.below hb2)
    have HO2 := hide (HO1.out.below hb2)
    have HP2 := hide (HP1.out.below hb2)
    have HB2 := hide (bl_call hb2 HB1.out)
    clear hb2
    go_wp2_with fail
    (with_reducible refine (HCS.out _ HT2.out.reads HO2.out.reads HP2.out.reads).mono ?_)
    rintro e u3 ⟨rfl, hb3⟩
    have HB3 := hide (bl_call hb3 HB2.out)
    clear hb3
    go_wp2
    go_ret
    exact ⟨rfl, HB3.out⟩
  · obtain ⟨s1, s2, s3, s4⟩ := ckV_yes.1 q
    obtain ⟨r, p1, p2, p3⟩ := plV_first s1 s2 rfl (fun j _ => Int.le_refl _) s4
    have v0 := tdV_yes q
    have v1 := tdV_yes (plV_ok p1).1
    have v2 := dl_le (F := L) p3
    have v3 := dl_bd2 s4 (fun i hi => ((fgok_iff.1 s1).2 i hi).2.1.1) (by have := (okLen_iff.1 s2).1.2; omega)
    have v4 := dl_pgs (F := L) (l := P) L.length
    have pb := fun (p : Nat) (hp : p ≤ L.length) => pgs_bd (F := L) (k := p) (fun i hi => ((fgok_iff.1 s1).2 i (by omega)).2.1)
    have lb : ∀ j, j < P.length → 0 ≤ ng P j ∧ ng P j ≤ 11 := fun j hj => by
      have a := (s4 j (by omega)).1
      have b := ((fgok_iff.1 s1).2 j (by omega)).2.1.1
      have c := (okLen_iff.1 s2).1.2
      omega
    have SL := hide (fun (u : World) (h : IL u C P.length P) => sum_l u C P.length k P h (by omega) (fun j hj => by have := lb j hj; omega))
    have sb := pfx_bd lb (Nat.le_refl _)
    have e1 : pfx P L.length = sl P := by rw [← s3, pfx_all]
    have e2 : pfx P P.length = sl P := pfx_all P
    rw [e2] at sb
    have hrl : r.length ≤ 5 := by omega
    have TR := fun (u : World) (R : Option Addr) (j : Nat) (h1 : TL u A L.length L) (h2 : IL u B l.length l) (h3 : IL u R r.length r) => TI u R j r h1 h2 h3 hrl
    rw [v1] at TR
    rw [v0] at CI CS
    obtain ⟨N, hN⟩ : ∃ N, N = dl L P L.length := ⟨_, rfl⟩
    obtain ⟨M, hM⟩ : ∃ M, M = dl L r L.length := ⟨_, rfl⟩
    obtain ⟨S, hS⟩ : ∃ S, S = sl P := ⟨_, rfl⟩
    rw [← hN] at CI CS v2 v3 v4
    rw [← hM] at TR v2
    rw [← hS] at SL sb e1
    rw [e1] at v4
    rw [p1] at PI
    unfold RetO at PI
    simp only [Option.getD_some, Option.isSome_some] at PI
    have HCI := hide CI
    have HCS := hide CS
    have HPI := hide PI
    have HTR := hide TR
    have FI := hide (fun (p : Nat) (hp : p < L.length) => ((fgok_iff.1 s1).2 p hp).2.1)
    have PB := hide pb
    have V4 := hide v4
    clear CI CS PI TI TR q p1 p2 p3 s1 s2 s3 s4 v0 v1 v4 pb lb e1 e2 hN hM hS
    go_wp2_with fail
    (with_reducible refine (HCI.out _ HT.out.reads HO.out.reads HP.out.reads).mono ?_)
    rintro e u1 ⟨rfl, hb1⟩
    have HT1 := hide (HT.out.below hb1)
    have HO1 := hide (HO.out.below hb1)
    have HP1 := hide (HP.out.below hb1)
    have HB1 := hide (bl_call hb1 HB.out)
    clear hb1
    go_wp2_with fail
    (with_reducible refine (HCS.out _ HT1.out.reads HO1.out.reads HP1.out.reads).mono ?_)
    rintro e u2 ⟨rfl, hb2⟩
    have HT2 := hide (HT1.out.below hb2)
    have HO2 := hide (HO1.out.below hb2)
    have HP2 := hide (HP1.out.below hb2)
    have HB2 := hide (bl_call hb2 HB1.out)
    clear hb2 HT1 HO1 HP1 HT HO HP
    go_wp2_with fail
    (with_reducible refine (SL.out _ HP2.out.reads).mono ?_)
    rintro e w' ⟨rfl, rfl⟩
    go_wp2
    go_loop [7, 8] (fun v i => ∃ p : Nat, p ≤ L.length ∧ v = .int .i64 (S - pgs L p) ∧ i = .int .i64 p) (fun _ i => L.length - (intOf i).toNat)
    case atStart => exact ⟨0, by omega, by simp [pgs], rfl⟩
    case round =>
      obtain ⟨p, hp, rfl, rfl⟩ := hrel
      have pb := PB.out p hp
      obtain ⟨y, hy⟩ : ∃ y, y = pgs L p := ⟨_, rfl⟩
      rw [← hy] at pb ⊢
      have HY := hide hy
      clear hy
      by_cases hlt : p < L.length
      · obtain ⟨b, o, rfl, _, _, c1⟩ := HT2.out.reads.at2 hlt
        have fi := FI.out p hlt
        obtain ⟨x, hx⟩ : ∃ x, x = (tg L p).b := ⟨_, rfl⟩
        have NX := hide (show pgs L (p + 1) = y + x by rw [HY.out, hx]; rfl)
        rw [← hx] at c1 fi
        clear hx
        go_wp2
        go_round
        case rel => exact ⟨p + 1, by omega, by rw [NX.out]; go_num, by go_num⟩
        case measure => simp [intOf]; omega
      · obtain rfl : p = L.length := by omega
        have e5 : S - y = N := by have := V4.out; have := HY.out; omega
        have g5 : (S - y == N) = true := by simp [e5]
        rw [e5]
        clear g5 e5 HY
        go_wp2_with fail
        (with_reducible refine (HPI.out _ HT2.out.reads HO2.out.reads).mono ?_)
        rintro e u5 ⟨A5, d5, rfl, ho5, hb5⟩
        have HB5 := hide (bl_call hb5 HB2.out)
        have HT5 := hide (HT2.out.below hb5)
        have HO5 := hide (HO2.out.below hb5)
        clear hb5
        go_wp2_with fail
        (with_reducible refine (HTR.out _ _ _ HT5.out.reads HO5.out.reads ho5.reads).mono ?_)
        rintro e u6 ⟨rfl, hb6⟩
        have HB6 := hide (bl_call hb6 HB5.out)
        have d0 : decide (M ≤ N) = true := decide_eq_true v2
        go_wp2
        go_ret
        exact ⟨rfl, HB6.out⟩
set_option maxRecDepth 100000 in
theorem lifted_FnTotalDelay (os : Os) (started : os.Started) (H : Type) (enc : TypeId × Value → H) :
    ReturnsInHanded {} Try.checked os 8 .any (Rows.fnTotalDelaySpec.pre6 enc Try.prog Try.f8 Rows.fnTotalDelayRow.domain false) (Rows.fnTotalDelaySpec.post enc Try.prog Try.f8 false true false false) := by
  refine returnsInHanded_of_change (C := Try.checked) own_knob started (by kernel_rfl) Try.func8
    (ChangeSpec.witness6 (enc := enc) (C := Try.checked) false ⟨#[], #[.slice none 0 0], []⟩ 8 (by kernel_rfl) (by kernel_rfl) (by kernel_rfl) (by kernel_rfl)) ?_
  intro W base args ds gs before hval0 hW hcnd _
  have hval : ∀ (j : Nat) t v, Try.f8.params[j]? = some t → args[j]? = some v → Value.okWide Try.prog W .any base t v := hval0
  have hW' := hW
  obtain ⟨p, q, hA0, hV, rfl, hfz, hnd⟩ := hW
  have hA : DataW.TrodAll enc Try.prog W 0 (fun _ => true) true Try.f8.params.toList args.toList ds p := hA0
  rw [Try.params8] at hA hval
  obtain ⟨v0, vs0, d0, ds0, p0, q0, hargs, rfl, rfl, zh0, r0⟩ := trodAll_cons hA
  obtain ⟨rfl, rfl, rfl⟩ := trodAll_nil r0
  obtain rfl : args = #[v0] := by cases args; simp_all
  obtain ⟨rfl, rfl⟩ := trodVars_none hV
  have zk0 := zh0
  have zl0 : ∀ x ∈ p0, x.block < W.heap.size := by obtain ⟨m, hm⟩ := zk0; exact DataW.trod_lt m _ _ _ hm
  clear hA0 hval0
  obtain ⟨a_code, n_code, c_code, rfl⟩ := okWide_slice Try.underlying27 (hval 0 27 v0 rfl rfl)
  obtain ⟨code, w_code⟩ := isRow_of Try.underlying27 Try.underlying5 (by kernel_rfl) zh0
  refine (walk_FnTotalDelay a_code n_code c_code code W w_code).mono fun e W' ⟨he, bel⟩ => ?_
  subst he
  exact ⟨_, rfl, _, _, _, [], _, [], hW', trodAll_mk1 (shut_bool Try.underlying4 _), (trodAll_cons_mk (Below.trod laid_out (by kernel_rfl) (of_decide_eq_true (by kernel_rfl)) zk0 bel zl0) trodAll_mk0), rfl, bel.frame _, fun h => by cases h⟩

/-- The statement. -/
theorem FnTotalDelay_holds : Rows.FnTotalDelaySaid :=
  OpenClaim.holds_of_wide 8 Try.f8 rfl rfl rfl rfl rfl rfl rfl ⟨rfl, rfl, rfl, rfl, rfl⟩ rfl rfl rfl rfl rfl (by kernel_rfl) Try.func8 (by unfold joinedFacts; rw [may_enter, lifts_final, make_cut]; kernel_rfl)
    (of_decide_eq_true (by kernel_rfl)) (by unfold Func.isWrapper; first | (rw [if_pos (by decide +kernel)]; kernel_rfl) | (rw [if_neg (by decide +kernel)]; exact ⟨rfl, rfl⟩))
    (fun os started H enc _ => lifted_FnTotalDelay os started H enc)
end Go.Proofs.Ytkclecfjpabplaa
