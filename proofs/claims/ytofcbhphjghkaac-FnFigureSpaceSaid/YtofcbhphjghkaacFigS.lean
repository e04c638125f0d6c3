/- The promise on more room for figures holds for every code: nothing is placed later. No condition. -/
import Derived.Test.YtofcbhphjghkaacFigZ
namespace Go.Proofs.Ytofcbhphjghkaac
open Go.ChangeShapes Go.WideShapes Go.ChangeAt Go.RowKit
set_option linter.unusedVariables false
set_option maxRecDepth 4000
/-- More room. -/
def wid (l : List Int) (t : Int) : List Int := l.map fun z => min (z + 1 + t) 10000
theorem wid_len (l : List Int) (t : Int) : (wid l t).length = l.length := by simp [wid]
theorem wid_get {l : List Int} {t : Int} {i : Nat} (h : i < l.length) : ng (wid l t) i = min (ng l i + 1 + t) 10000 := by simp [ng, wid, List.getD, h]
theorem wid_ok {l : List Int} {t : Int} (t0 : 0 ≤ t) (h : okLen l 0 12 0 10000 = true) : okLen (wid l t) 0 12 0 10000 = true := by
  rw [okLen_iff] at h ⊢
  rw [wid_len]
  refine ⟨h.1, fun j hj => ?_⟩
  have := h.2 j hj
  rw [wid_get hj]
  omega
set_option maxHeartbeats 4000000 in
theorem walk_FnFigureSpace (a : Option Addr) (n c : Nat) (zs : List Int) (a2 : Option Addr) (n2 c2 : Nat) (zs2 : List Int) (w : World) (hr : IsRow .u8 w a n c zs) (hr2 : IsRow .u8 w a2 n2 c2 zs2) :
    Calls Try.prog 9 #[.slice a n c, .slice a2 n2 c2] w fun e w' => e = .returned (.bool true) ∧ Below w.heap.size w w' := by
  have hm := small_row hr
  have hm2 := small_row hr2
  unfold maxLen at hm hm2
  rcases (by omega : 1048576 < n ∨ n ≤ 1048576 ∧ 1048576 < n2 ∨ n ≤ 1048576 ∧ n2 ≤ 1048576) with hn | ⟨hn, hn2⟩ | ⟨hn, hn2⟩
  · go_enter Try.func9, Try.ntmps9
    go_wp2
    go_ret
    exact ⟨rfl, bl_refl _⟩
  · go_enter Try.func9, Try.ntmps9
    go_wp2
    go_ret
    exact ⟨rfl, bl_refl _⟩
  obtain ⟨i0, hi0, jz0, jz1, jz2⟩ := info_parts int_info
  go_enter Try.func9, Try.ntmps9
  (go_wp2_with fail; (with_reducible refine (DrawPlaceFigures_any _ _ _ _ _ hr).mono ?_); rintro e u0 ⟨A, c', L, B, d, l, rfl, hto, hol, hll, hls, hel, hb⟩)
  clear hr hr2 hel
  have CI := fun (u : World) (h1 : TL u A L.length L) (h2 : IL u B l.length l) => PlaceFigures_i u A B c' d L l h1 (TO_capf hto) h2 (by omega) (by omega)
  have CS := fun (u : World) (h1 : TL u A L.length L) (h2 : IL u B l.length l) => PlaceFigures_s u A B c' d L l h1 h2 (OL_none hol) (by omega) (by omega)
  have HT := hide hto
  have HO := hide hol
  have HB := hide hb
  clear hto hol hb
  cases q : plV L l with
  | none =>
    rw [q] at CI CS
    unfold RetO at CI CS
    simp only [Option.getD_none, Option.isSome_none] at CI CS
    have HCI := hide CI
    have HCS := hide CS
    clear CI CS q
    go_wp2_with fail
    (with_reducible refine (HCI.out _ HT.out.reads HO.out.reads).mono ?_)
    rintro e u1 ⟨A1, d1, rfl, ho1, hb1⟩
    have HT1 := hide (HT.out.below hb1)
    have HO1 := hide (HO.out.below hb1)
    have HB1 := hide (bl_call hb1 HB.out)
    clear hb1
    go_wp2_with fail
    (with_reducible refine (HCS.out _ HT1.out.reads HO1.out.reads).mono ?_)
    rintro e u2 ⟨A2, d2, rfl, ho2, hb2⟩
    have ho1 := ho1.below hb2
    have HB2 := hide (bl_call hb2 HB1.out)
    clear hb2
    go_wp2_with fail
    have r1 : IL u2 A1 0 [] := ho1.reads
    have r2 : IL u2 A2 0 [] := ho2.reads
    (with_reducible refine (eqInts_l _ _ _ 0 0 _ _ [] [] r1 r2 (by omega) (by omega)).mono ?_)
    rintro e u3 ⟨rfl, j3, rfl⟩
    simp only [decide_true]
    have r1 := r1.drewN j3
    have r2 := r2.drewN j3
    go_wp2_with fail
    (with_reducible refine (eqInts_l _ _ _ 0 0 _ _ [] [] r1 r2 (by omega) (by omega)).mono ?_)
    rintro e u4 ⟨rfl, j4, rfl⟩
    simp only [decide_true]
    go_wp2
    go_ret
    exact ⟨rfl, bl_drewN HB2.out _⟩
  | some r =>
    obtain ⟨s1, s2, s3, s4, s5⟩ := plV_some q
    have hr5 : r.length ≤ 5 := by omega
    have lb := (okLen_iff.1 s2).2
    have t0 : 0 ≤ (n2 : Int) % 9 := by omega
    have t1 : (n2 : Int) % 9 < 9 := by omega
    obtain ⟨r2, p1, p2, p3⟩ := plV_first s1 (wid_ok t0 s2) (wid_len l _).symm (fun j hj => by
      rw [wid_len] at hj
      rw [wid_get hj]
      have := lb j hj
      omega) s5
    obtain ⟨W, hW⟩ : ∃ W, W = wid l ((n2 : Int) % 9) := ⟨_, rfl⟩
    rw [← hW] at p1
    have WL : W.length = l.length := by rw [hW]; exact wid_len _ _
    have WG := hide (fun (i : Nat) (h : i < l.length) => (show ng W i = min (ng l i + 1 + (n2 : Int) % 9) 10000 by rw [hW]; exact wid_get h))
    have LB := hide lb
    have HWL := hide WL
    have P3 := hide p3
    have P2 := hide (p2.trans s4.symm)
    have S4 := hide s4
    have hr6 : r2.length ≤ 5 := by omega
    rw [q] at CI CS
    have CW := fun (u : World) (C : Option Addr) (k : Nat) (h1 : TL u A L.length L) (h2 : IL u C W.length W) => PlaceFigures_i u A C c' k L W h1 (TO_capf HT.out) h2 (by omega) (by omega)
    rw [p1] at CW
    unfold RetO at CI CS CW
    simp only [Option.getD_some, Option.isSome_some] at CI CS CW
    have HCI := hide CI
    have HCS := hide CS
    have HCW := hide CW
    clear CI CS CW q s1 s2 s3 s4 s5 lb p1 p2 p3 hW WL
    go_wp2_with fail
    (with_reducible refine (HCI.out _ HT.out.reads HO.out.reads).mono ?_)
    rintro e u1 ⟨A1, d1, rfl, ho1, hb1⟩
    have HT1 := hide (HT.out.below hb1)
    have HO1 := hide (HO.out.below hb1)
    have HB1 := hide (bl_call hb1 HB.out)
    clear hb1
    go_wp2_with fail
    (with_reducible refine (HCS.out _ HT1.out.reads HO1.out.reads).mono ?_)
    rintro e u2 ⟨A2, d2, rfl, ho2, hb2⟩
    have ho1 := ho1.below hb2
    have HT2 := hide (HT1.out.below hb2)
    have HO2 := hide (HO1.out.below hb2)
    have HB2 := hide (bl_call hb2 HB1.out)
    clear hb2
    go_wp2_with fail
    (with_reducible refine (eqInts_l _ _ _ _ _ _ _ r r ho1.reads ho2.reads (by omega) (by omega)).mono ?_)
    rintro e u3 ⟨rfl, j3, rfl⟩
    simp only [decide_true]
    have HP := hide (ho1.drewN j3)
    have HT3 := hide (HT2.out.drewN j3)
    have HO3 := hide (HO2.out.drewN j3)
    have HB3 := hide (bl_drewN HB2.out j3)
    have HS0 := hide (show OL ((u2.drewN j3).alloc (.cells #[] 3)) 3 u2.heap.size (some ⟨u2.heap.size, 0, none⟩) 0 (W.take 0) from by
      have := OL.lit (w := u2.drewN j3) (e := 3) (B := u2.heap.size) (Nat.le_refl _) [] (by simp)
      simpa using this)
    clear ho1 ho2
    go_wp2
    go_loopw [11, 12] (fun v i u => ∃ (p : Nat) (C : Option Addr) (k : Nat), p ≤ l.length ∧ i = .int .i64 p ∧ v = .slice C p k ∧ OL u 3 u2.heap.size C k (W.take p) ∧ Below u2.heap.size (u2.drewN j3) u) (fun _ i _ => l.length - (intOf i).toNat)
    case atStart => exact ⟨0, _, _, by omega, rfl, rfl, HS0.out, bl_alloc (bl_refl (u2.drewN j3)) _⟩
    case round =>
      obtain ⟨p, C, k, hp, rfl, rfl, hoc, hbl⟩ := hrel
      have HBL := hide hbl
      have hzb := hbl.size
      simp at hzb
      clear hbl
      by_cases hlt : p < l.length
      · obtain ⟨b, o, hA, hb0, hc⟩ := HO3.out.reads.at_ hlt
        have hcw := (HBL.out.cell (p := ⟨b, o + p, none⟩) hb0).trans hc
        subst hA
        obtain ⟨x0, x1⟩ := LB.out p hlt
        have G := WG.out p hlt
        obtain ⟨x, hx⟩ : ∃ x, x = ng l p := ⟨_, rfl⟩
        rw [← hx] at hcw x0 x1 G
        have TK := hide (fun (z : Int) (h : ng W p = z) => take_next (l := W) (k := p) (by have := HWL.out; omega) h)
        have TL0 := hide (take_len (l := W) (k := p) (by have := HWL.out; omega))
        clear hx hc
        rcases (by omega : x + 1 + (n2 : Int) % 9 ≤ 10000 ∨ 10000 < x + 1 + (n2 : Int) % 9) with q | q
        · have T := hide (TK.out (x + 1 + (n2 : Int) % 9) (by rw [G]; omega))
          clear G TK
          go_wp2_with (at_builtin; refine wpList_append_int rfl (.tmp 69) (.tmp 80) _ rfl 3 i0 Try.underlying23 hi0 jz0 jz1 jz2 u2.heap.size C k p (W.take p) rfl (TL0.out.symm) (hoc.alloc _) wr.heap.size (x + 1 + (n2 : Int) % 9) rfl (by simp) (by omega) (by simp; omega) ?_; intro A' c' w' hol' hb' hg')
          go_roundw
          case rel => exact ⟨p + 1, A', c', by omega, by go_num, rfl, by rw [← T.out]; exact hol', (HBL.out.alloc (by simpa using hzb) _).trans hb'⟩
          case measure => simp [intOf]; omega
        · have T := hide (TK.out 10000 (by rw [G]; omega))
          clear G TK
          go_wp2_with (at_builtin; refine wpList_append_int rfl (.tmp 69) (.tmp 80) _ rfl 3 i0 Try.underlying23 hi0 jz0 jz1 jz2 u2.heap.size C k p (W.take p) rfl (TL0.out.symm) (hoc.alloc _) wr.heap.size (10000 : Int) rfl (by simp) (by omega) (by simp; omega) ?_; intro A' c' w' hol' hb' hg')
          go_roundw
          case rel => exact ⟨p + 1, A', c', by omega, by go_num, rfl, by rw [← T.out]; exact hol', (HBL.out.alloc (by simpa using hzb) _).trans hb'⟩
          case measure => simp [intOf]; omega
      · have hpl : W.take p = W := List.take_of_length_le (by have := HWL.out; omega)
        have hpw : p = W.length := by have := HWL.out; omega
        rw [hpl] at hoc
        rw [hpw]
        have HT4 := hide (TO.below HT3.out HBL.out)
        have HP4 := hide (OL.below HP.out HBL.out)
        have HB4 := hide (HB3.out.trans (HBL.out.mono (show w.heap.size ≤ u2.heap.size from HB2.out.size)))
        have hlt2 : ¬ W.length < l.length := by have := HWL.out; omega
        clear hpl hpw
        go_wp2_with fail
        (with_reducible refine (HCW.out _ _ _ HT4.out.reads hoc.reads).mono ?_)
        rintro e u5 ⟨A5, d5, rfl, ho5, hb5⟩
        have HB5 := hide (bl_call hb5 HB4.out)
        have HP5 := hide (HP4.out.below hb5)
        have HF5 := hide ho5
        have g5 : ((r2.length : Int) != (r.length : Int)) = false := by simp [P2.out]
        clear hb5 ho5 hoc
        go_wp2
        go_loopw [15] (fun i u => ∃ p j : Nat, p ≤ r2.length ∧ i = .int .i64 p ∧ u = u5.drewN j) (fun i _ => r2.length - (intOf i).toNat)
        case atStart => exact ⟨0, 0, by omega, rfl, rfl⟩
        case round =>
          obtain ⟨p, j, hp, rfl, rfl⟩ := hrel
          by_cases hlt : p < r2.length
          · obtain ⟨b1, o1, h1, _, c1'⟩ := HF5.out.reads.at_ hlt
            obtain ⟨b2, o2, h2, _, c2'⟩ := HP5.out.reads.at_ (i := p) (by have := P2.out; omega)
            subst h1
            subst h2
            have le := P3.out p (by have := P2.out; have := S4.out; omega)
            obtain ⟨x, hx⟩ : ∃ x, x = ng r2 p := ⟨_, rfl⟩
            obtain ⟨y, hy⟩ : ∃ y, y = ng r p := ⟨_, rfl⟩
            rw [← hx] at c1' le
            rw [← hy] at c2' le
            clear hx hy
            have hprl : p < r.length := by have := P2.out; omega
            have d0 : decide (y < x) = false := decide_eq_false (by omega)
            go_wp2
            go_quiet (fail)
            go_wp2
            go_roundw
            case rel => exact ⟨p + 1, _, by omega, by go_num, rfl⟩
            case measure => simp [intOf]; omega
          · go_wp2
            go_ret
            exact ⟨rfl, bl_drewN HB5.out _⟩
set_option maxRecDepth 100000 in
theorem lifted_FnFigureSpace (os : Os) (started : os.Started) (H : Type) (enc : TypeId × Value → H) :
    ReturnsInHanded {} Try.checked os 9 .any (Rows.fnFigureSpaceSpec.pre6 enc Try.prog Try.f9 Rows.fnFigureSpaceRow.domain false) (Rows.fnFigureSpaceSpec.post enc Try.prog Try.f9 false true false false) := by
  refine returnsInHanded_of_change (C := Try.checked) own_knob started (by kernel_rfl) Try.func9
    (ChangeSpec.witness6 (enc := enc) (C := Try.checked) false ⟨#[], #[.slice none 0 0, .slice none 0 0], []⟩ 8 (by kernel_rfl) (by kernel_rfl) (by kernel_rfl) (by kernel_rfl)) ?_
  intro W base args ds gs before hval0 hW hcnd _
  have hval : ∀ (j : Nat) t v, Try.f9.params[j]? = some t → args[j]? = some v → Value.okWide Try.prog W .any base t v := hval0
  have hW' := hW
  obtain ⟨p, q, hA0, hV, rfl, hfz, hnd⟩ := hW
  have hA : DataW.TrodAll enc Try.prog W 0 (fun _ => true) true Try.f9.params.toList args.toList ds p := hA0
  rw [Try.params9] at hA hval
  obtain ⟨v0, vs0, d0, ds0, p0, q0, hargs, rfl, rfl, zh0, r0⟩ := trodAll_cons hA
  obtain ⟨v1, vs1, d1, ds1, p1, q1, rfl, rfl, rfl, zh1, r1⟩ := trodAll_cons r0
  obtain ⟨rfl, rfl, rfl⟩ := trodAll_nil r1
  obtain rfl : args = #[v0, v1] := by cases args; simp_all
  obtain ⟨rfl, rfl⟩ := trodVars_none hV
  have zk0 := zh0
  have zl0 : ∀ x ∈ p0, x.block < W.heap.size := by obtain ⟨m, hm⟩ := zk0; exact DataW.trod_lt m _ _ _ hm
  have zk1 := zh1
  have zl1 : ∀ x ∈ p1, x.block < W.heap.size := by obtain ⟨m, hm⟩ := zk1; exact DataW.trod_lt m _ _ _ hm
  clear hA0 hval0
  obtain ⟨a_code, n_code, c_code, rfl⟩ := okWide_slice Try.underlying38 (hval 0 38 v0 rfl rfl)
  obtain ⟨code, w_code⟩ := isRow_of Try.underlying38 Try.underlying5 (by kernel_rfl) zh0
  obtain ⟨a_more, n_more, c_more, rfl⟩ := okWide_slice Try.underlying38 (hval 1 38 v1 rfl rfl)
  obtain ⟨more, w_more⟩ := isRow_of Try.underlying38 Try.underlying5 (by kernel_rfl) zh1
  refine (walk_FnFigureSpace a_code n_code c_code code a_more n_more c_more more W w_code w_more).mono fun e W' ⟨he, bel⟩ => ?_
  subst he
  exact ⟨_, rfl, _, _, _, [], _, [], hW', trodAll_mk1 (shut_bool Try.underlying4 _), (trodAll_cons_mk (Below.trod laid_out (by kernel_rfl) (of_decide_eq_true (by kernel_rfl)) zk0 bel zl0) (trodAll_cons_mk (Below.trod laid_out (by kernel_rfl) (of_decide_eq_true (by kernel_rfl)) zk1 bel zl1) trodAll_mk0)), rfl, bel.frame _, fun h => by cases h⟩

/-- The statement. -/
theorem FnFigureSpace_holds : Rows.FnFigureSpaceSaid :=
  OpenClaim.holds_of_wide 9 Try.f9 rfl rfl rfl rfl rfl rfl rfl ⟨rfl, rfl, rfl, rfl, rfl⟩ rfl rfl rfl rfl rfl (by kernel_rfl) Try.func9 (by kernel_rfl)
    (of_decide_eq_true (by kernel_rfl)) (by unfold Func.isWrapper; first | (rw [if_pos (by decide +kernel)]; kernel_rfl) | (rw [if_neg (by decide +kernel)]; exact ⟨rfl, rfl⟩))
    (fun os started H enc _ => lifted_FnFigureSpace os started H enc)
end Go.Proofs.Ytofcbhphjghkaac
