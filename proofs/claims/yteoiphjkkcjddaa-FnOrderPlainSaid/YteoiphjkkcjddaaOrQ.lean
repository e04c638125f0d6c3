/- The promises on orders hold for every code. No condition. -/
import Derived.Test.YteoiphjkkcjddaaOrD
namespace Go.Proofs.Yteoiphjkkcjddaa
open Go.ChangeShapes Go.WideShapes Go.ChangeAt Go.RowKit
set_option linter.unusedVariables false

set_option maxHeartbeats 2000000 in
theorem walk_FnOrderPlain (a : Option Addr) (n c : Nat) (zs : List Int) (w : World) (hr : IsRow .u8 w a n c zs) :
    Calls Try.prog 12 #[.slice a n c] w fun e w' => e = .returned (.bool true) ∧ Below w.heap.size w w' := by
  have hm := small_row hr
  unfold maxLen at hm
  rcases (by omega : 1048576 < n ∨ n ≤ 1048576) with hn | hn
  · go_enter Try.func12, Try.ntmps12
    go_wp2
    go_ret
    exact ⟨rfl, bl_refl _⟩
  · obtain ⟨i0, hi0, jz0, jz1, jz2⟩ := info_parts int_info
    go_enter Try.func12, Try.ntmps12
    go_wp2_with fail
    refine (DrawOrderOf_any _ _ _ _ _ hr).mono ?_
    rintro e u0 ⟨A0, c0, l, rfl, ho0, hl9, hb⟩
    clear hr
    have CS := fun (u : World) (A : Option Addr) (c : Nat) (h : IL u A l.length l) => OrderOf_s u A l.length c l h (by omega)
    have CI := fun (u : World) (A : Option Addr) (c : Nat) (h : IL u A l.length l) => OrderOf_i u A l.length c l h (by omega)
    have hne := ordO_ne (l := l)
    obtain ⟨O, hO⟩ : ∃ O, O = ordO l := ⟨_, rfl⟩
    simp only [← hO] at CS CI hne
    have hO6 : O.length ≤ 60 := by rw [hO]; exact ordO_len l
    have HCS := hide CS
    have HCI := hide CI
    have HNE := hide hne
    clear CS CI hO hne
    go_wp2_with fail
    (with_reducible refine (HCI.out _ _ _ ho0.reads).mono ?_)
    rintro e u1 ⟨A1, c1, rfl, ho1, hb1⟩
    have hr0 := ho0.reads.below hb1
    go_wp2_with fail
    (with_reducible refine (HCS.out _ _ _ hr0).mono ?_)
    rintro e u2 ⟨A2, c2, rfl, ho2, hb2⟩
    have hr0 := hr0.below hb2
    have ho1 := ho1.below hb2
    go_wp2_with fail
    (with_reducible refine (eqInts_l _ _ _ _ _ _ _ _ _ ho1.reads ho2.reads (by omega) (by omega)).mono ?_)
    rintro e u3 ⟨rfl, j, rfl⟩
    simp only [decide_true]
    have hr1 := ho1.reads.drewN j
    have hr0 := hr0.drewN j
    have HB := hide (bl_drewN (bl_call hb2 (bl_call hb1 hb)) j)
    clear ho1 ho2 ho0
    rcases Nat.eq_zero_or_pos O.length with h0 | h0
    · have d0 : ((O.length : Int) == 0) = true := by simp [h0]
      clear h0
      go_wp2_with fail
      (with_reducible refine (HCS.out _ _ _ hr0).mono ?_)
      rintro e u4 ⟨A4, c4, rfl, ho4, hb4⟩
      have hr4 := hr1.below hb4
      go_wp2_with fail
      (with_reducible refine (eqInts_l _ _ _ _ _ _ _ _ _ hr4 ho4.reads (by omega) (by omega)).mono ?_)
      rintro e u5 ⟨rfl, j5, rfl⟩
      simp only [decide_true]
      go_wp2
      go_ret
      exact ⟨rfl, bl_drewN (bl_call hb4 HB.out) _⟩
    · have d0 : ((O.length : Int) == 0) = false := by simp; intro h; rw [h] at h0; simp at h0
      have HOK := hide (HNE.out (by omega))
      have hOl := HOK.out.2.2
      have hl0 : 0 < l.length := by omega
      have dn : ((l.length : Int) != (l.length : Int)) = false := by simp
      have HOL := hide hOl
      have HN9 : l.length ≤ 9 := hl9
      have eZ : ordO (List.replicate l.length 0) = upto 0 l.length := by
        have e := ordL_zero (L := List.replicate l.length 0) (fun j hj => by rw [ng_rep (by simpa using hj)])
        rw [ordO_yes (okL_rep (by omega) (by omega)), e, List.length_replicate]
      have eO : ordO (List.replicate l.length 1) = (upto 0 l.length).reverse := by
        have e := ordL_one (L := List.replicate l.length 1) (fun j hj => by rw [ng_rep (by simpa using hj)])
        rw [ordO_yes (okL_rep (by omega) (by omega)), e, List.length_replicate]
      have RZ := fun (u : World) (A : Option Addr) (c : Nat) (h : IL u A l.length (List.replicate l.length 0)) => OrderOf_i u A l.length c (List.replicate l.length 0) h (by omega)
      have RO := fun (u : World) (A : Option Addr) (c : Nat) (h : IL u A l.length (List.replicate l.length 1)) => OrderOf_i u A l.length c (List.replicate l.length 1) h (by omega)
      rw [eZ] at RZ
      rw [eO] at RO
      obtain ⟨Z, hZ⟩ : ∃ Z, Z = upto 0 l.length := ⟨_, rfl⟩
      have hZl : Z.length = l.length := by rw [hZ, upto_len]
      have hZg : ∀ p, p < l.length → ng Z p = (p : Int) := fun p hp => by rw [hZ, upto_get hp, Int.zero_add]
      have hRg : ∀ p, p < l.length → ng Z.reverse p = (l.length : Int) - 1 - (p : Int) := fun p hp => by
        rw [ng_rev (by rw [hZl]; exact hp), hZl, hZg _ (by omega)]; omega
      rw [← hZ] at RZ RO
      rw [List.length_reverse] at RO
      rw [hZl] at RZ RO
      have RZ := hide RZ
      have RO := hide RO
      have HZL := hide hZl
      have HZG := hide hZg
      have HRG := hide hRg
      have H0 : Hid (OL ((u2.drewN j).alloc (.cells #[] 3)) 3 (u2.drewN j).heap.size (some ⟨(u2.drewN j).heap.size, 0, none⟩) 0 (List.replicate 0 1)) := hide (by
        have := OL.lit (w := u2.drewN j) (e := 3) (B := (u2.drewN j).heap.size) (Nat.le_refl _) [] (by simp)
        simpa using this)
      obtain ⟨v, hv⟩ : ∃ v, v = u2.drewN j := ⟨_, rfl⟩
      have HV := hide HB.out
      rw [← hv] at H0 HV ⊢
      clear hOl h0 eZ eO hZ hZl hZg hRg hr0 hr1 hv HOK
      go_wp2
      go_loopw [6, 7] (fun o i u => ∃ (p : Nat) (A' : Option Addr) (c' : Nat), p ≤ l.length ∧ o = .slice A' p c' ∧ i = .int .i64 p ∧ OL u 3 v.heap.size A' c' (List.replicate p 1) ∧ Below v.heap.size v u) (fun _ i _ => l.length - (intOf i).toNat)
      case atStart => exact ⟨0, _, _, by omega, rfl, rfl, H0.out, bl_alloc (bl_refl _) _⟩
      case round =>
        obtain ⟨p, Ao, co, hp, rfl, rfl, hol, hbl⟩ := hrel
        have hz : v.heap.size ≤ wr.heap.size := hbl.size
        by_cases hlt : p < l.length
        · have U : Hid (p = (List.replicate p (1 : Int)).length) := hide (by simp)
          go_wp2_with (at_builtin; refine wpList_append_int rfl (.tmp 40) (.tmp 41) _ rfl 3 i0 Try.underlying22 hi0 jz0 jz1 jz2 v.heap.size Ao co p (List.replicate p 1) rfl U.out (hol.alloc _) wr.heap.size 1 rfl (by simp) (by omega) (by simp; omega) ?_; intro A' c' w' hol' hb' hg')
          rw [← List.replicate_succ'] at hol'
          go_roundw
          case rel => exact ⟨p + 1, A', c', by omega, rfl, by go_num, hol', (bl_alloc hbl _).trans hb'⟩
          case measure => simp [intOf]; omega
        · have hpl : l.length = p := by omega
          have hl1 := hol.reads
          rw [List.length_replicate, ← hpl] at hl1
          rw [← hpl]
          clear hol hpl hp hlt
          have HB1 := hide (bl_call hbl HV.out)
          clear p
          go_wp2_with (refine wpList_make_full _ rfl _ _ _ rfl wr.heap.size 3 i0 _ 1 Try.underlying22 hi0 jz0 jz1 .i64 .i64 _ _ l.length rfl rfl rfl rfl (by rw [jz2]; omega) (by unfold maxLen; omega) (Nat.le_refl _) ?_; intro w1 hown hgr)
          have hb1 := below_new hgr
          have O0 : IL w1 (some ⟨wr.heap.size, 0, none⟩) l.length (List.replicate l.length 0) := by
            have e1 : (madeCells (Value.int .i64 0).cells l.length).toList = List.replicate l.length (.int .i64 0) := toList_madeCells_one _ _
            simp only [Nat.mul_one, e1] at hown
            have hq : OL w1 3 wr.heap.size (some ⟨wr.heap.size, 0, none⟩) l.length (List.replicate l.length 0) := by unfold OL; simpa using hown
            have := hq.reads
            rwa [List.length_replicate] at this
          have hl2 := hl1.below hb1
          have HB2 := hide (bl_call hb1 HB1.out)
          clear hown hgr hb1 hl1
          (with_reducible refine (RZ.out _ _ _ O0).mono ?_)
          rintro e u5 ⟨A5, c5, rfl, ho5, hb5⟩
          have hl3 := hl2.below hb5
          have hr5 := ho5.reads
          have HB3 := hide (bl_call hb5 HB2.out)
          clear ho5 hb5 O0
          go_wp2_with fail
          (with_reducible refine (RO.out _ _ _ hl3).mono ?_)
          rintro e u6 ⟨A6, c6, rfl, ho6, hb6⟩
          have hr6 := ho6.reads
          have hr5 := hr5.below hb6
          have HB4 := hide (bl_call hb6 HB3.out)
          clear ho6 hb6
          go_wp2
          go_loop [10] (fun i => ∃ p : Nat, p ≤ l.length ∧ i = .int .i64 p) (fun i => l.length - (intOf i).toNat)
          case atStart => exact ⟨0, by omega, rfl⟩
          case round =>
            obtain ⟨p, hp, rfl⟩ := hrel
            by_cases hlt : p < l.length
            · obtain ⟨b, o, rfl, hbv, hc⟩ := hr5.at_ (i := p) (by rw [HZL.out]; exact hlt)
              obtain ⟨b', o', rfl, hbv', hc'⟩ := hr6.at_ (i := p) (by rw [List.length_reverse, HZL.out]; exact hlt)
              rw [HZG.out p hlt] at hc
              rw [HRG.out p hlt] at hc'
              go_wp2
              go_round
              case rel => exact ⟨p + 1, by omega, by go_num⟩
              case measure => simp [intOf]; omega
            · go_wp2
              go_ret
              exact ⟨rfl, HB4.out⟩
set_option maxRecDepth 100000 in
theorem lifted_FnOrderPlain (os : Os) (started : os.Started) (H : Type) (enc : TypeId × Value → H) :
    ReturnsInHanded {} Try.checked os 12 .any (Rows.fnOrderPlainSpec.pre6 enc Try.prog Try.f12 Rows.fnOrderPlainRow.domain false) (Rows.fnOrderPlainSpec.post enc Try.prog Try.f12 false true false false) := by
  refine returnsInHanded_of_change (C := Try.checked) own_knob started (by kernel_rfl) Try.func12
    (ChangeSpec.witness6 (enc := enc) (C := Try.checked) false ⟨#[], #[.slice none 0 0], []⟩ 8 (by kernel_rfl) (by kernel_rfl) (by kernel_rfl) (by kernel_rfl)) ?_
  intro W base args ds gs before hval0 hW hcnd _
  have hval : ∀ (j : Nat) t v, Try.f12.params[j]? = some t → args[j]? = some v → Value.okWide Try.prog W .any base t v := hval0
  have hW' := hW
  obtain ⟨p, q, hA0, hV, rfl, hfz, hnd⟩ := hW
  have hA : DataW.TrodAll enc Try.prog W 0 (fun _ => true) true Try.f12.params.toList args.toList ds p := hA0
  rw [Try.params12] at hA hval
  obtain ⟨v0, vs0, d0, ds0, p0, q0, hargs, rfl, rfl, zh0, r0⟩ := trodAll_cons hA
  obtain ⟨rfl, rfl, rfl⟩ := trodAll_nil r0
  obtain rfl : args = #[v0] := by cases args; simp_all
  obtain ⟨rfl, rfl⟩ := trodVars_none hV
  have zk0 := zh0
  have zl0 : ∀ x ∈ p0, x.block < W.heap.size := by obtain ⟨m, hm⟩ := zk0; exact DataW.trod_lt m _ _ _ hm
  clear hA0 hval0
  obtain ⟨a_code, n_code, c_code, rfl⟩ := okWide_slice Try.underlying30 (hval 0 30 v0 rfl rfl)
  obtain ⟨code, w_code⟩ := isRow_of Try.underlying30 Try.underlying5 (by kernel_rfl) zh0
  refine (walk_FnOrderPlain a_code n_code c_code code W w_code).mono fun e W' ⟨he, bel⟩ => ?_
  subst he
  exact ⟨_, rfl, _, _, _, [], _, [], hW', trodAll_mk1 (shut_bool Try.underlying4 _), (trodAll_cons_mk (Below.trod laid_out (by kernel_rfl) (of_decide_eq_true (by kernel_rfl)) zk0 bel zl0) trodAll_mk0), rfl, bel.frame _, fun h => by cases h⟩

/-- The statement. -/
theorem FnOrderPlain_holds : Rows.FnOrderPlainSaid :=
  OpenClaim.holds_of_wide 12 Try.f12 rfl rfl rfl rfl rfl rfl rfl ⟨rfl, rfl, rfl, rfl, rfl⟩ rfl rfl rfl rfl rfl (by kernel_rfl) Try.func12 (by kernel_rfl)
    (of_decide_eq_true (by kernel_rfl)) (by unfold Func.isWrapper; first | (rw [if_pos (by decide +kernel)]; kernel_rfl) | (rw [if_neg (by decide +kernel)]; exact ⟨rfl, rfl⟩))
    (fun os started H enc _ => lifted_FnOrderPlain os started H enc)

set_option maxHeartbeats 2000000 in
theorem walk_FnOrderTwice (a : Option Addr) (n c : Nat) (zs : List Int) (w : World) (hr : IsRow .u8 w a n c zs) :
    Calls Try.prog 13 #[.slice a n c] w fun e w' => e = .returned (.bool true) ∧ Below w.heap.size w w' := by
  have hm := small_row hr
  unfold maxLen at hm
  rcases (by omega : 1048576 < n ∨ n ≤ 1048576) with hn | hn
  · go_enter Try.func13, Try.ntmps13
    go_wp2
    go_ret
    exact ⟨rfl, bl_refl _⟩
  · obtain ⟨i0, hi0, jz0, jz1, jz2⟩ := info_parts int_info
    go_enter Try.func13, Try.ntmps13
    go_wp2_with fail
    refine (DrawOrderOf_any _ _ _ _ _ hr).mono ?_
    rintro e u0 ⟨A0, c0, l, rfl, ho0, hl9, hb⟩
    clear hr
    have CS := fun (u : World) (A : Option Addr) (c : Nat) (h : IL u A l.length l) => OrderOf_s u A l.length c l h (by omega)
    have CI := fun (u : World) (A : Option Addr) (c : Nat) (h : IL u A l.length l) => OrderOf_i u A l.length c l h (by omega)
    have hne := ordO_ne (l := l)
    obtain ⟨O, hO⟩ : ∃ O, O = ordO l := ⟨_, rfl⟩
    simp only [← hO] at CS CI hne
    have hO6 : O.length ≤ 60 := by rw [hO]; exact ordO_len l
    have HCS := hide CS
    have HCI := hide CI
    have HNE := hide hne
    clear CS CI hO hne
    go_wp2_with fail
    (with_reducible refine (HCI.out _ _ _ ho0.reads).mono ?_)
    rintro e u1 ⟨A1, c1, rfl, ho1, hb1⟩
    have hr0 := ho0.reads.below hb1
    go_wp2_with fail
    (with_reducible refine (HCS.out _ _ _ hr0).mono ?_)
    rintro e u2 ⟨A2, c2, rfl, ho2, hb2⟩
    have hr0 := hr0.below hb2
    have ho1 := ho1.below hb2
    go_wp2_with fail
    (with_reducible refine (eqInts_l _ _ _ _ _ _ _ _ _ ho1.reads ho2.reads (by omega) (by omega)).mono ?_)
    rintro e u3 ⟨rfl, j, rfl⟩
    simp only [decide_true]
    have hr1 := ho1.reads.drewN j
    have hr0 := hr0.drewN j
    have HB := hide (bl_drewN (bl_call hb2 (bl_call hb1 hb)) j)
    clear ho1 ho2 ho0
    rcases Nat.eq_zero_or_pos O.length with h0 | h0
    · have d0 : ((O.length : Int) == 0) = true := by simp [h0]
      clear h0
      go_wp2_with fail
      (with_reducible refine (HCS.out _ _ _ hr0).mono ?_)
      rintro e u4 ⟨A4, c4, rfl, ho4, hb4⟩
      have hr4 := hr1.below hb4
      go_wp2_with fail
      (with_reducible refine (eqInts_l _ _ _ _ _ _ _ _ _ hr4 ho4.reads (by omega) (by omega)).mono ?_)
      rintro e u5 ⟨rfl, j5, rfl⟩
      simp only [decide_true]
      go_wp2
      go_ret
      exact ⟨rfl, bl_drewN (bl_call hb4 HB.out) _⟩
    · have d0 : ((O.length : Int) == 0) = false := by simp; intro h; rw [h] at h0; simp at h0
      have HOK := hide (HNE.out (by omega))
      have hOl := HOK.out.2.2
      have hl0 : 0 < l.length := by omega
      have HOL := hide hOl
      have HOK2 := hide HOK.out.2.1
      have hok := okL_iff.1 HOK.out.1
      have HOKL := hide hok.2
      have H0 : Hid (OL ((u2.drewN j).alloc (.cells #[] 3)) 3 (u2.drewN j).heap.size (some ⟨(u2.drewN j).heap.size, 0, none⟩) 0 ((l.take 0).map (· + 1))) := hide (by
        have := OL.lit (w := u2.drewN j) (e := 3) (B := (u2.drewN j).heap.size) (Nat.le_refl _) [] (by simp)
        simpa using this)
      obtain ⟨v, hv⟩ : ∃ v, v = u2.drewN j := ⟨_, rfl⟩
      have HV := hide HB.out
      rw [← hv] at H0 HV hr0 hr1 ⊢
      clear hOl h0 hv HOK hok
      go_wp2
      go_loopw [5, 6] (fun o i u => ∃ (p : Nat) (A' : Option Addr) (c' : Nat), p ≤ l.length ∧ o = .slice A' p c' ∧ i = .int .i64 p ∧ OL u 3 v.heap.size A' c' ((l.take p).map (· + 1)) ∧ (∀ k, k < p → ng l k ≤ 5) ∧ Below v.heap.size v u) (fun _ i _ => l.length - (intOf i).toNat)
      case atStart => exact ⟨0, _, _, by omega, rfl, rfl, H0.out, fun k hk => by omega, bl_alloc (bl_refl _) _⟩
      case round =>
        obtain ⟨p, Ao, co, hp, rfl, rfl, hol, h5, hbl⟩ := hrel
        have hz : v.heap.size ≤ wr.heap.size := hbl.size
        have H5 := hide h5
        clear h5
        by_cases hlt : p < l.length
        · obtain ⟨b, o, rfl, hbv, hc⟩ := hr0.at_ hlt
          have hc := keep_cell hbl hc
          obtain ⟨x0, x6⟩ := HOKL.out p hlt
          obtain ⟨x, hx⟩ : ∃ x, x = ng l p := ⟨_, rfl⟩
          rw [← hx] at hc x0 x6
          have HX := hide hx
          clear hx
          cases q : x == 6
          · have hx6 : x ≠ 6 := by simpa using q
            have U : Hid (p = ((l.take p).map (· + 1)).length) := hide (by simp; omega)
            have M5 : Hid (∀ k, k < p + 1 → ng l k ≤ 5) := hide (fun k hk => by
              rcases (by omega : k < p ∨ k = p) with h | rfl
              · exact H5.out k h
              · rw [← HX.out]; omega)
            have E5 : Hid ((l.take p).map (· + 1) ++ [x + 1] = (l.take (p + 1)).map (· + 1)) := hide (by
              rw [← take_next hlt HX.out.symm, List.map_append]; rfl)
            clear hx6
            go_wp2_with (at_builtin; refine wpList_append_int rfl (.tmp 42) (.tmp 48) _ rfl 3 i0 Try.underlying22 hi0 jz0 jz1 jz2 v.heap.size Ao co p ((l.take p).map (· + 1)) rfl U.out (hol.alloc _) wr.heap.size (x + 1) rfl (by simp) (by omega) (by simp; omega) ?_; intro A' c' w' hol' hb' hg')
            rw [E5.out] at hol'
            go_roundw
            case rel => exact ⟨p + 1, A', c', by omega, rfl, by go_num, hol', M5.out, (bl_alloc hbl _).trans hb'⟩
            case measure => simp [intOf]; omega
          · clear hol
            go_wp2
            go_ret
            exact ⟨rfl, bl_call hbl HV.out⟩
        · have hpl : l.length = p := by omega
          have et : l.take p = l := List.take_of_length_le (by omega)
          rw [et] at hol
          obtain ⟨U, hU⟩ : ∃ U, U = l.map (· + 1) := ⟨_, rfl⟩
          rw [← hU] at hol
          have hUl : U.length = l.length := by rw [hU]; simp
          have hUg : ∀ k, k < l.length → ng U k = ng l k + 1 := fun k hk => by rw [ng_lt (by rw [hUl]; exact hk), ng_lt hk]; subst hU; simp
          have hok2 : okL U = true := okL_iff.2 ⟨by omega, fun k hk => by
            rw [hUl] at hk
            have h1 := HOKL.out k hk
            have h2 := H5.out k (by omega)
            rw [hUg k hk]; omega⟩
          have eU : ordO U = O.reverse := by
            rw [ordO_yes hok2, HOK2.out]
            exact ordL_up hUl hUg (fun k hk => by
              have h1 := HOKL.out k hk
              have h2 := H5.out k (by omega)
              omega)
          have RO := fun (u : World) (A : Option Addr) (c : Nat) (h : IL u A U.length U) => OrderOf_i u A U.length c U h (by omega)
          rw [eU, List.length_reverse, hUl] at RO
          have hl1 := hol.reads
          rw [hUl] at hl1
          rw [← hpl]
          have RO := hide RO
          have hr9 := hr1.below hbl
          have HB1 := hide (bl_call hbl HV.out)
          have dO : ((O.length : Int) != (O.length : Int)) = false := by simp
          clear hol hpl hp hlt et hU hUl hUg hok2 eU hr1 H5
          clear p
          go_wp2_with fail
          (with_reducible refine (RO.out _ _ _ hl1).mono ?_)
          rintro e u6 ⟨A6, c6, rfl, ho6, hb6⟩
          have hr6 := ho6.reads
          have hr9 := hr9.below hb6
          have HB4 := hide (bl_call hb6 HB1.out)
          clear ho6 hb6
          go_wp2
          go_loopw [8] (fun i u => ∃ p k : Nat, p ≤ O.length ∧ i = .int .i64 p ∧ u = u6.drewN k) (fun i _ => O.length - (intOf i).toNat)
          case atStart => exact ⟨0, 0, by omega, rfl, rfl⟩
          case round =>
            obtain ⟨p, kk, hp, rfl, rfl⟩ := hrel
            by_cases hlt : p < O.length
            · obtain ⟨m1, hm1⟩ : ∃ m1, O.length = m1 + 1 := ⟨O.length - 1, by omega⟩
              obtain ⟨m, hm⟩ : ∃ m, m1 = p + m := ⟨m1 - p, by omega⟩
              have hmO : m < O.length := by omega
              obtain ⟨b', o', rfl, hbv', hc'⟩ := hr6.at_ (i := p) (by rw [List.length_reverse]; exact hlt)
              obtain ⟨b, o, rfl, hbv, hc⟩ := hr9.at_ hmO
              rw [ng_rev hlt, show O.length - 1 - p = m by omega] at hc'
              obtain ⟨x, hx⟩ : ∃ x, x = ng O m := ⟨_, rfl⟩
              rw [← hx] at hc hc'
              have qx : (x != x) = false := by simp
              have em1 : (O.length : Int) - 1 = (m1 : Int) := by omega
              have em2 : (m1 : Int) - (p : Int) = (m : Int) := by omega
              have wm1 : IntKind.i64.wrap (m1 : Int) = (m1 : Int) := IntWalk.i64_in _ (by omega)
              have wm2 : IntKind.i64.wrap (m : Int) = (m : Int) := IntWalk.i64_in _ (by omega)
              clear hx hm1 hm
              go_wp2
              go_quiet (fail)
              go_wp2
              go_roundw
              case rel => exact ⟨p + 1, _, by omega, by go_num, rfl⟩
              case measure => simp [intOf]; omega
            · go_wp2
              go_ret
              exact ⟨rfl, bl_drewN HB4.out _⟩
set_option maxRecDepth 100000 in
theorem lifted_FnOrderTwice (os : Os) (started : os.Started) (H : Type) (enc : TypeId × Value → H) :
    ReturnsInHanded {} Try.checked os 13 .any (Rows.fnOrderTwiceSpec.pre6 enc Try.prog Try.f13 Rows.fnOrderTwiceRow.domain false) (Rows.fnOrderTwiceSpec.post enc Try.prog Try.f13 false true false false) := by
  refine returnsInHanded_of_change (C := Try.checked) own_knob started (by kernel_rfl) Try.func13
    (ChangeSpec.witness6 (enc := enc) (C := Try.checked) false ⟨#[], #[.slice none 0 0], []⟩ 8 (by kernel_rfl) (by kernel_rfl) (by kernel_rfl) (by kernel_rfl)) ?_
  intro W base args ds gs before hval0 hW hcnd _
  have hval : ∀ (j : Nat) t v, Try.f13.params[j]? = some t → args[j]? = some v → Value.okWide Try.prog W .any base t v := hval0
  have hW' := hW
  obtain ⟨p, q, hA0, hV, rfl, hfz, hnd⟩ := hW
  have hA : DataW.TrodAll enc Try.prog W 0 (fun _ => true) true Try.f13.params.toList args.toList ds p := hA0
  rw [Try.params13] at hA hval
  obtain ⟨v0, vs0, d0, ds0, p0, q0, hargs, rfl, rfl, zh0, r0⟩ := trodAll_cons hA
  obtain ⟨rfl, rfl, rfl⟩ := trodAll_nil r0
  obtain rfl : args = #[v0] := by cases args; simp_all
  obtain ⟨rfl, rfl⟩ := trodVars_none hV
  have zk0 := zh0
  have zl0 : ∀ x ∈ p0, x.block < W.heap.size := by obtain ⟨m, hm⟩ := zk0; exact DataW.trod_lt m _ _ _ hm
  clear hA0 hval0
  obtain ⟨a_code, n_code, c_code, rfl⟩ := okWide_slice Try.underlying30 (hval 0 30 v0 rfl rfl)
  obtain ⟨code, w_code⟩ := isRow_of Try.underlying30 Try.underlying5 (by kernel_rfl) zh0
  refine (walk_FnOrderTwice a_code n_code c_code code W w_code).mono fun e W' ⟨he, bel⟩ => ?_
  subst he
  exact ⟨_, rfl, _, _, _, [], _, [], hW', trodAll_mk1 (shut_bool Try.underlying4 _), (trodAll_cons_mk (Below.trod laid_out (by kernel_rfl) (of_decide_eq_true (by kernel_rfl)) zk0 bel zl0) trodAll_mk0), rfl, bel.frame _, fun h => by cases h⟩

/-- The statement. -/
theorem FnOrderTwice_holds : Rows.FnOrderTwiceSaid :=
  OpenClaim.holds_of_wide 13 Try.f13 rfl rfl rfl rfl rfl rfl rfl ⟨rfl, rfl, rfl, rfl, rfl⟩ rfl rfl rfl rfl rfl (by kernel_rfl) Try.func13 (by kernel_rfl)
    (of_decide_eq_true (by kernel_rfl)) (by unfold Func.isWrapper; first | (rw [if_pos (by decide +kernel)]; kernel_rfl) | (rw [if_neg (by decide +kernel)]; exact ⟨rfl, rfl⟩))
    (fun os started H enc _ => lifted_FnOrderTwice os started H enc)
end Go.Proofs.Yteoiphjkkcjddaa
