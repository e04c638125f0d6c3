/- The law that first fit needs the fewest lines holds for every code. No condition. -/
import Derived.Test.YtmncdpiojhgcdaaSa
import Derived.Test.YtmncdpiojhgcdaaOfS
import Derived.Test.YtmncdpiojhgcdaaFf
import Derived.Test.YtmncdpiojhgcdaaDrawIw
namespace Go.Proofs.Ytmncdpiojhgcdaa
open Go.ChangeShapes Go.WideShapes Go.ChangeAt Go.RowKit
set_option linter.unusedVariables false
set_option linter.unusedSimpArgs false
open Classical

theorem ovO_lenW (L : List It) (d : Int) (E : List Int) : (ovO L d E).length ≤ E.length := by
  unfold ovO
  split
  · exact ovN_len L d E _
  · simp
set_option maxRecDepth 8000 in
set_option maxHeartbeats 4000000 in
theorem walk_FnFirstFitLines (a : Option Addr) (n c : Nat) (zs : List Int) (w : World) (hr : IsRow .u8 w a n c zs) :
    Calls Try.prog 17 #[.slice a n c] w fun e w' => e = .returned (.bool true) ∧ Below w.heap.size w w' := by
  have hm := small_row hr
  unfold maxLen at hm
  rcases (by omega : 1048576 < n ∨ n ≤ 1048576) with hn | hn
  · go_enter Try.func17, Try.ntmps17
    go_wp2
    go_ret
    exact ⟨rfl, bl_refl _⟩
  go_enter Try.func17, Try.ntmps17
  go_wp2_with fail
  (with_reducible refine (DrawOverfullLines_w _ _ _ _ _ hr).mono ?_)
  rintro e u0 ⟨A, B, c', c2, L, d, E, rfl, hTL, hll, hd, hIL, hEl, hEw, hb, hsm⟩
  clear hr
  have CI := fun (u : World) (h1 : TL u A L.length L) (h2 : IL u B E.length E) => OverfullLines_i u A B L.length c' E.length c2 L E d h1 (by omega) h2 (by omega) hEw
  have CS := fun (u : World) (h1 : TL u A L.length L) (h2 : IL u B E.length E) => OverfullLines_s u A B L.length c' E.length c2 L E d h1 (by omega) h2 (by omega) hEw
  have VI := fun (u : World) (h1 : TL u A L.length L) (h2 : IL u B E.length E) => ValidBreaks_i u A B L.length c' E.length c2 L E h1 (by omega) h2 (by omega) hEw
  have FFI := fun (u : World) (h1 : TL u A L.length L) => FirstFit_i u A L.length c' L d h1 (by omega)
  have FL := ffO_len (L := L) (d := d)
  have FW := ffO_wf (L := L) (d := d)
  have OF := fun (u : World) (B2 : Option Addr) (c3 : Nat) (h1 : TL u A L.length L) (h2 : IL u B2 (ffO L d).length (ffO L d)) => OverfullLines_i u A B2 L.length c' (ffO L d).length c3 L (ffO L d) d h1 (by omega) h2 (by omega) FW
  have SW := small_sW hsm hll
  have FIN : (ffO L d).length ≠ 0 → (∀ j, j < L.length → (tg L j).k = 3 → (tg L j).w ≤ 0) → vbO L E = true → (ovO L d E).length = 0 → (ffO L d).length ≤ E.length := fun h0 hz hv ho => by
    cases q : (isOk L && inB d 1 10000)
    · rw [ffO_no q] at h0; exact absurd rfl h0
    · rw [Bool.and_eq_true] at q
      exact ff_least q.1 q.2 SW hz hv ho
  have hlen := ovO_lenW L d E
  have hlen2 := ovO_lenW L d (ffO L d)
  have HT := hide hTL
  have HE := hide hIL
  have HB := hide hb
  obtain ⟨V, hV⟩ : ∃ V, V = vbO L E := ⟨_, rfl⟩
  obtain ⟨R, hR⟩ : ∃ V, V = ovO L d E := ⟨_, rfl⟩
  obtain ⟨R2, hR2⟩ : ∃ V, V = ovO L d (ffO L d) := ⟨_, rfl⟩
  rw [← hR2] at OF hlen2
  clear hR2
  obtain ⟨F, hF⟩ : ∃ V, V = ffO L d := ⟨_, rfl⟩
  rw [← hV] at VI FIN
  rw [← hR] at CI CS FIN hlen
  rw [← hF] at FFI FL FW OF FIN hlen2
  have HCI := hide CI
  have HCS := hide CS
  have HVI := hide VI
  have HFF := hide FFI
  have HOF := hide OF
  replace FIN := hide FIN
  clear CI CS VI FFI OF hV hR hF hTL hIL hb hEw FW SW hsm
  go_wp2_with fail
  (with_reducible refine (HCI.out _ HT.out HE.out).mono ?_)
  rintro e u1 ⟨A1, c1, rfl, ho1, hb1⟩
  have HT1 := hide (HT.out.below hb1)
  have HE1 := hide (HE.out.below hb1)
  have HB1 := hide (bl_call hb1 HB.out)
  have HO1 := hide ho1.reads
  clear hb1 HT HE HB ho1 HCI
  go_wp2_with fail
  (with_reducible refine (HCS.out _ HT1.out HE1.out).mono ?_)
  rintro e u2 ⟨A2, c3, rfl, ho2, hb2⟩
  have HT2 := hide (HT1.out.below hb2)
  have HE2 := hide (HE1.out.below hb2)
  have HB2 := hide (bl_call hb2 HB1.out)
  have HO2 := hide (HO1.out.below hb2)
  have HP2 := hide ho2.reads
  clear hb2 HT1 HE1 HB1 HO1 ho2
  go_wp2_with fail
  (with_reducible refine (eqInts_l _ _ _ _ _ _ _ R R HO2.out HP2.out (by omega) (by omega)).mono ?_)
  rintro e w' ⟨rfl, j3, rfl⟩
  simp only [decide_true]
  have HT3 := hide (HT2.out.below (bl_drewN (bl_refl _) j3))
  have HE3 := hide (HE2.out.drewN j3)
  have HB3 := hide (bl_drewN HB2.out j3)
  have HO3 := hide (HO2.out.drewN j3)
  clear HT2 HE2 HB2 HO2 HP2
  go_wp2_with fail
  (with_reducible refine (HVI.out _ HT3.out HE3.out).mono ?_)
  rintro e u4 ⟨rfl, hb4⟩
  have HT4 := hide (HT3.out.below hb4)
  have HE4 := hide (HE3.out.below hb4)
  have HB4 := hide (bl_call hb4 HB3.out)
  have HO4 := hide (HO3.out.below hb4)
  clear hb4 HT3 HE3 HB3 HO3 HVI
  cases V
  · clear FIN HFF HOF
    go_wp2_with fail; (with_reducible refine (HCS.out _ HT4.out HE4.out).mono ?_); rintro e u5 ⟨A5, c5, rfl, ho5, hb5⟩; have HB5 := hide (bl_call hb5 HB4.out); have HO5 := hide (HO4.out.below hb5); have HP5 := hide ho5.reads; clear hb5 ho5; go_wp2_with fail; (with_reducible refine (eqInts_l _ _ _ _ _ _ _ R R HO5.out HP5.out (by omega) (by omega)).mono ?_); rintro e w' ⟨rfl, j6, rfl⟩; simp only [decide_true]; go_wp2; go_ret; exact ⟨rfl, bl_drewN HB5.out j6⟩
  rcases (by omega : 0 < R.length ∨ R.length = 0) with q | q
  · clear FIN HFF HOF
    go_wp2_with fail; (with_reducible refine (HCS.out _ HT4.out HE4.out).mono ?_); rintro e u5 ⟨A5, c5, rfl, ho5, hb5⟩; have HB5 := hide (bl_call hb5 HB4.out); have HO5 := hide (HO4.out.below hb5); have HP5 := hide ho5.reads; clear hb5 ho5; go_wp2_with fail; (with_reducible refine (eqInts_l _ _ _ _ _ _ _ R R HO5.out HP5.out (by omega) (by omega)).mono ?_); rintro e w' ⟨rfl, j6, rfl⟩; simp only [decide_true]; go_wp2; go_ret; exact ⟨rfl, bl_drewN HB5.out j6⟩
  · have q1 : ¬ 0 < R.length := by omega
    have FIN2 := hide (fun h1 h2 => FIN.out h1 h2 rfl q)
    clear HCS q FIN
    go_wp2_with fail
    (with_reducible refine (HFF.out _ HT4.out).mono ?_)
    rintro e u5 ⟨A5, c5, rfl, ho5, hb5⟩
    have HT5 := hide (HT4.out.below hb5)
    have HB5 := hide (bl_call hb5 HB4.out)
    have HO5 := hide ho5.reads
    clear hb5 ho5 HT4 HB4 HE4 HO4 HFF
    rcases (by omega : F.length = 0 ∨ 0 < F.length) with g | g
    · have g1 : ((F.length : Int) == 0) = true := beq_iff_eq.2 (by omega)
      clear FIN2 HOF
      go_wp2
      go_ret
      exact ⟨rfl, HB5.out⟩
    · have g1 : ((F.length : Int) == 0) = false := beq_eq_false_iff_ne.2 (by omega)
      go_wp2_with fail
      (with_reducible refine (HOF.out _ _ _ HT5.out HO5.out).mono ?_)
      rintro e u6 ⟨A6, c6, rfl, ho6, hb6⟩
      have HT6 := hide (HT5.out.below hb6)
      have HB6 := hide (bl_call hb6 HB5.out)
      clear hb6 ho6 HT5 HB5 HO5 HOF
      rcases (by omega : 0 < R2.length ∨ ¬ 0 < R2.length) with q2 | q2
      · clear FIN2
        go_wp2
        go_ret
        exact ⟨rfl, HB6.out⟩
      · go_wp2
        go_loop [8] (fun i => ∃ (k : Nat), k ≤ L.length ∧ i = .int .i64 k ∧ ∀ j, j < k → (tg L j).k = 3 → (tg L j).w ≤ 0) (fun i => L.length - (intOf i).toNat)
        case atStart => exact ⟨0, Nat.zero_le _, rfl, fun j hj => absurd hj (Nat.not_lt_zero _)⟩
        case round =>
          obtain ⟨k, hk, rfl, hal⟩ := hrel
          have HAL := hide hal
          clear hal
          by_cases hlt : k < L.length
          · obtain ⟨b, o, rfl, hb0, c0, c1, _, _, _, _⟩ := HT6.out.at6 hlt
            have NX := hide (show (¬ ((tg L k).k = 3 ∧ 0 < (tg L k).w)) → ∀ j, j < k + 1 → (tg L j).k = 3 → (tg L j).w ≤ 0 from fun hn j hj h3 => by
              rcases (by omega : j < k ∨ j = k) with e | e
              · exact HAL.out j e h3
              · subst e
                rcases (by omega : (tg L j).w ≤ 0 ∨ 0 < (tg L j).w) with e2 | e2
                · exact e2
                · exact absurd ⟨h3, e2⟩ hn)
            obtain ⟨x, hx⟩ : ∃ y, y = (tg L k).k := ⟨_, rfl⟩
            obtain ⟨y, hy⟩ : ∃ y, y = (tg L k).w := ⟨_, rfl⟩
            rw [← hx] at c0
            rw [← hy] at c1
            rw [← hx, ← hy] at NX
            clear hx hy HAL
            rcases (by omega : x = 3 ∨ x ≠ 3) with e3 | e3
            · subst e3
              rcases (by omega : 0 < y ∨ ¬ 0 < y) with e4 | e4
              · clear NX FIN2
                go_wp2
                go_ret
                exact ⟨rfl, HB6.out⟩
              · go_wp2
                go_round
                case rel => exact ⟨k + 1, by omega, by go_num, NX.out (fun q => e4 q.2)⟩
                case measure => simp [intOf]; omega
            · have e5 : (x == 3) = false := beq_eq_false_iff_ne.2 e3
              have NX2 := hide (NX.out (fun q => e3 q.1))
              clear NX e3
              go_wp2
              go_round
              case rel => exact ⟨k + 1, by omega, by go_num, NX2.out⟩
              case measure => simp [intOf]; omega
          · have hkL : k = L.length := by omega
            have F2 : F.length ≤ E.length := FIN2.out (by omega) (fun j hj => HAL.out j (by omega))
            have g2 : (F.length : Int) ≤ (E.length : Int) := by omega
            clear FIN2 HAL
            go_wp2
            go_ret
            exact ⟨rfl, HB6.out⟩
set_option maxRecDepth 100000 in
theorem lifted_FnFirstFitLines (os : Os) (started : os.Started) (H : Type) (enc : TypeId × Value → H) :
    ReturnsInHanded {} Try.checked os 17 .any (Rows.fnFirstFitLinesSpec.pre6 enc Try.prog Try.f17 Rows.fnFirstFitLinesRow.domain false) (Rows.fnFirstFitLinesSpec.post enc Try.prog Try.f17 false true false false) := by
  refine returnsInHanded_of_change (C := Try.checked) own_knob started (by kernel_rfl) Try.func17
    (ChangeSpec.witness6 (enc := enc) (C := Try.checked) false ⟨#[], #[.slice none 0 0], []⟩ 8 (by kernel_rfl) (by kernel_rfl) (by kernel_rfl) (by kernel_rfl)) ?_
  intro W base args ds gs before hval0 hW hcnd _
  have hval : ∀ (j : Nat) t v, Try.f17.params[j]? = some t → args[j]? = some v → Value.okWide Try.prog W .any base t v := hval0
  have hW' := hW
  obtain ⟨p, q, hA0, hV, rfl, hfz, hnd⟩ := hW
  have hA : DataW.TrodAll enc Try.prog W 0 (fun _ => true) true Try.f17.params.toList args.toList ds p := hA0
  rw [Try.params17] at hA hval
  obtain ⟨v0, vs0, d0, ds0, p0, q0, hargs, rfl, rfl, zh0, r0⟩ := trodAll_cons hA
  obtain ⟨rfl, rfl, rfl⟩ := trodAll_nil r0
  obtain rfl : args = #[v0] := by cases args; simp_all
  obtain ⟨rfl, rfl⟩ := trodVars_none hV
  have zk0 := zh0
  have zl0 : ∀ x ∈ p0, x.block < W.heap.size := by obtain ⟨m, hm⟩ := zk0; exact DataW.trod_lt m _ _ _ hm
  clear hA0 hval0
  obtain ⟨a_code, n_code, c_code, rfl⟩ := okWide_slice Try.underlying29 (hval 0 29 v0 rfl rfl)
  obtain ⟨code, w_code⟩ := isRow_of Try.underlying29 Try.underlying5 (by kernel_rfl) zh0
  refine (walk_FnFirstFitLines a_code n_code c_code code W w_code).mono fun e W' ⟨he, bel⟩ => ?_
  subst he
  exact ⟨_, rfl, _, _, _, [], _, [], hW', trodAll_mk1 (shut_bool Try.underlying4 _), (trodAll_cons_mk (Below.trod laid_out (by kernel_rfl) (of_decide_eq_true (by kernel_rfl)) zk0 bel zl0) trodAll_mk0), rfl, bel.frame _, fun h => by cases h⟩

/-- The statement. -/
theorem FnFirstFitLines_holds : Rows.FnFirstFitLinesSaid :=
  OpenClaim.holds_of_wide 17 Try.f17 rfl rfl rfl rfl rfl rfl rfl ⟨rfl, rfl, rfl, rfl, rfl⟩ rfl rfl rfl rfl rfl (by kernel_rfl) Try.func17 (by unfold joinedFacts; rw [may_enter, lifts_final, make_cut]; kernel_rfl)
    (of_decide_eq_true (by kernel_rfl)) (by unfold Func.isWrapper; first | (rw [if_pos (by decide +kernel)]; kernel_rfl) | (rw [if_neg (by decide +kernel)]; exact ⟨rfl, rfl⟩))
    (fun os started H enc _ => lifted_FnFirstFitLines os started H enc)
end Go.Proofs.Ytmncdpiojhgcdaa
