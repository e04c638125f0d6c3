/- The law on overfull lines holds for every code: they are those that do not fit. No condition. -/
import Derived.Test.YtafddofajfcffaaJn
import Derived.Test.YtafddofajfcffaaRc
namespace Go.Proofs.Ytafddofajfcffaa
open Go.ChangeShapes Go.WideShapes Go.ChangeAt Go.RowKit
set_option linter.unusedVariables false
set_option linter.unusedSimpArgs false
open Classical

theorem ovN_mem {L : List It} {d : Int} {E : List Int} {k : Nat} : ∀ {n : Nat}, ((k : Int) ∈ ovN L d E n) ↔ (k < n ∧ (ftL L (frm (-1) E k) (ng E k) d).1 = 4)
  | 0 => by simp [ovN]
  | n + 1 => by
    have IH := ovN_mem (L := L) (d := d) (E := E) (k := k) (n := n)
    by_cases h : (ftL L (frm (-1) E n) (ng E n) d).1 = 4
    · rw [ovN_yes h, List.mem_append, IH]
      simp only [List.mem_singleton]
      constructor
      · rintro (⟨a, b⟩ | a)
        · exact ⟨by omega, b⟩
        · obtain rfl : k = n := by omega
          exact ⟨by omega, h⟩
      · rintro ⟨a, b⟩
        rcases (by omega : k < n ∨ k = n) with q | q
        · exact .inl ⟨q, b⟩
        · exact .inr (by omega)
    · rw [ovN_no h, IH]
      constructor
      · rintro ⟨a, b⟩
        exact ⟨by omega, b⟩
      · rintro ⟨a, b⟩
        rcases (by omega : k < n ∨ k = n) with q | q
        · exact ⟨q, b⟩
        · subst q; exact absurd b h
theorem ovO_lenP (L : List It) (d : Int) (E : List Int) : (ovO L d E).length ≤ E.length := by
  unfold ovO
  split
  · exact ovN_len L d E _
  · simp
set_option maxRecDepth 8000 in
set_option maxHeartbeats 4000000 in
theorem walk_FnOverfullLines (a : Option Addr) (n c : Nat) (zs : List Int) (w : World) (hr : IsRow .u8 w a n c zs) :
    Calls Try.prog 14 #[.slice a n c] w fun e w' => e = .returned (.bool true) ∧ Below w.heap.size w w' := by
  have hm := small_row hr
  unfold maxLen at hm
  rcases (by omega : 1048576 < n ∨ n ≤ 1048576) with hn | hn
  · go_enter Try.func14, Try.ntmps14
    go_wp2
    go_ret
    exact ⟨rfl, bl_refl _⟩
  go_enter Try.func14, Try.ntmps14
  go_wp2_with fail
  (with_reducible refine (DrawOverfullLines_any _ _ _ _ _ hr).mono ?_)
  rintro e u0 ⟨A, B, c', c2, L, d, E, rfl, hTL, hll, hd, hIL, hEl, hEw, hb⟩
  clear hr
  have CI := fun (u : World) (h1 : TL u A L.length L) (h2 : IL u B E.length E) => OverfullLines_i u A B L.length c' E.length c2 L E d h1 (by omega) h2 (by omega) hEw
  have CS := fun (u : World) (h1 : TL u A L.length L) (h2 : IL u B E.length E) => OverfullLines_s u A B L.length c' E.length c2 L E d h1 (by omega) h2 (by omega) hEw
  have VI := fun (u : World) (h1 : TL u A L.length L) (h2 : IL u B E.length E) => ValidBreaks_i u A B L.length c' E.length c2 L E h1 (by omega) h2 (by omega) hEw
  have FI := fun (u : World) (h1 : TL u A L.length L) (k : Nat) (hk : k < E.length) => FitLine_i u A L.length c' L h1 (by omega) (frm (-1) E k) (ng E k) d (frm_wf hEw (by omega)) (hEw k hk)
  have YES := fun h => ovO_yes (L := L) (d := d) (E := E) h
  have VT := fun (h : vbO L E = true) => (cbV_true (by rwa [vbO_eq] at h)).1
  have hlen := ovO_lenP L d E
  have HT := hide hTL
  have HE := hide hIL
  have HB := hide hb
  obtain ⟨V, hV⟩ : ∃ V, V = vbO L E := ⟨_, rfl⟩
  obtain ⟨R, hR⟩ : ∃ V, V = ovO L d E := ⟨_, rfl⟩
  rw [← hV] at VI YES VT
  rw [← hR] at CI CS YES hlen
  have HCI := hide CI
  have HCS := hide CS
  have HVI := hide VI
  have HFI := hide FI
  replace YES := hide YES
  replace VT := hide VT
  clear CI CS VI FI hV hR hTL hIL hb hEw
  go_wp2_with fail
  (with_reducible refine (HCI.out _ HT.out HE.out).mono ?_)
  rintro e u1 ⟨A1, c1, rfl, ho1, hb1⟩
  have HT1 := hide (HT.out.below hb1)
  have HE1 := hide (HE.out.below hb1)
  have HB1 := hide (bl_call hb1 HB.out)
  have HO1 := hide ho1.reads
  clear hb1 HT HE HB ho1 HCI
  go_wp2_with fail
  (with_reducible refine (HCS.out _ HT1.out HE1.out).mono ?_)
  rintro e u2 ⟨A2, c3, rfl, ho2, hb2⟩
  have HT2 := hide (HT1.out.below hb2)
  have HE2 := hide (HE1.out.below hb2)
  have HB2 := hide (bl_call hb2 HB1.out)
  have HO2 := hide (HO1.out.below hb2)
  have HP2 := hide ho2.reads
  clear hb2 HT1 HE1 HB1 HO1 ho2
  go_wp2_with fail
  (with_reducible refine (eqInts_l _ _ _ _ _ _ _ R R HO2.out HP2.out (by omega) (by omega)).mono ?_)
  rintro e w' ⟨rfl, j3, rfl⟩
  simp only [decide_true]
  have HT3 := hide (HT2.out.below (bl_drewN (bl_refl _) j3))
  have HE3 := hide (HE2.out.drewN j3)
  have HB3 := hide (bl_drewN HB2.out j3)
  have HO3 := hide (HO2.out.drewN j3)
  clear HT2 HE2 HB2 HO2 HP2
  go_wp2_with fail
  (with_reducible refine (HVI.out _ HT3.out HE3.out).mono ?_)
  rintro e u4 ⟨rfl, hb4⟩
  have HT4 := hide (HT3.out.below hb4)
  have HE4 := hide (HE3.out.below hb4)
  have HB4 := hide (bl_call hb4 HB3.out)
  have HO4 := hide (HO3.out.below hb4)
  clear hb4 HT3 HE3 HB3 HO3 HVI
  cases V
  · clear YES VT HFI
    go_wp2_with fail; (with_reducible refine (HCS.out _ HT4.out HE4.out).mono ?_); rintro e u5 ⟨A5, c5, rfl, ho5, hb5⟩; have HB5 := hide (bl_call hb5 HB4.out); have HO5 := hide (HO4.out.below hb5); have HP5 := hide ho5.reads; clear hb5 ho5; go_wp2_with fail; (with_reducible refine (eqInts_l _ _ _ _ _ _ _ R R HO5.out HP5.out (by omega) (by omega)).mono ?_); rintro e w' ⟨rfl, j6, rfl⟩; simp only [decide_true]; go_wp2; go_ret; exact ⟨rfl, bl_drewN HB5.out j6⟩
  rcases (by omega : d < 1 ∨ (1 ≤ d ∧ 10000 < d) ∨ (1 ≤ d ∧ d ≤ 10000)) with q | ⟨q, q'⟩ | ⟨q, q'⟩
  · clear YES VT HFI
    go_wp2_with fail; (with_reducible refine (HCS.out _ HT4.out HE4.out).mono ?_); rintro e u5 ⟨A5, c5, rfl, ho5, hb5⟩; have HB5 := hide (bl_call hb5 HB4.out); have HO5 := hide (HO4.out.below hb5); have HP5 := hide ho5.reads; clear hb5 ho5; go_wp2_with fail; (with_reducible refine (eqInts_l _ _ _ _ _ _ _ R R HO5.out HP5.out (by omega) (by omega)).mono ?_); rintro e w' ⟨rfl, j6, rfl⟩; simp only [decide_true]; go_wp2; go_ret; exact ⟨rfl, bl_drewN HB5.out j6⟩
  · have q2 : ¬ d < 1 := by omega
    clear YES VT HFI
    go_wp2_with fail; (with_reducible refine (HCS.out _ HT4.out HE4.out).mono ?_); rintro e u5 ⟨A5, c5, rfl, ho5, hb5⟩; have HB5 := hide (bl_call hb5 HB4.out); have HO5 := hide (HO4.out.below hb5); have HP5 := hide ho5.reads; clear hb5 ho5; go_wp2_with fail; (with_reducible refine (eqInts_l _ _ _ _ _ _ _ R R HO5.out HP5.out (by omega) (by omega)).mono ?_); rintro e w' ⟨rfl, j6, rfl⟩; simp only [decide_true]; go_wp2; go_ret; exact ⟨rfl, bl_drewN HB5.out j6⟩
  · have q2 : ¬ d < 1 := by omega
    have q3 : ¬ 10000 < d := by omega
    have eR := YES.out (by rw [inB_yes q q']; rfl)
    have hok := VT.out rfl
    have MEM := hide (fun (k : Nat) (hk : k < E.length) => show ((k : Int) ∈ R) ↔ (ftO L (frm (-1) E k) (ng E k) d).1 = 4 from by
      rw [eR, ovN_mem, ftO_yes hok]
      exact ⟨fun h => h.2, fun h => ⟨hk, h⟩⟩)
    clear YES VT eR hok HCS
    go_wp2
    go_loopw [7, 8] (fun f i u => ∃ (k : Nat), k ≤ E.length ∧ f = .int .i64 (frm (-1) E k) ∧ i = .int .i64 k ∧ Below u4.heap.size u4 u) (fun _ i _ => E.length - (intOf i).toNat)
    case atStart => exact ⟨0, Nat.zero_le _, by rw [frm_zero], rfl, Below.refl _ _⟩
    case round =>
      obtain ⟨k, hk, rfl, rfl, hbl⟩ := hrel
      have HBL := hide hbl
      by_cases hlt : k < E.length
      · obtain ⟨b, o, rfl, hb0, d0⟩ := HE4.out.at_ hlt
        have c0 := (hbl.cell (p := ⟨b, o + k, none⟩) hb0).trans d0
        have FF := HFI.out wr (HT4.out.below hbl) k hlt
        have ME := MEM.out k hlt
        have NF := hide (show frm (-1) E (k + 1) = ng E k by rw [frm_succ])
        have HII := fun (u : World) (hu : IL u A1 R.length R) => isIn_l u A1 R.length c1 R (k : Int) hu (by omega)
        rw [show decide ((k : Int) ∈ R) = decide ((ftO L (frm (-1) E k) (ng E k) d).1 = 4) from decide_eq_decide.2 ME] at HII
        obtain ⟨r1, hr1⟩ : ∃ r, r = (ftO L (frm (-1) E k) (ng E k) d).1 := ⟨_, rfl⟩
        obtain ⟨r2, hr2⟩ : ∃ r, r = (ftO L (frm (-1) E k) (ng E k) d).2 := ⟨_, rfl⟩
        rw [← hr1] at FF HII
        rw [← hr2] at FF
        obtain ⟨x, hx⟩ : ∃ r, r = frm (-1) E k := ⟨_, rfl⟩
        obtain ⟨y, hy⟩ : ∃ r, r = ng E k := ⟨_, rfl⟩
        rw [← hx] at FF ⊢
        rw [← hy] at FF c0 NF
        have HFF := hide FF
        have HIS := hide HII
        clear FF HII ME hr1 hr2 hx hy d0 hbl
        go_wp2_with fail
        (with_reducible refine HFF.out.mono ?_)
        rintro e u5 ⟨rfl, hb5⟩
        have c0 := keep_cell hb5 c0
        have HB5 := hide (bl_call hb5 HBL.out)
        have HO5 := hide (HO4.out.below HB5.out)
        clear hb5
        rcases (by omega : r1 = 4 ∨ r1 ≠ 4) with rfl | qq
        · go_wp2_with fail
          (with_reducible refine (HIS.out _ HO5.out).mono ?_)
          rintro e w' ⟨rfl, rfl⟩
          go_wp2
          go_roundw
          case rel => exact ⟨k + 1, by omega, by rw [NF.out], by go_num, HB5.out⟩
          case measure => simp [intOf]; omega
        · have g1 : (r1 == 4) = false := beq_eq_false_iff_ne.2 qq
          have g2 : decide (r1 = 4) = false := decide_eq_false qq
          rw [g2] at HIS
          clear qq
          go_wp2_with fail
          (with_reducible refine (HIS.out _ HO5.out).mono ?_)
          rintro e w' ⟨rfl, rfl⟩
          go_wp2
          go_roundw
          case rel => exact ⟨k + 1, by omega, by rw [NF.out], by go_num, HB5.out⟩
          case measure => simp [intOf]; omega
      · go_wp2
        go_ret
        exact ⟨rfl, bl_call HBL.out HB4.out⟩
set_option maxRecDepth 100000 in
theorem lifted_FnOverfullLines (os : Os) (started : os.Started) (H : Type) (enc : TypeId × Value → H) :
    ReturnsInHanded {} Try.checked os 14 .any (Rows.fnOverfullLinesSpec.pre6 enc Try.prog Try.f14 Rows.fnOverfullLinesRow.domain false) (Rows.fnOverfullLinesSpec.post enc Try.prog Try.f14 false true false false) := by
  refine returnsInHanded_of_change (C := Try.checked) own_knob started (by kernel_rfl) Try.func14
    (ChangeSpec.witness6 (enc := enc) (C := Try.checked) false ⟨#[], #[.slice none 0 0], []⟩ 8 (by kernel_rfl) (by kernel_rfl) (by kernel_rfl) (by kernel_rfl)) ?_
  intro W base args ds gs before hval0 hW hcnd _
  have hval : ∀ (j : Nat) t v, Try.f14.params[j]? = some t → args[j]? = some v → Value.okWide Try.prog W .any base t v := hval0
  have hW' := hW
  obtain ⟨p, q, hA0, hV, rfl, hfz, hnd⟩ := hW
  have hA : DataW.TrodAll enc Try.prog W 0 (fun _ => true) true Try.f14.params.toList args.toList ds p := hA0
  rw [Try.params14] at hA hval
  obtain ⟨v0, vs0, d0, ds0, p0, q0, hargs, rfl, rfl, zh0, r0⟩ := trodAll_cons hA
  obtain ⟨rfl, rfl, rfl⟩ := trodAll_nil r0
  obtain rfl : args = #[v0] := by cases args; simp_all
  obtain ⟨rfl, rfl⟩ := trodVars_none hV
  have zk0 := zh0
  have zl0 : ∀ x ∈ p0, x.block < W.heap.size := by obtain ⟨m, hm⟩ := zk0; exact DataW.trod_lt m _ _ _ hm
  clear hA0 hval0
  obtain ⟨a_code, n_code, c_code, rfl⟩ := okWide_slice Try.underlying54 (hval 0 54 v0 rfl rfl)
  obtain ⟨code, w_code⟩ := isRow_of Try.underlying54 Try.underlying5 (by kernel_rfl) zh0
  refine (walk_FnOverfullLines a_code n_code c_code code W w_code).mono fun e W' ⟨he, bel⟩ => ?_
  subst he
  exact ⟨_, rfl, _, _, _, [], _, [], hW', trodAll_mk1 (shut_bool Try.underlying4 _), (trodAll_cons_mk (Below.trod laid_out (by kernel_rfl) (of_decide_eq_true (by kernel_rfl)) zk0 bel zl0) trodAll_mk0), rfl, bel.frame _, fun h => by cases h⟩

/-- The statement. -/
theorem FnOverfullLines_holds : Rows.FnOverfullLinesSaid :=
  OpenClaim.holds_of_wide 14 Try.f14 rfl rfl rfl rfl rfl rfl rfl ⟨rfl, rfl, rfl, rfl, rfl⟩ rfl rfl rfl rfl rfl (by kernel_rfl) Try.func14 (by unfold joinedFacts; rw [may_enter, lifts_final, make_cut]; kernel_rfl)
    (of_decide_eq_true (by kernel_rfl)) (by unfold Func.isWrapper; first | (rw [if_pos (by decide +kernel)]; kernel_rfl) | (rw [if_neg (by decide +kernel)]; exact ⟨rfl, rfl⟩))
    (fun os started H enc _ => lifted_FnOverfullLines os started H enc)
end Go.Proofs.Ytafddofajfcffaa
