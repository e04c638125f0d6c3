/- Filled texts have all words, for every code. No condition. -/
import Derived.Test.YtlfhfbeacleggaaJn
import Derived.Test.YtlfhfbeacleggaaFtM
namespace Go.Proofs.Ytlfhfbeacleggaa
open Go.ChangeShapes Go.WideShapes Go.ChangeAt Go.RowKit
set_option linter.unusedVariables false
set_option linter.unusedSimpArgs false

theorem ext_oneF {s : ByteArray} {k : Nat} (h : k < s.size) : (s.extract k (k + 1)).data.toList = [s[k]] ∧ (s.extract k (k + 1)).size = 1 := by
  have e := Lib.extract_data s k (k + 1)
  have e1 : (s.extract k (k + 1)).data.toList = [s[k]] := by
    rw [e, show k + 1 - k = 1 from by omega, List.take_one, List.head?_drop, List.getElem?_eq_getElem (by simpa using h)]
    rfl
  refine ⟨e1, ?_⟩
  have := Lib.size_eq (s.extract k (k + 1))
  rw [e1] at this
  simpa using this

/-- s[k:k+1]. -/
theorem slice_oneF {s : ByteArray} {k : Nat} (h : k < s.size) (W : World) : (Instr.slice 9 (.string s) (some (.int .i64 (k : Int))) (some (.int .i64 ((k : Int) + 1))) none).run Try.prog W = .ok (.string (s.extract k (k + 1))) W := by
  have := run_slice_string (P := Try.prog) W 9 s .i64 .i64 k ((k : Int) + 1) Try.underlying9 (by omega) (by omega) (by omega)
  rw [this]
  congr 3

theorem cwb_acc {acc s : ByteArray} {l : List ByteArray} {k : Nat} (h : acc.data.toList = cwb l k) (hs : s = sg l k) : (acc ++ s).data.toList = cwb l (k + 1) := by
  subst hs
  simp [cwb, ByteArray.data_append, h]
theorem ba_ext {x y : ByteArray} (h : x.data.toList = y.data.toList) : x = y := by
  apply ByteArray.ext
  exact Array.toList_inj.1 h
set_option maxRecDepth 8000 in
set_option maxHeartbeats 4000000 in
theorem walk_FnFillText (a : Option Addr) (n c : Nat) (zs : List Int) (w : World) (hr : IsRow .u8 w a n c zs) :
    Calls Try.prog 4 #[.slice a n c] w fun e w' => e = .returned (.bool true) ∧ Below w.heap.size w w' := by
  have hm := small_rowl hr
  unfold maxLen at hm
  rcases (by omega : 1048576 < n ∨ n ≤ 1048576) with hn | hn
  · go_enter Try.func4, Try.ntmps4
    go_wp2
    go_ret
    exact ⟨rfl, bl_refl _⟩
  go_enter Try.func4, Try.ntmps4
  go_wp2_with fail
  (with_reducible refine (DrawFillText_any _ _ _ _ _ hr).mono ?_)
  rintro e u0 ⟨A, cc, l, wd, rfl, hol, hll, hwq, ⟨wd0, wd1⟩, hb⟩
  clear hr
  have R := hide hol.reads
  have HSZ := hide (fun k (hk : k < l.length) => show (sg l k).size ≤ 1048576 by have := hwq k hk; omega)
  have HWQ := hide hwq
  have HB := hide hb
  have hcap := OS.capF hol
  clear hol hb hwq
  have FI := hide (fun (V : World) (h : SL V A l.length l) => FillText_i V A l.length cc l wd h hcap HSZ.out (by omega))
  have FS := hide (fun (V : World) (h : SL V A l.length l) => FillText_s V A l.length cc l wd h hcap HSZ.out (by omega))
  have hL40 := ftO_len (l := l) (wd := wd)
  have FACT := hide (fun (hne : 0 < (ftO l wd).length) => show ∃ E : List Int, E.length = (ftO l wd).length ∧ frm 0 E E.length = (l.length : Int) ∧ ∀ k, k < E.length → ∃ f t : Nat, frm 0 E k = f ∧ ng E k = t ∧ f < t ∧ t ≤ l.length ∧ (t = l.length ↔ k + 1 = E.length) ∧ LnK l wd f t (sg (ftO l wd) k) by
    cases q : wok l && inB wd 20 60
    · rw [ftO_no q] at hne; simp at hne
    · have hY := ftO_yes q
      have key : ∀ k, k < (wW l wd).length → ∃ f t : Nat, frm 0 (wW l wd) k = f ∧ ng (wW l wd) k = t ∧ f < t ∧ t ≤ l.length ∧ (t = l.length ↔ k + 1 = (wW l wd).length) ∧ LnK l wd f t (sg (ftO l wd) k) := by
        intro k hk
        obtain ⟨f, t, e1, e2, e3, e4, e5, e6, e7⟩ := ww_line q hk
        refine ⟨f, t, e1, e2, e3, e4, e7, ?_⟩
        have hg : ∀ m, k < m → sg (ftT l wd (wW l wd) m) k = ln l wd f t := by
          intro m
          induction m with
          | zero => intro h; omega
          | succ m ih =>
            intro h
            rcases (by omega : k < m ∨ k = m) with e | e
            · show sg (ftT l wd (wW l wd) m ++ [_]) k = _
              rw [← ih e]
              unfold sg
              simp [List.getD, List.getElem?_append_left (show k < (ftT l wd (wW l wd) m).length by rw [ftT_len]; exact e)]
            · subst e
              have := sg_end (l := ftT l wd (wW l wd) k) (x := ln l wd (frm 0 (wW l wd) k).toNat (ng (wW l wd) k).toNat)
              rw [ftT_len] at this
              show sg (ftT l wd (wW l wd) k ++ [_]) k = _
              rw [this, e1, e2]
              rfl
        rw [hY, hg _ hk]
        obtain ⟨h1, _, _⟩ := ww_parts q
        exact ln_k h1 e3 e4 e5
      rw [hY, ftT_len] at hne
      refine ⟨wW l wd, by rw [hY, ftT_len], ?_, key⟩
      obtain ⟨m, hm⟩ : ∃ m, (wW l wd).length = m + 1 := ⟨(wW l wd).length - 1, by omega⟩
      obtain ⟨f, t, e1, e2, e3, e4, e5, _⟩ := key m (by omega)
      rw [hm, frm_succ, e2, e5.2 hm.symm])
  unfold RetT at FI FS
  obtain ⟨L, hL⟩ : ∃ L, L = ftO l wd := ⟨_, rfl⟩
  rw [← hL] at FI FS FACT hL40
  clear hL
  go_wp2_with fail
  (with_reducible refine (FI.out _ R.out).mono ?_)
  rintro e u1 ⟨A1, c1, rfl, ho1, hb1⟩
  have R1 := hide (R.out.below hb1)
  have HB1 := hide (bl_call hb1 HB.out)
  clear hb1
  go_wp2_with fail
  (with_reducible refine (FS.out _ R1.out).mono ?_)
  rintro e u3 ⟨A3, c3, rfl, ho3, hb3⟩
  have T1 := hide (ho1.below hb3).reads
  have T3 := hide ho3.reads
  have R3 := hide (R1.out.below hb3)
  have HB3 := hide (bl_call hb3 HB1.out)
  clear ho1 ho3 hb3
  rcases Nat.eq_zero_or_pos L.length with h0 | h0
  · have q0 : ((L.length : Int) == 0) = true := beq_iff_eq.2 (by omega)
    clear h0
    go_wp2_with fail
    (with_reducible refine (eqTexts_l _ _ _ _ _ _ _ L L T1.out T3.out (by omega) (by omega)).mono ?_)
    rintro e u4 ⟨rfl, j4, rfl⟩
    simp only [decide_true]
    go_wp2_with fail
    (with_reducible refine (FS.out _ (R3.out.drewN j4)).mono ?_)
    rintro e u5 ⟨A5, c5, rfl, ho5, hb5⟩
    have HB5 := hide (bl_call hb5 (bl_drewN HB3.out j4))
    have T5 := hide ((T1.out.drewN j4).below hb5)
    clear hb5
    go_wp2_with fail
    (with_reducible refine (eqTexts_l _ _ _ _ _ _ _ L L T5.out ho5.reads (by omega) (by omega)).mono ?_)
    rintro e u6 ⟨rfl, j6, rfl⟩
    simp only [decide_true]
    go_wp2
    go_ret
    exact ⟨rfl, bl_drewN HB5.out _⟩
  · have q0 : ((L.length : Int) == 0) = false := beq_eq_false_iff_ne.2 (by omega)
    obtain ⟨E, hEl, HEN, HK⟩ := FACT.out h0
    have HLE := hide hEl
    have HE := hide HEN
    have HKK := hide HK
    have CL := hide (fun (k : Nat) (hk : k ≤ l.length) => show (cwb l k).length ≤ 300 by have := cwb_len HWQ.out hk; omega)
    clear hEl HEN HK FACT h0
    go_wp2_with fail
    (with_reducible refine (eqTexts_l _ _ _ _ _ _ _ L L T1.out T3.out (by omega) (by omega)).mono ?_)
    rintro e u4 ⟨rfl, j4, rfl⟩
    simp only [decide_true]
    obtain ⟨V, hV⟩ : ∃ V, V = u3.drewN j4 := ⟨_, rfl⟩
    have T4 := hide (show SL V A1 L.length L by rw [hV]; exact T1.out.drewN j4)
    have R4 := hide (show SL V A l.length l by rw [hV]; exact R3.out.drewN j4)
    have HB4 := hide (show Below w.heap.size w V by rw [hV]; exact bl_drewN HB3.out j4)
    rw [← hV]
    clear hV T1 T3 R3 HB3 FI FS
    go_wp2
    go_loop [6, 7] (fun v i => ∃ (k p : Nat) (acc : ByteArray), k ≤ L.length ∧ i = .int .i64 k ∧ v = .string acc ∧ frm 0 E k = p ∧ p ≤ l.length ∧ acc.data.toList = cwb l p) (fun _ i => L.length - (intOf i).toNat)
    case atStart => exact ⟨0, 0, ⟨#[]⟩, by omega, rfl, rfl, rfl, by omega, rfl⟩
    case round =>
      obtain ⟨k, f, acc, hk, rfl, rfl, hfr, hfl, hac⟩ := hrel
      have HFR := hide hfr
      have HAC := hide hac
      have has : acc.size ≤ 300 := by
        have := CL.out f hfl
        rw [← hac] at this
        simpa using this
      clear hfr hac
      by_cases hlt : k < L.length
      · obtain ⟨f', t, e1, e2, e3, e4, e5, e6⟩ := HKK.out k (by have := HLE.out; omega)
        obtain rfl : f' = f := by have := HFR.out; omega
        obtain ⟨b, o, rfl, _, d0⟩ := T4.out.at_ hlt
        have hle := e6.le
        have HALL := hide e6.all
        have HEQ := hide e6.eq
        have H5 := hide e5
        have HNX := hide (show frm 0 E (k + 1) = t by rw [frm_succ, e2])
        obtain ⟨z, hz⟩ : ∃ z, z = sg L k := ⟨_, rfl⟩
        rw [← hz] at d0 hle HALL HEQ
        have hz60 : z.size ≤ 61 := by omega
        clear hz e6 e5 e2 e1
        go_wp2
        go_loop [6, 8, 9] (fun v s i => ∃ (p q : Nat) (ac2 : ByteArray), p ≤ z.size ∧ i = .int .i64 p ∧ v = .string ac2 ∧ s = .int .i64 q ∧ q = spb (z.data.toList.take p) ∧ q ≤ p ∧ ac2.data.toList = acc.data.toList ++ ltb (z.data.toList.take p)) (fun _ _ i => z.size - (intOf i).toNat)
        case atStart => exact ⟨0, 0, acc, by omega, rfl, rfl, rfl, by simp [spb], by omega, by simp [ltb]⟩
        case round =>
          obtain ⟨p, q, ac2, hp, rfl, rfl, rfl, hq, hqp, hac2⟩ := hrel
          have HQ := hide hq
          have HA2 := hide hac2
          have ha2 : ac2.size ≤ 700 := by
            have e : ac2.data.toList.length = ac2.size := by simp
            have e0 : acc.data.toList.length = acc.size := by simp
            have e3 : (ltb (z.data.toList.take p)).length ≤ p := by
              refine Nat.le_trans (List.length_filter_le _ _) ?_
              simp
              omega
            rw [hac2, List.length_append] at e
            omega
          clear hq hac2
          by_cases hpl : p < z.size
          · have ST := ltb_step hpl
            have hb : z[p].toNat < 256 := UInt8.toNat_lt _
            have hsl := slice_oneF hpl
            obtain ⟨gx, gz⟩ := ext_oneF hpl
            have ki : (p : Int) < (z.size : Int) := by omega
            rcases (by omega : (z[p].toNat : Int) = 32 ∨ ¬ (z[p].toNat : Int) = 32) with h32 | h32
            · have hq2 : ((z[p].toNat : Int) == 32) = true := beq_iff_eq.2 h32
              have N1 := hide (show q + 1 = spb (z.data.toList.take (p + 1)) by rw [ST, spb_app, ← HQ.out]; congr 1; unfold spb; rw [List.filter_cons_of_pos (by simp; omega)]; rfl)
              have N2 := hide (show ac2.data.toList = acc.data.toList ++ ltb (z.data.toList.take (p + 1)) by rw [ST, ltb_app, HA2.out]; unfold ltb; rw [show List.filter (fun c : UInt8 => c.toNat != 32) [z[p]] = [] from by rw [List.filter_cons_of_neg (by simp; omega)]; rfl, List.append_nil])
              clear ST hsl gx gz
              go_wp2
              go_round
              case rel => exact ⟨p + 1, q + 1, ac2, by omega, by go_num, rfl, by go_num, N1.out, by omega, N2.out⟩
              case measure => simp [intOf]; omega
            · have hq2 : ((z[p].toNat : Int) == 32) = false := beq_eq_false_iff_ne.2 h32
              have N1 := hide (show q = spb (z.data.toList.take (p + 1)) by rw [ST, spb_app, ← HQ.out]; unfold spb; rw [show List.filter (fun c : UInt8 => c.toNat == 32) [z[p]] = [] from by rw [List.filter_cons_of_neg (by simp; omega)]; rfl]; rfl)
              have N2 := hide (show (ac2 ++ z.extract p (p + 1)).data.toList = acc.data.toList ++ ltb (z.data.toList.take (p + 1)) by rw [ST, ltb_app, ByteArray.data_append, Array.toList_append, HA2.out, gx, List.append_assoc]; congr 2; unfold ltb; rw [List.filter_cons_of_pos (by simp; omega)]; rfl)
              clear ST gx gz
              go_wp2
              go_round
              case rel => exact ⟨p + 1, q, _, by omega, by go_num, rfl, rfl, N1.out, by omega, N2.out⟩
              case measure => simp [intOf]; omega
          · have hpz : p = z.size := by omega
            have htk : z.data.toList.take p = z.data.toList := List.take_of_length_le (by simp; omega)
            have NA := hide (show ac2.data.toList = cwb l t by rw [HA2.out, htk, HAC.out]; exact HALL.out)
            have NQ := hide (show q = spb z.data.toList by rw [HQ.out, htk])
            have g0 : decide (wd < (z.size : Int)) = false := decide_eq_false (by omega)
            clear htk hpz
            rcases (by omega : k + 1 = L.length ∨ k + 1 < L.length) with x | x
            · have g1 : decide ((k : Int) + 1 < (L.length : Int)) = false := decide_eq_false (by omega)
              have g1' : ¬ ((k : Int) + 1 < (L.length : Int)) := by omega
              clear x
              go_wp2
              go_round
              case rel => exact ⟨k + 1, t, ac2, by omega, by go_num, rfl, HNX.out, e4, NA.out⟩
              case measure => simp [intOf]; omega
            · have g1 : decide ((k : Int) + 1 < (L.length : Int)) = true := decide_eq_true (by omega)
              have g1' : ((k : Int) + 1 < (L.length : Int)) := by omega
              have hne : t ≠ l.length := fun h => by have := H5.out.1 h; have := HLE.out; omega
              rcases Nat.eq_zero_or_pos q with y | y
              · have g2 : decide ((0 : Int) < (q : Int)) = false := decide_eq_false (by omega)
                have g2' : decide (0 < q) = false := decide_eq_false (by omega)
                have g2'' : ¬ 0 < q := by omega
                clear x hne y
                go_wp2
                go_round
                case rel => exact ⟨k + 1, t, ac2, by omega, by go_num, rfl, HNX.out, e4, NA.out⟩
                case measure => simp [intOf]; omega
              · have g2 : decide ((0 : Int) < (q : Int)) = true := decide_eq_true (by omega)
                have g2' : decide (0 < q) = true := decide_eq_true (by omega)
                have g3 : ((z.size : Int) != wd) = false := by have := HEQ.out hne (by rw [← NQ.out]; exact y); simp [this]
                have g3' : ((z.size : Int) == wd) = true := by have := HEQ.out hne (by rw [← NQ.out]; exact y); simp [this]
                clear x hne
                go_wp2
                go_round
                case rel => exact ⟨k + 1, t, ac2, by omega, by go_num, rfl, HNX.out, e4, NA.out⟩
                case measure => simp [intOf]; omega
      · have hfe : f = l.length := by
          have h1 := HFR.out
          have h2 := HE.out
          rw [HLE.out, show L.length = k by omega, h1] at h2
          omega
        have NA := hide (show acc.data.toList = cwb l l.length by rw [HAC.out, hfe])
        clear hfe
        go_wp2
        go_loop [10, 11] (fun v i => ∃ (p : Nat) (ac2 : ByteArray), p ≤ l.length ∧ i = .int .i64 p ∧ v = .string ac2 ∧ ac2.data.toList = cwb l p) (fun _ i => l.length - (intOf i).toNat)
        case atStart => exact ⟨0, ⟨#[]⟩, by omega, rfl, rfl, rfl⟩
        case round =>
          obtain ⟨p, ac2, hp, rfl, rfl, hac2⟩ := hrel
          have HA2 := hide hac2
          have ha2 : ac2.size ≤ 300 := by
            have := CL.out p hp
            rw [← hac2] at this
            simpa using this
          clear hac2
          by_cases hpl : p < l.length
          · obtain ⟨b, o, rfl, _, d0⟩ := R4.out.at_ hpl
            have N2 := hide (fun (s : ByteArray) (hs : s = sg l p) => cwb_acc HA2.out hs)
            have hs27 := HWQ.out p hpl
            obtain ⟨s, hs⟩ : ∃ s, s = sg l p := ⟨_, rfl⟩
            rw [← hs] at d0 hs27
            have N3 := hide (N2.out s hs)
            clear hs N2
            go_wp2
            go_round
            case rel => exact ⟨p + 1, _, by omega, by go_num, rfl, N3.out⟩
            case measure => simp [intOf]; omega
          · have E2 : acc = ac2 := ba_ext (by rw [NA.out, HA2.out, show p = l.length by omega])
            subst E2
            have tz := teq_yes acc
            go_wp2
            go_ret
            exact ⟨rfl, HB4.out⟩
set_option maxRecDepth 100000 in
theorem lifted_FnFillText (os : Os) (started : os.Started) (H : Type) (enc : TypeId × Value → H) :
    ReturnsInHanded {} Try.checked os 4 .any (Rows.fnFillTextSpec.pre6 enc Try.prog Try.f4 Rows.fnFillTextRow.domain false) (Rows.fnFillTextSpec.post enc Try.prog Try.f4 false true false false) := by
  refine returnsInHanded_of_change (C := Try.checked) own_knob started (by kernel_rfl) Try.func4
    (ChangeSpec.witness6 (enc := enc) (C := Try.checked) false ⟨#[], #[.slice none 0 0], []⟩ 8 (by kernel_rfl) (by kernel_rfl) (by kernel_rfl) (by kernel_rfl)) ?_
  intro W base args ds gs before hval0 hW hcnd _
  have hval : ∀ (j : Nat) t v, Try.f4.params[j]? = some t → args[j]? = some v → Value.okWide Try.prog W .any base t v := hval0
  have hW' := hW
  obtain ⟨p, q, hA0, hV, rfl, hfz, hnd⟩ := hW
  have hA : DataW.TrodAll enc Try.prog W 0 (fun _ => true) true Try.f4.params.toList args.toList ds p := hA0
  rw [Try.params4] at hA hval
  obtain ⟨v0, vs0, d0, ds0, p0, q0, hargs, rfl, rfl, zh0, r0⟩ := trodAll_cons hA
  obtain ⟨rfl, rfl, rfl⟩ := trodAll_nil r0
  obtain rfl : args = #[v0] := by cases args; simp_all
  obtain ⟨rfl, rfl⟩ := trodVars_none hV
  have zk0 := zh0
  have zl0 : ∀ x ∈ p0, x.block < W.heap.size := by obtain ⟨m, hm⟩ := zk0; exact DataW.trod_lt m _ _ _ hm
  clear hA0 hval0
  obtain ⟨a_code, n_code, c_code, rfl⟩ := okWide_slice Try.underlying28 (hval 0 28 v0 rfl rfl)
  obtain ⟨code, w_code⟩ := isRow_of Try.underlying28 Try.underlying5 (by kernel_rfl) zh0
  refine (walk_FnFillText a_code n_code c_code code W w_code).mono fun e W' ⟨he, bel⟩ => ?_
  subst he
  exact ⟨_, rfl, _, _, _, [], _, [], hW', trodAll_mk1 (shut_bool Try.underlying4 _), (trodAll_cons_mk (Below.trod laid_out (by kernel_rfl) (of_decide_eq_true (by kernel_rfl)) zk0 bel zl0) trodAll_mk0), rfl, bel.frame _, fun h => by cases h⟩

/-- The statement. -/
theorem FnFillText_holds : Rows.FnFillTextSaid :=
  OpenClaim.holds_of_wide 4 Try.f4 rfl rfl rfl rfl rfl rfl rfl ⟨rfl, rfl, rfl, rfl, rfl⟩ rfl rfl rfl rfl rfl (by kernel_rfl) Try.func4 (by unfold joinedFacts; rw [may_enter, lifts_final, make_cut]; kernel_rfl)
    (of_decide_eq_true (by kernel_rfl)) (by unfold Func.isWrapper; first | (rw [if_pos (by decide +kernel)]; kernel_rfl) | (rw [if_neg (by decide +kernel)]; exact ⟨rfl, rfl⟩))
    (fun os started H enc _ => lifted_FnFillText os started H enc)
end Go.Proofs.Ytlfhfbeacleggaa
