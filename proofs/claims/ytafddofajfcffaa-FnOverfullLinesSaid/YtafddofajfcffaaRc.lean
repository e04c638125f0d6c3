/- Several texts of one claim, one behind the other. -/
import Derived.Test.YtafddofajfcffaaRd
import Derived.Test.YtafddofajfcffaaLgT
import Derived.Test.YtafddofajfcffaaFitL
import Derived.Test.YtafddofajfcffaaLway
import Derived.Test.YtafddofajfcffaaBbM
import Derived.Test.YtafddofajfcffaaCostL
import Derived.Test.YtafddofajfcffaaLgS
import Derived.Deep.OwnRows
import Derived.Test.YtafddofajfcffaaApp
import Derived.BigQuiet
import Derived.Test.YtafddofajfcffaaJn
import Derived.Test.YtafddofajfcffaaLnP
/- FirstFit in the model. -/
namespace Go.Proofs.Ytafddofajfcffaa
open Go.ChangeShapes Go.WideShapes Go.ChangeAt Go.RowKit
set_option linter.unusedVariables false
set_option linter.unusedSimpArgs false

/-- The three steps of a fitted line. -/
theorem fit3_s (A : Option Addr) (c : Nat) (L : List It) (hall : ∀ i, i < L.length → itOk (tg L i) = true) (hl : L.length ≤ 60) (a : Int) (p q : Nat) (hp : a + 1 = (p : Int)) (d : Int) (hln : hasL L a q = true) (hd : inB d 1 10000 = true) :
    ∃ z0 z1 z2 : Int, (∀ u, TL u A L.length L → Calls Try.prog 90 #[.slice A L.length c, .int .i64 a, .int .i64 q] u fun e w' => e = .returned (gv z0 z1 z2) ∧ Below u.heap.size u w') ∧
      (∀ u, Calls Try.prog 89 #[gv z0 z1 z2] u fun e w' => e = .returned (gv (cl z0) (cl z1) (cl z2)) ∧ Below u.heap.size u w') ∧
      (∀ u, Calls Try.prog 88 #[gv (cl z0) (cl z1) (cl z2), .int .i64 d] u fun e w' => e = .returned (.tuple #[.int .i64 (ftL L a q d).1, .int .i64 (ftL L a q d).2]) ∧ Below u.heap.size u w') := by
  obtain ⟨p', q', hp', hqq, hpq, hq, _, hme, hnf⟩ := hasL_of hln
  obtain rfl : p' = p := by omega
  obtain rfl : q' = q := by omega
  have E := ftL_yes (L := L) (a := a) (b := (q' : Int)) (d := d) (by rw [hln, hd]; rfl)
  obtain ⟨e1, e2, e3⟩ := lg_eqs (L := L) (q := q') hp
  obtain ⟨b1, b2, b3⟩ := lg_bd (p := p') hall hq (min (fBx L p') q') (Nat.min_le_right _ _)
  rw [e1, e2, e3] at E
  have LG := fun (u : World) (hu : TL u A L.length L) => lineGlue_s u A c L hu hall hl a p' q' hp hpq hq
  rw [stS_min hpq (by omega) hnf] at LG
  obtain ⟨z0, hz0⟩ : ∃ z, z = sW L q' - sW L (min (fBx L p') q') + atW (tg L q') := ⟨_, rfl⟩
  obtain ⟨z1, hz1⟩ : ∃ z, z = sT L q' - sT L (min (fBx L p') q') := ⟨_, rfl⟩
  obtain ⟨z2, hz2⟩ : ∃ z, z = sS L q' - sS L (min (fBx L p') q') := ⟨_, rfl⟩
  rw [← hz0, ← hz1, ← hz2] at E LG
  rw [← hz0] at b1
  rw [← hz1] at b2
  rw [← hz2] at b3
  have i1 := cl_in b1
  have i2 := cl_in b2
  have i3 := cl_in b3
  have hd' := inB_iff.1 hd
  have FG := fun (u : World) => fitGlue_s (cl z0) (cl z1) (cl z2) d u ⟨by omega, i1.2⟩ i2 i3 ⟨by omega, hd'.2⟩
  rw [← E] at FG
  exact ⟨z0, z1, z2, LG, fun u => clampGlue_s z0 z1 z2 u, FG⟩
set_option maxRecDepth 10000 in
set_option maxHeartbeats 4000000 in
theorem FirstFit_s (w : World) (A : Option Addr) (n c : Nat) (L : List It) (d : Int) (h : TL w A n L) (hn : n ≤ 1048576) :
    Calls Try.prog 44 #[.slice A n c, .int .i64 d] w (RetL w (ffO L d)) := by
  obtain ⟨i0, hi0, jz0, jz1, jz2⟩ := info_parts int_info
  obtain rfl : n = L.length := h.1
  have HI := hide h
  have VI := fun (u : World) (hu : TL u A L.length L) => validItems_s u A L.length c L hu (by omega)
  have H0 : Hid (OL (w.alloc (.cells #[] 3)) 3 w.heap.size (some ⟨w.heap.size, 0, none⟩) 0 []) := hide (by
    have := OL.lit (w := w) (e := 3) (B := w.heap.size) (Nat.le_refl _) [] (by simp)
    simpa using this)
  clear h
  cases hok : isOk L
  · have O := hide (ffO_no (L := L) (d := d) (by rw [hok]; rfl))
    rw [hok] at VI
    replace VI := hide VI
    clear hok
    go_enter Try.func44, Try.ntmps44
    go_wp2_with (go_at_call 86; (with_reducible refine (VI.out _ (HI.out.alloc _)).mono ?_); rintro e u1 ⟨rfl, hb⟩; have HB1 := hide (bl_call hb (bl_alloc (bl_refl w) (.cells #[] 3))); have H1 := hide (H0.out.below hb); clear hb)
    go_ret
    exact ⟨none, 0, by rw [O.out]; rfl, by rw [O.out]; exact OL.nil _ _ _, HB1.out⟩
  cases q1 : inB d 1 10000
  · have O := hide (ffO_no (L := L) (d := d) (by rw [q1]; simp))
    rw [hok] at VI
    replace VI := hide VI
    clear hok
    go_enter Try.func44, Try.ntmps44
    go_wp2_with (first | (go_at_call 86; (with_reducible refine (VI.out _ (HI.out.alloc _)).mono ?_); rintro e u1 ⟨rfl, hb⟩; have HB1 := hide (bl_call hb (bl_alloc (bl_refl w) (.cells #[] 3))); have H1 := hide (H0.out.below hb); clear hb) | (go_at_call 69; refine (validWidth_ss _ _).mono ?_; rintro e w' ⟨rfl, rfl⟩))
    go_ret
    exact ⟨none, 0, by rw [O.out]; rfl, by rw [O.out]; exact OL.nil _ _ _, HB1.out⟩
  have O := hide (ffO_yes (L := L) (d := d) (by rw [hok, q1]; rfl))
  have HOK := hide hok
  have HQ1 := hide q1
  have HK := isOk_iff.1 hok
  have HALL := hide HK.1
  have hl60 := HK.2.1
  rw [hok] at VI
  replace VI := hide VI
  rw [O.out]
  obtain ⟨F, hF⟩ : ∃ F, F = ffA L d (nFF L d) := ⟨_, rfl⟩
  rw [← hF]
  have HF := hide hF
  have wl1 : IntKind.i64.wrap ((L.length : Int) - 1) = (L.length : Int) - 1 := IntWalk.i64_in _ (by omega)
  clear hok HK O hF
  go_enter Try.func44, Try.ntmps44
  go_upto_region 4 with (first | (go_at_call 86; (with_reducible refine (VI.out _ (HI.out.alloc _)).mono ?_); rintro e u1 ⟨rfl, hb⟩; have HB1 := hide (bl_call hb (bl_alloc (bl_refl w) (.cells #[] 3))); have H1 := hide (H0.out.below hb); clear hb) | (go_at_call 69; refine (validWidth_ss _ _).mono ?_; rintro e w' ⟨rfl, rfl⟩) | fail)
  clear q1 H0 VI
  go_wp2
  go_loopw [5, 6] (fun v f u => ∃ (k : Nat) (A2 : Option Addr) (m cc : Nat) (a : Int), k ≤ nFF L d ∧ v = .slice A2 m cc ∧ f = .int .i64 a ∧ a = ((fpS L d k : Nat) : Int) - 1 ∧ m = (ffA L d k).length ∧ OL u 3 w.heap.size A2 cc (ffA L d k) ∧ Below w.heap.size w u) (fun _ i _ => ((L.length : Int) - 1 - intOf i).toNat)
  case atStart => exact ⟨0, _, 0, _, -1, Nat.zero_le _, rfl, rfl, rfl, rfl, H1.out, HB1.out⟩
  case round =>
    obtain ⟨k, A2, m, cc, a, hk, rfl, rfl, ha, hm, hol, hbl⟩ := hrel
    have HM := hide hm
    have hm60 : m ≤ 1000 := by rw [hm, ffA_len]; have := nFF_le (L := L) (d := d); omega
    have HO := hide hol
    have HB := hide hbl
    have HA := hide ha
    have FST := (fpS_step (d := d) HOK.out (k := k))
    have hf1 := FST.1.1
    have ha1 : -1 ≤ a := by omega
    have ha2 : a ≤ (L.length : Int) - 1 := by omega
    clear hm hol hbl H1 HB1
    by_cases hlt : k < nFF L d
    · have hfl := nFF_lt HOK.out hlt
      obtain ⟨q, q1, q2, q3, q4, q5⟩ := FST.2 hfl
      have NX := hide (show (q : Int) = ((fpS L d (k + 1) : Nat) : Int) - 1 by rw [q4]; omega)
      have SN := hide (show ffA L d (k + 1) = ffA L d k ++ [(q : Int)] by show ffA L d k ++ [_] = _; rw [← NX.out])
      obtain ⟨p, hp⟩ : ∃ p, p = fpS L d k := ⟨_, rfl⟩
      rw [← hp] at q1 ha hfl hf1 q2
      unfold ffN at q1
      have Q1 := hide q1
      have HA2 := hide ha
      have hap : a + 1 = (p : Int) := by omega
      have HAP := hide hap
      have wp : IntKind.i64.wrap (a + 1) = (p : Int) := by rw [hap]; exact IntWalk.i64_in _ (by omega)
      have hal : a < (L.length : Int) - 1 := by omega
      have haq : a < (q : Int) := by omega
      have hpl : p < L.length := hfl
      clear FST hf1 hfl q1 q4 q5 hp ha HA hap q2
      go_wp2
      go_loopw [7, 8] (fun f i u => ∃ (m' : Nat) (z t : Int), p + m' ≤ L.length ∧ i = .int .i64 t ∧ t = ((p + m' : Nat) : Int) ∧ f = .int .i64 z ∧ z = ffT L d p m' ∧ OL u 3 w.heap.size A2 cc (ffA L d k) ∧ Below w.heap.size w u) (fun _ i _ => L.length - (intOf i).toNat)
      case atStart => exact ⟨0, -1, (p : Int), by omega, rfl, rfl, rfl, rfl, HO.out, HB.out⟩
      case round =>
        obtain ⟨m', z, t, hm', rfl, ht, rfl, hz, hol, hbl⟩ := hrel
        have IN := ffT_in (L := L) (d := d) (p := p) (m := m')
        rw [← hz] at IN
        have hz1 : -1 ≤ z := by rcases IN with e | ⟨q, e, _⟩ <;> omega
        have HZ := hide hz
        have O2 := hide hol
        have B2 := hide hbl
        clear HO HB hol hbl IN hz
        by_cases hlt2 : p + m' < L.length
        · obtain ⟨t', ht'⟩ : ∃ t' : Nat, t' = p + m' := ⟨_, rfl⟩
          have HT' := hide ht'
          have e9 : t = (t' : Int) := by rw [ht, ht']
          clear ht
          subst e9
          have htl : t' < L.length := by omega
          have htp : p ≤ t' := by omega
          have htl2 : (t' : Int) < (L.length : Int) := by omega
          have VL := validLine_s wr A L.length c L (HI.out.below B2.out) hn a t' (by omega) (by omega)
          rw [okL_eq HOK.out] at VL
          have IB := hide (isBreak_s wr A c L (HI.out.below B2.out) t' htl hn)
          have FY := hide (fun h h2 => ffT_yes (L := L) (d := d) (p := p) (m := m') h h2)
          have FN := hide (fun h => ffT_no (L := L) (d := d) (p := p) (m := m') h)
          have FS := hide (fun h h2 => ffT_stay (L := L) (d := d) (p := p) (m := m') h h2)
          rw [← HZ.out, ← HA2.out, ← HT'.out] at FY FN FS
          have H5 := hide (fun (h : mayE L t' = false) => hasL_5 (L := L) (a := a) (q := t') h)
          have F3 := hide (fun (h : hasL L a t' = true) => fit3_s A c L HALL.out hl60.2 a p t' HAP.out d h HQ1.out)
          obtain ⟨hl, hhl⟩ : ∃ h, h = hasL L a t' := ⟨_, rfl⟩
          obtain ⟨mb, hmb⟩ : ∃ h, h = mayE L t' := ⟨_, rfl⟩
          obtain ⟨r1, hr1⟩ : ∃ h, h = (ftL L a t' d).1 := ⟨_, rfl⟩
          obtain ⟨r2, hr2⟩ : ∃ h, h = (ftL L a t' d).2 := ⟨_, rfl⟩
          rw [← hhl] at VL FY FN H5 F3
          rw [← hmb] at IB H5
          rw [← hr1] at FY FS F3
          rw [← hr2] at F3
          have HVL := hide VL
          clear hhl hmb hr1 hr2 VL ht'
          cases mb
          · have N := hide (FN.out (H5.out rfl))
            clear FY FN FS F3 HVL
            go_wp2_with fail
            (with_reducible refine IB.out.mono ?_)
            rintro e w' ⟨rfl, rfl⟩
            go_wp2
            go_roundw
            case rel => exact ⟨m' + 1, z, (t' : Int) + 1, by omega, by go_num, by have := HT'.out; omega, rfl, N.out.symm, O2.out, B2.out⟩
            case measure => simp [intOf]; omega
          · go_wp2_with fail
            (with_reducible refine IB.out.mono ?_)
            rintro e w' ⟨rfl, rfl⟩
            go_wp2_with fail
            (with_reducible refine HVL.out.mono ?_)
            rintro e u3 ⟨rfl, hb⟩
            have B3 := hide (bl_call hb B2.out)
            have O3 := hide (O2.out.below hb)
            clear hb
            cases hl
            · have N := hide (FN.out rfl)
              clear FY FN FS F3 H5
              go_wp2
              go_roundw
              case rel => exact ⟨m' + 1, z, (t' : Int) + 1, by omega, by go_num, by have := HT'.out; omega, rfl, N.out.symm, O3.out, B3.out⟩
              case measure => simp [intOf]; omega
            · have FY' := hide (FY.out rfl)
              obtain ⟨z0, z1, z2, C1, C2, C3⟩ := F3.out rfl; have HC1 := hide C1; have HC2 := hide C2; have HC3 := hide C3; clear C1 C2 C3
              clear FY FN H5 F3
              go_wp2_with fail; (with_reducible refine (HC1.out _ (HI.out.below B3.out)).mono ?_); rintro e u4 ⟨rfl, hb⟩; have B4 := hide (bl_call hb B3.out); have O4 := hide (O3.out.below hb); clear hb; go_wp2_with fail; (with_reducible refine (HC2.out _).mono ?_); rintro e u5 ⟨rfl, hb⟩; have B5 := hide (bl_call hb B4.out); have O5 := hide (O4.out.below hb); clear hb; go_wp2_with fail; (with_reducible refine (HC3.out _).mono ?_); rintro e u6 ⟨rfl, hb⟩; have B6 := hide (bl_call hb B5.out); have O6 := hide (O5.out.below hb); clear hb
              rcases (by omega : z < 0 ∨ 0 ≤ z ∧ r1 ≠ 4 ∨ 0 ≤ z ∧ r1 = 4) with g | ⟨g, g2⟩ | ⟨g, g2⟩
              · have N := hide (FY'.out (.inl g))
                clear FY' FS
                go_wp2
                go_roundw
                case rel => exact ⟨m' + 1, t', (t' : Int) + 1, by omega, by go_num, by have := HT'.out; omega, rfl, N.out.symm, O6.out, B6.out⟩
                case measure => simp [intOf]; omega
              · have N := hide (FY'.out (.inr g2))
                have k1 : (r1 != 4) = true := bne_iff_ne.2 g2
                have k2 : ¬ z < 0 := by omega
                clear FY' FS g2
                go_wp2
                go_roundw
                case rel => exact ⟨m' + 1, t', (t' : Int) + 1, by omega, by go_num, by have := HT'.out; omega, rfl, N.out.symm, O6.out, B6.out⟩
                case measure => simp [intOf]; omega
              · have N := hide (FS.out g g2)
                subst g2
                have k2 : ¬ z < 0 := by omega
                clear FY' FS
                go_wp2
                go_roundw
                case rel => exact ⟨m' + 1, z, (t' : Int) + 1, by omega, by go_num, by have := HT'.out; omega, rfl, N.out.symm, O6.out, B6.out⟩
                case measure => simp [intOf]; omega
        · have hml : m' = L.length - p := by omega
          have E := hide (show z = (q : Int) by rw [← Q1.out, HZ.out, hml])
          have htl : ¬ t < (L.length : Int) := by omega
          have hzr := B2.out.size
          obtain rfl := E.out
          clear hml ht hlt2 HZ hz1
          go_wp2_with (at_builtin; refine wpList_append_int rfl (.tmp 61) (.tmp 63) _ rfl 3 i0 Try.underlying24 hi0 jz0 jz1 jz2 (w.heap.size) A2 cc m (ffA L d k) rfl (HM.out) (O2.out.alloc _) wr.heap.size (q : Int) rfl (by simp) (by omega) (by simp; omega) ?_; intro A' c' w' hol' hb' hg')
          go_roundw
          case rel => exact ⟨k + 1, A', m + 1, c', q, by omega, rfl, by go_num, NX.out, by rw [SN.out, List.length_append, ← HM.out]; rfl, by rw [SN.out]; exact hol', (bl_alloc B2.out _).trans hb'⟩
          case measure => simp [intOf]; omega
    · have hkn : k = nFF L d := by omega
      have he := nFF_end (d := d) HOK.out
      have hal : ¬ a < (L.length : Int) - 1 := by rw [ha, hkn, he]; omega
      have HKN := hide hkn
      clear FST hf1 ha hlt he hkn
      go_wp2
      go_ret
      refine ⟨A2, cc, by rw [HF.out, HM.out, HKN.out]; rfl, ?_, HB.out⟩
      rw [HF.out, ← HKN.out]
      exact HO.out
end Go.Proofs.Ytafddofajfcffaa

/- The overfull lines, in the model. -/
namespace Go.Proofs.Ytafddofajfcffaa
open Go.ChangeShapes Go.WideShapes Go.ChangeAt Go.RowKit Go.Shelf
set_option linter.unusedVariables false
set_option linter.unusedSimpArgs false

set_option maxRecDepth 8000 in
set_option maxHeartbeats 4000000 in
theorem overfullLines_s (w : World) (A B : Option Addr) (c c' : Nat) (L : List It) (E : List Int) (d : Int) (h : TL w A L.length L) (hE : IL w B E.length E) (hm : E.length ≤ 1048576) (hv : vbO L E = true) (hd : inB d 1 10000 = true) :
    Calls Try.prog 84 #[.slice A L.length c, .int .i64 d, .slice B E.length c'] w (RetL w (ovN L d E E.length)) := by
  obtain ⟨i0, hi0, jz0, jz1, jz2⟩ := info_parts int_info
  have HI := hide h
  have HE := hide hE
  have H0 : Hid (OL (w.alloc (.cells #[] 3)) 3 w.heap.size (some ⟨w.heap.size, 0, none⟩) 0 []) := hide (by
    have := OL.lit (w := w) (e := 3) (B := w.heap.size) (Nat.le_refl _) [] (by simp)
    simpa using this)
  rw [vbO_eq] at hv
  obtain ⟨hok, _, hall, _⟩ := cbV_true hv
  have HOK := hide (isOk_iff.1 hok)
  have HAL := hide hall
  have HDD := hide hd
  clear h hE hv hok hall hd
  go_enter Try.func84, Try.ntmps84
  go_wp2
  go_loopw [7, 8, 9] (fun t f i u => ∃ (k : Nat) (A2 : Option Addr) (m cc : Nat), k ≤ E.length ∧ t = .slice A2 m cc ∧ f = .int .i64 (frm (-1) E k) ∧ i = .int .i64 k ∧ m = (ovN L d E k).length ∧ OL u 3 w.heap.size A2 cc (ovN L d E k) ∧ Below w.heap.size w u) (fun _ _ i _ => E.length - (intOf i).toNat)
  case atStart => exact ⟨0, _, 0, _, Nat.zero_le _, rfl, by rw [frm_zero], rfl, rfl, H0.out, bl_alloc (bl_refl w) _⟩
  case round =>
    obtain ⟨k, A2, m, cc, hk, rfl, rfl, rfl, hm', hol, hbl⟩ := hrel
    have hmk : m ≤ k := by rw [hm']; exact ovN_len L d E k
    have HM := hide hm'
    have HB := hide hbl
    have hzr := hbl.size
    clear hm'
    by_cases hlt : k < E.length
    · obtain ⟨b, o, rfl, hb0, d0⟩ := HE.out.at_ hlt
      have c0 := (hbl.cell (p := ⟨b, o + k, none⟩) hb0).trans d0
      have hln : hasL L (frm (-1) E k) (ng E k) = true := HAL.out k hlt
      obtain ⟨p, q, hp, hq, _⟩ := hasL_of hln
      rw [hq] at hln
      obtain ⟨g0, g1, g2, G1, G2, G3⟩ := fit3_s A c L HOK.out.1 HOK.out.2.1.2 _ p q hp d hln HDD.out
      have NF := hide (show frm (-1) E (k + 1) = (q : Int) by rw [frm_succ, hq])
      have SY := hide (fun h => ovN_yes (L := L) (d := d) (E := E) (k := k) h)
      have SN := hide (fun h => ovN_no (L := L) (d := d) (E := E) (k := k) h)
      rw [hq] at c0 SY SN
      obtain ⟨r1, hr1⟩ : ∃ r, r = (ftL L (frm (-1) E k) q d).1 := ⟨_, rfl⟩
      obtain ⟨r2, hr2⟩ : ∃ r, r = (ftL L (frm (-1) E k) q d).2 := ⟨_, rfl⟩
      rw [← hr1] at SY SN G3
      rw [← hr2] at G3
      have HG1 := hide G1
      have HG2 := hide G2
      have HG3 := hide G3
      obtain ⟨x, hx⟩ : ∃ r, r = frm (-1) E k := ⟨_, rfl⟩
      rw [← hx] at HG1 ⊢
      clear G1 G2 G3 hr1 hr2 hln hp hq hx d0
      go_wp2_with fail
      (with_reducible refine (HG1.out _ (HI.out.below HB.out)).mono ?_)
      rintro e u1 ⟨rfl, hb1⟩
      have hol := hol.below hb1
      have HB1 := hide (bl_call hb1 HB.out)
      have c0 := keep_cell hb1 c0
      clear hb1
      go_wp2_with fail
      (with_reducible refine (HG2.out _).mono ?_)
      rintro e u2 ⟨rfl, hb2⟩
      have hol := hol.below hb2
      have HB2 := hide (bl_call hb2 HB1.out)
      have c0 := keep_cell hb2 c0
      clear hb2
      go_wp2_with fail
      (with_reducible refine (HG3.out _).mono ?_)
      rintro e u3 ⟨rfl, hb3⟩
      have hol := hol.below hb3
      have HB3 := hide (bl_call hb3 HB2.out)
      have c0 := keep_cell hb3 c0
      have hz3 := HB3.out.size
      clear hb3 hbl
      have HOL := hide hol
      clear hol
      rcases (by omega : r1 = 4 ∨ r1 ≠ 4) with rfl | qq
      · have SY1 := hide (SY.out rfl)
        clear SY SN
        go_wp2_with (at_builtin; go_loud (refine wpList_append_int rfl (.tmp 34) (.tmp 36) _ rfl 3 i0 Try.underlying24 hi0 jz0 jz1 jz2 w.heap.size A2 cc m (ovN L d E k) rfl HM.out (HOL.out.alloc _) u3.heap.size (k : Int) rfl (by simp) (by omega) (by simp; omega) ?_); intro A' c2 w' hol' hb' hg'; have HB4 := hide ((bl_alloc HB3.out _).trans hb'); have c0 := (hb'.cell (p := ⟨b, o + k, none⟩) hb0).trans ((bl_alloc (bl_refl u3) _).cell (p := ⟨b, o + k, none⟩) (Nat.lt_of_lt_of_le hb0 hz3) |>.trans c0); have HO4 := hide hol'; clear hb' hg' hol')
        go_roundw
        case rel => exact ⟨k + 1, A', m + 1, c2, by omega, rfl, by rw [NF.out], by go_num, by rw [SY1.out, List.length_append, ← HM.out]; rfl, by rw [SY1.out]; exact HO4.out, HB4.out⟩
        case measure => simp [intOf]; omega
      · have SN1 := hide (SN.out qq)
        have g1 : (r1 == 4) = false := beq_eq_false_iff_ne.2 qq
        clear SY SN qq
        go_wp2
        go_roundw
        case rel => exact ⟨k + 1, A2, m, cc, by omega, rfl, by rw [NF.out], by go_num, by rw [SN1.out]; exact HM.out, by rw [SN1.out]; exact HOL.out, HB3.out⟩
        case measure => simp [intOf]; omega
    · have HKE := hide (show k = E.length by omega)
      go_wp2
      go_ret
      exact ⟨A2, cc, by rw [HM.out, HKE.out]; rfl, by rw [← HKE.out]; exact hol, HB.out⟩
set_option maxHeartbeats 2000000 in
theorem OverfullLines_s (w : World) (A B : Option Addr) (n c m c' : Nat) (L : List It) (E : List Int) (d : Int) (h : TL w A n L) (hn : n ≤ 1048576) (hE : IL w B m E) (hm : m ≤ 1048576) (hwf : okW E) :
    Calls Try.prog 42 #[.slice A n c, .int .i64 d, .slice B m c'] w (RetL w (ovO L d E)) := by
  have VB := hide (validBreaks_s w A B n c m c' L E h hn hE hm hwf)
  obtain rfl : n = L.length := h.1
  obtain rfl : m = E.length := hE.1
  have HI := hide h
  have HE := hide hE
  clear h hE hwf
  cases hv : vbO L E
  · have O := hide (ovO_no (L := L) (d := d) (E := E) (by rw [hv]; rfl))
    rw [hv] at VB
    clear hv
    go_enter Try.func42, Try.ntmps42
    go_wp2_with fail
    (with_reducible refine VB.out.mono ?_)
    rintro e u1 ⟨rfl, hb⟩
    have HB1 := hide hb
    clear hb
    go_wp2
    go_ret
    exact ⟨none, 0, by rw [O.out]; rfl, by rw [O.out]; exact OL.nil _ _ _, HB1.out⟩
  rw [hv] at VB
  cases q1 : inB d 1 10000
  · have O := hide (ovO_no (L := L) (d := d) (E := E) (by rw [q1]; simp))
    clear hv
    go_enter Try.func42, Try.ntmps42
    go_wp2_with fail
    (with_reducible refine VB.out.mono ?_)
    rintro e u1 ⟨rfl, hb⟩
    have HB1 := hide hb
    clear hb
    go_wp2_with (go_at_call 69; refine (validWidth_ss _ _).mono ?_; rintro e w' ⟨rfl, rfl⟩)
    go_ret
    exact ⟨none, 0, by rw [O.out]; rfl, by rw [O.out]; exact OL.nil _ _ _, HB1.out⟩
  · have O := hide (ovO_yes (L := L) (d := d) (E := E) (by rw [hv, q1]; rfl))
    have HOV := hide (fun (u : World) (h1 : TL u A L.length L) (h2 : IL u B E.length E) => overfullLines_s u A B c c' L E d h1 h2 hm hv q1)
    clear hv
    go_enter Try.func42, Try.ntmps42
    go_wp2_with fail
    (with_reducible refine VB.out.mono ?_)
    rintro e u1 ⟨rfl, hb⟩
    have HB1 := hide hb
    have HI1 := hide (HI.out.below hb)
    have HE1 := hide (HE.out.below hb)
    clear hb
    go_wp2_with (go_at_call 69; refine (validWidth_ss _ _).mono ?_; rintro e w' ⟨rfl, rfl⟩)
    (with_reducible refine (HOV.out _ HI1.out HE1.out).mono ?_)
    rintro e u3 ⟨A3, c3, rfl, ho, hb⟩
    have HB3 := hide (bl_call hb HB1.out)
    have HO := hide (World.ownsRow.mono ho HB1.out.size)
    clear hb ho
    go_wp2
    go_ret
    exact ⟨A3, c3, by rw [O.out]; first | done | rfl, by rw [O.out]; exact HO.out, HB3.out⟩
end Go.Proofs.Ytafddofajfcffaa

/- BestBreaks and LeastLines in the program. -/
namespace Go.Proofs.Ytafddofajfcffaa
open Go.ChangeShapes Go.WideShapes Go.ChangeAt Go.RowKit
set_option linter.unusedVariables false
set_option linter.unusedSimpArgs false

/-- What a function leaves that returns a list that it made, a number and whether it succeeded. -/
def RetW (w : World) (o : List Int × Int × Bool) (e : Ending) (w' : World) : Prop := ∃ A c, e = .returned (.tuple #[.slice A o.1.length c, .int .i64 o.2.1, .bool o.2.2]) ∧ OL w' 3 w.heap.size A c o.1 ∧ Below w.heap.size w w'
theorem RetW.no {w w' : World} {o : List Int × Int × Bool} (h : o = ([], 0, false)) (hb : Below w.heap.size w w') : RetW w o (.returned (.tuple #[.slice none 0 0, .int .i64 0, .bool false])) w' := by
  subst h
  exact ⟨none, 0, rfl, OL.nil _ _ _, hb⟩
theorem RetW.up {w u w' : World} {o : List Int × Int × Bool} {e : Ending} (h : RetW u o e w') (hb : Below w.heap.size w u) : RetW w o e w' := by
  obtain ⟨A, c, h1, h2, h3⟩ := h
  exact ⟨A, c, h1, h2.more hb.size, bl_call h3 hb⟩
theorem least_lines (w : World) {B gp g c1 gs gf gb : Nat} (L : List It) (hps : PS w B gp g c1 gs gf gb L) (ok : isOk L = true) (C : Int → Int → Int × Bool) (hC : ∀ a b, (C a b).2 = true → hasL L a b = true) (hM : ∀ a b, -200000000 ≤ (C a b).1 ∧ (C a b).1 ≤ 200000000) (q1 q2 q3 : Value)
    (HC : ∀ u, Below w.heap.size w u → ∀ (x a b : Int), (-1 ≤ a ∧ a ≤ 60) → (-1 ≤ b ∧ b ≤ 60) → Calls Try.prog 128 #[.int .i64 x, .int .i64 a, .int .i64 b, q1, q2, q3] u fun e u' => e = .returned (.tuple #[.int .i64 (C a b).1, .bool (C a b).2]) ∧ Below u.heap.size u u') :
    Calls Try.prog 98 #[.int .i64 (-1), .func (.func 144) #[] #[.pointer (some ⟨gp, 0, none⟩)], .func (.func 128) #[] #[q1, q2, q3], .bool false] w (RetW w (dpR (gB C) ndB L.length)) := by
  have DP := isDp_lines (L := L) hC
  obtain ⟨n0, n1, n2, n3⟩ := nbB_top ok
  have hl60 := (isOk_iff.1 ok).2.1.2
  have hR := lwR_dp DP n2
  rw [n1] at hR
  have BD : ∀ j d, dpD (gB C) j = some d → d.2.2 ≤ j ∧ -(200000000 * (d.2.2 : Int)) ≤ d.1 ∧ d.1 ≤ 200000000 * d.2.2 := fun j d e => dpD_bd (g := gB C) (M := 200000000) (fun i j n e => gB_bd hM e) (j + 1) (Nat.lt_succ_self j) e
  have := leastWay_i w (-1) 144 128 #[.pointer (some ⟨gp, 0, none⟩)] #[q1, q2, q3] (fun _ a b => C a b) false (plB L) (nbB L)
    (places_seq w L hps ok) (enters_of Try.func144 (by kernel_rfl) rfl)
    (fun k u hk hb hws => by
      have hlen := lwS_len DP (k := k) (by omega)
      have hpk := piB_mono (L := L) (k := k) (m := nbB L) (Nat.le_refl _) (by omega)
      rw [n1] at hpk
      have hlw := lwS_dp DP (k := k) (by omega)
      have hpos := lwS_pos (C := fun _ a b => C a b) (cnt := false) (start := -1) (pl := plB L) (k := k)
      have HW : ∀ i, i < (lwS (fun _ a b => C a b) false (-1) (plB L) k).1.length → ∃ j d, j < piB L k + 1 ∧ dpD (gB C) j = some d ∧ tg (lwS (fun _ a b => C a b) false (-1) (plB L) k).1 i = wyN (gB C) ndB j d := fun i hi => by
        rw [hlw] at hi ⊢
        obtain ⟨j, d, e1, e2, _, e4⟩ := Wn_at hi
        exact ⟨j, d, e1, e2, e4⟩
      refine extend_lines u (w.heap.size + 1) (w.heap.size + 1 + 1) _ _ false _ (fun _ a b => C a b) _ _ _ hws hpos.1 (by omega) hpos.2 ?_ ?_ ?_
      · intro i hi
        obtain ⟨j, d, e1, e2, e3⟩ := HW i hi
        rw [e3]
        have := BD j d e2
        simp only [wyN]
        omega
      · intro i a b
        have := hM a b
        show -1000000000000 ≤ (C a b).1 ∧ (C a b).1 ≤ 1000000000000
        omega
      · intro v hv i _ hi
        obtain ⟨j, d, e1, e2, e3⟩ := HW i hi
        rw [e3]
        obtain ⟨q, a1, _, _, _, a5⟩ := piB_at hk
        rw [a5]
        have hb2 : Below w.heap.size w v := hb.trans (hv.mono (by omega))
        exact HC v hb2 _ ((j : Int) - 1) q (by omega) (by omega))
    (by have h1 := lwS_len DP (k := nbB L) (Nat.le_refl _)
        rw [n1] at h1
        omega)
    (lw_ok DP n2 (K := 1000000) (by rw [n1]; omega) (fun j d _ e => (BD j d e).1))
  rw [hR] at this
  exact this
theorem least_counts (w : World) {B gp g c1 gs gf gb : Nat} (L : List It) (hps : PS w B gp g c1 gs gf gb L) (ok : isOk L = true) (C : Int → Int → Int × Bool) (hC : ∀ a b, (C a b).2 = true → hasL L a b = true) (hM : ∀ a b, -200000000 ≤ (C a b).1 ∧ (C a b).1 ≤ 200000000) (q1 q2 q3 : Value)
    (HC : ∀ u, Below w.heap.size w u → ∀ (x a b : Int), (-1 ≤ a ∧ a ≤ 60) → (-1 ≤ b ∧ b ≤ 60) → Calls Try.prog 101 #[.int .i64 x, .int .i64 a, .int .i64 b, q1, q2, q3] u fun e u' => e = .returned (.tuple #[.int .i64 (C a b).1, .bool (C a b).2]) ∧ Below u.heap.size u u') :
    Calls Try.prog 98 #[.int .i64 (-1), .func (.func 144) #[] #[.pointer (some ⟨gp, 0, none⟩)], .func (.func 101) #[] #[q1, q2, q3], .bool false] w (RetW w (dpR (gB C) ndB L.length)) := by
  have DP := isDp_lines (L := L) hC
  obtain ⟨n0, n1, n2, n3⟩ := nbB_top ok
  have hl60 := (isOk_iff.1 ok).2.1.2
  have hR := lwR_dp DP n2
  rw [n1] at hR
  have BD : ∀ j d, dpD (gB C) j = some d → d.2.2 ≤ j ∧ -(200000000 * (d.2.2 : Int)) ≤ d.1 ∧ d.1 ≤ 200000000 * d.2.2 := fun j d e => dpD_bd (g := gB C) (M := 200000000) (fun i j n e => gB_bd hM e) (j + 1) (Nat.lt_succ_self j) e
  have := leastWay_i w (-1) 144 101 #[.pointer (some ⟨gp, 0, none⟩)] #[q1, q2, q3] (fun _ a b => C a b) false (plB L) (nbB L)
    (places_seq w L hps ok) (enters_of Try.func144 (by kernel_rfl) rfl)
    (fun k u hk hb hws => by
      have hlen := lwS_len DP (k := k) (by omega)
      have hpk := piB_mono (L := L) (k := k) (m := nbB L) (Nat.le_refl _) (by omega)
      rw [n1] at hpk
      have hlw := lwS_dp DP (k := k) (by omega)
      have hpos := lwS_pos (C := fun _ a b => C a b) (cnt := false) (start := -1) (pl := plB L) (k := k)
      have HW : ∀ i, i < (lwS (fun _ a b => C a b) false (-1) (plB L) k).1.length → ∃ j d, j < piB L k + 1 ∧ dpD (gB C) j = some d ∧ tg (lwS (fun _ a b => C a b) false (-1) (plB L) k).1 i = wyN (gB C) ndB j d := fun i hi => by
        rw [hlw] at hi ⊢
        obtain ⟨j, d, e1, e2, _, e4⟩ := Wn_at hi
        exact ⟨j, d, e1, e2, e4⟩
      refine extend_counts u (w.heap.size + 1) (w.heap.size + 1 + 1) _ _ false _ (fun _ a b => C a b) _ _ _ hws hpos.1 (by omega) hpos.2 ?_ ?_ ?_
      · intro i hi
        obtain ⟨j, d, e1, e2, e3⟩ := HW i hi
        rw [e3]
        have := BD j d e2
        simp only [wyN]
        omega
      · intro i a b
        have := hM a b
        show -1000000000000 ≤ (C a b).1 ∧ (C a b).1 ≤ 1000000000000
        omega
      · intro v hv i _ hi
        obtain ⟨j, d, e1, e2, e3⟩ := HW i hi
        rw [e3]
        obtain ⟨q, a1, _, _, _, a5⟩ := piB_at hk
        rw [a5]
        have hb2 : Below w.heap.size w v := hb.trans (hv.mono (by omega))
        exact HC v hb2 _ ((j : Int) - 1) q (by omega) (by omega))
    (by have h1 := lwS_len DP (k := nbB L) (Nat.le_refl _)
        rw [n1] at h1
        omega)
    (lw_ok DP n2 (K := 1000000) (by rw [n1]; omega) (fun j d _ e => (BD j d e).1))
  rw [hR] at this
  exact this
set_option maxRecDepth 8000 in
set_option maxHeartbeats 4000000 in
theorem BestBreaks_i (w : World) (A : Option Addr) (n c : Nat) (L : List It) (d t : Int) (h : TL w A n L) (hn : n ≤ 1048576) :
    Calls Try.prog 49 #[.slice A n c, .int .i64 d, .int .i64 t] w (RetW w (bbV L d t)) := by
  have ME := hide (measure_i w A n c L h (by omega))
  obtain rfl : n = L.length := h.1
  clear h
  cases hok : isOk L
  · have O := hide (bbV_no (d := d) (t := t) hok)
    rw [hok] at ME
    clear hok
    go_enter Try.func49, Try.ntmps49
    go_wp2_with fail
    (with_reducible refine ME.out.mono ?_)
    rintro e u1 ⟨v, rfl, hv, hv0, hb⟩
    obtain rfl := hv0 (by trivial)
    have HB1 := hide hb
    clear hv hv0 hb
    go_wp2
    refine bodyPost_ret (v := .tuple #[.slice none 0 0, .int .i64 0, .bool false]) (by simp [results, Try.results49, go_sem]) rfl ?_
    exact RetW.no O.out (bl_alloc HB1.out _)
  · have HK := isOk_iff.1 hok
    have HALL := hide HK.1
    have hl60 := HK.2.1
    have HOK := hide hok
    have O := hide (bbV_yes (d := d) (t := t) hok)
    rw [hok] at ME
    rw [O.out]
    obtain ⟨R, hR⟩ : ∃ R, R = dpR (gB fun a b => coL L a b d t) ndB L.length := ⟨_, rfl⟩
    rw [← hR]
    have HR := hide hR
    clear hR
    have CB := hide (fun p q => coL_bd HALL.out p q d t)
    clear HK hok
    go_enter Try.func49, Try.ntmps49
    go_wp2_with fail
    (with_reducible refine ME.out.mono ?_)
    rintro e u1 ⟨v, rfl, hv, hv0, hb⟩
    obtain ⟨g, c1, gs, gf, gb, rfl, hrow, hpr⟩ := hv (by trivial)
    have HPS := hide (ps_made hrow hpr)
    have HB1 := hide (bl_alloc hb (.cells #[.slice (some ⟨g, 0, none⟩) L.length c1, .slice (some ⟨gs, 0, none⟩) (L.length + 1) (L.length + 1), .slice (some ⟨gf, 0, none⟩) (L.length + 1) (L.length + 1), .slice (some ⟨gb, 0, none⟩) (L.length + 1) (L.length + 1)] 92))
    clear hv hv0 hb hrow hpr
    have k0 := HPS.out.k0
    have k1 := HPS.out.k1
    have k2 := HPS.out.k2
    have k3 := HPS.out.k3
    go_upto_region 4 with fail
    obtain ⟨W, hW⟩ : ∃ W, W = u1.alloc (.cells #[.slice (some ⟨g, 0, none⟩) L.length c1, .slice (some ⟨gs, 0, none⟩) (L.length + 1) (L.length + 1), .slice (some ⟨gf, 0, none⟩) (L.length + 1) (L.length + 1), .slice (some ⟨gb, 0, none⟩) (L.length + 1) (L.length + 1)] 92) := ⟨_, rfl⟩
    rw [← hW] at HPS HB1 k0 k1 k2 k3
    have LP := hide (fun (u : World) (hu : Below W.heap.size W u) (b1 b2 b3 b4 bw : Nat) (hp1 : PS u w.heap.size b1 g c1 gs gf gb L) (hp2 : PS u w.heap.size b2 g c1 gs gf gb L) (e3 : u.cell? ⟨b3, 0, none⟩ = some (.func (.func 129) #[] #[.pointer (some ⟨bw, 0, none⟩)])) (e4 : u.cell? ⟨b4, 0, none⟩ = some (.int .i64 t)) (ew : u.cell? ⟨bw, 0, none⟩ = some (.int .i64 d)) =>
      least_lines u L hp1 HOK.out (fun a b => coL L a b d t) cl_has CB.out (.pointer (some ⟨b2, 0, none⟩)) (.pointer (some ⟨b3, 0, none⟩)) (.pointer (some ⟨b4, 0, none⟩)) (fun v hv x a b wa wb => lines1_i v L (hp2.below hv) HALL.out hl60 x a b d t (by omega) (by omega) (keep_cell hv e3) (keep_cell hv e4) (keep_cell hv ew)))
    rw [← HR.out] at LP
    rw [← hW]
    have HWW := hide hW
    clear hW CB O HOK ME HR
    have S0 := bl_drew (bl_refl W)
    refine wp_region_held_drew (S := fun u : World => Below W.heap.size W u) (by kernel_rfl) (S0) (fun hHeld => ?_)
    refine tkY (i := 0) (oi := ?_) (v := ?_) ?_ (by kernel_rfl) ?_ ?_ ?_ (by assumption) ?_; rotate_left 2; (next => simp only [tka, tkb, tkc]; rfl); (next => exact fun _ _ _ h => h); (next => rfl); (next => intro w_ hSw; (try dsimp only at hSw); have k0 := keep_cell hSw k0; have k1 := keep_cell hSw k1; have k2 := keep_cell hSw k2; have k3 := keep_cell hSw k3; go_simp; (try (with_reducible rfl))); (try simp only [Act.put, tkd, tke, tkf])
    refine tkY (i := 2) (oi := ?_) (v := ?_) ?_ (by kernel_rfl) ?_ ?_ ?_ (by assumption) ?_; rotate_left 2; (next => simp only [tka, tkb, tkc]; rfl); (next => exact fun _ _ _ h => h); (next => rfl); (next => intro w_ hSw; (try dsimp only at hSw); have k0 := keep_cell hSw k0; have k1 := keep_cell hSw k1; have k2 := keep_cell hSw k2; have k3 := keep_cell hSw k3; go_simp; (try (with_reducible rfl))); (try simp only [Act.put, tkd, tke, tkf])
    (first | (refine tkY (i := 3) (oi := ?_) (v := ?_) ?_ (by kernel_rfl) ?_ ?_ ?_ (by assumption) ?_; rotate_left 2; (next => simp only [tka, tkb, tkc]; rfl); (next => exact fun _ _ _ h => h); (next => rfl); (next => intro w hSw; (try dsimp only at hSw); go_simp; (try (with_reducible rfl)))) | (refine tkN (i := 3) (oi := ?_) ?_ (by kernel_rfl) ?_ ?_ (by assumption) ?_; rotate_left 1; (next => simp only [tka, tkb, tkc]; rfl); (next => exact fun _ _ _ h => h); (next => rfl))); (try simp only [Act.put, tkd, tke, tkf])
    (first | (refine tkY (i := 5) (oi := ?_) (v := ?_) ?_ (by kernel_rfl) ?_ ?_ ?_ (by assumption) ?_; rotate_left 2; (next => simp only [tka, tkb, tkc]; rfl); (next => exact fun _ _ _ h => h); (next => rfl); (next => intro w hSw; (try dsimp only at hSw); go_simp; (try (with_reducible rfl)))) | (refine tkN (i := 5) (oi := ?_) ?_ (by kernel_rfl) ?_ ?_ (by assumption) ?_; rotate_left 1; (next => simp only [tka, tkb, tkc]; rfl); (next => exact fun _ _ _ h => h); (next => rfl))); (try simp only [Act.put, tkd, tke, tkf])
    refine wpAnyH_ready (rs := [1]) (by kernel_rfl) (by simp) ?_; refine AllReadyH.cons (o := ?_) ?_ (fun K hK => ?_) AllReadyH.nil; rotate_left 1; (next => simp only [List.getElem?_toArray, List.getElem?_cons_succ, List.getElem?_cons_zero]; rfl); go_simp
    go_at_call 99
    (with_reducible refine (places_i _ _ _ _ _).mono ?_)
    rintro e w' ⟨rfl, rfl⟩
    (try go_wp2_with fail); refine hK.out _ _ ((by repeat' (first | exact bl_refl _ | refine bl_drew ?_ | refine bl_alloc ?_ _))) (fun hHeld => ?_); clear hK K; (try simp only [Act.put, List.setIfInBounds_toArray, List.set_cons_zero, List.set_cons_succ])
    refine wpAnyH_ready (rs := [4]) (by kernel_rfl) (by simp) ?_; refine AllReadyH.cons (o := ?_) ?_ (fun K hK => ?_) AllReadyH.nil; rotate_left 1; (next => simp only [List.getElem?_toArray, List.getElem?_cons_succ, List.getElem?_cons_zero]; rfl); go_simp
    go_at_call 83
    (with_reducible refine (sameWidth_i _ _).mono ?_)
    rintro e w' ⟨rfl, rfl⟩
    (try go_wp2_with fail); refine hK.out _ _ ((by repeat' (first | exact bl_refl _ | refine bl_drew ?_ | refine bl_alloc ?_ _))) (fun hHeld => ?_); clear hK K; (try simp only [Act.put, List.setIfInBounds_toArray, List.set_cons_zero, List.set_cons_succ])
    refine wpAnyH_ready (rs := [6]) (by kernel_rfl) (by simp) ?_; refine AllReadyH.cons (o := ?_) ?_ (fun K hK => ?_) AllReadyH.nil; rotate_left 1; (next => simp only [List.getElem?_toArray, List.getElem?_cons_succ, List.getElem?_cons_zero]; rfl); go_simp
    go_at_call 82
    (with_reducible refine (costBy_i _ _ _ _ _ _ _ _).mono ?_)
    rintro e w' ⟨rfl, rfl⟩
    (try go_wp2_with fail); refine hK.out _ _ ((by repeat' (first | exact bl_refl _ | refine bl_drew ?_ | refine bl_alloc ?_ _))) (fun hHeld => ?_); clear hK K; (try simp only [Act.put, List.setIfInBounds_toArray, List.set_cons_zero, List.set_cons_succ])
    refine wpAnyH_ready (rs := [7]) (by kernel_rfl) (by simp) ?_; refine AllReadyH.cons (o := ?_) ?_ (fun K hK => ?_) AllReadyH.nil; rotate_left 1; (next => simp only [List.getElem?_toArray, List.getElem?_cons_succ, List.getElem?_cons_zero]; rfl); go_simp
    go_at_call 98
    (with_reducible refine (LP.out _ ?_ _ _ _ _ (W.heap.size + 1) ?_ ?_ ?_ ?_ ?_).mono ?_)
    · exact (by repeat' (first | exact bl_refl _ | refine bl_drew ?_ | refine bl_alloc ?_ _))
    · have h5 := HPS.out.copy
      refine h5.below ?_
      exact (by repeat' (first | exact bl_refl _ | refine bl_drew ?_ | refine bl_alloc ?_ _))
    · have h5 := ((HPS.out.below (bl_alloc (bl_refl _) (.cells #[.slice (some ⟨g, 0, none⟩) L.length c1, .slice (some ⟨gs, 0, none⟩) (L.length + 1) (L.length + 1), .slice (some ⟨gf, 0, none⟩) (L.length + 1) (L.length + 1), .slice (some ⟨gb, 0, none⟩) (L.length + 1) (L.length + 1)] 92))).below (bl_alloc (bl_refl _) (.cells #[.int .i64 d] 3))).copy
      rw [show ((W.alloc (.cells #[.slice (some ⟨g, 0, none⟩) L.length c1, .slice (some ⟨gs, 0, none⟩) (L.length + 1) (L.length + 1), .slice (some ⟨gf, 0, none⟩) (L.length + 1) (L.length + 1), .slice (some ⟨gb, 0, none⟩) (L.length + 1) (L.length + 1)] 92)).alloc (.cells #[.int .i64 d] 3)).heap.size = W.heap.size + 1 + 1 by simp] at h5
      refine h5.below ?_
      exact (by repeat' (first | exact bl_refl _ | refine bl_drew ?_ | refine bl_alloc ?_ _))
    · simp [go_sem]
    · simp [go_sem]
    · simp [go_sem]
    rintro e u2 hret
    obtain ⟨A2, c2, rfl, ho2, hb⟩ := hret.up (show Below W.heap.size W _ from (by repeat' (first | exact bl_refl _ | refine bl_drew ?_ | refine bl_alloc ?_ _)))
    have HO2 := hide (ho2.more HB1.out.size)
    have HB2 := hide hb
    clear hb ho2
    obtain ⟨R1, R2, R3⟩ := R
    (try go_wp2_with fail); refine hK.out _ _ (HB2.out) (fun hHeld => ?_); clear hK K; (try simp only [Act.put, List.setIfInBounds_toArray, List.set_cons_zero, List.set_cons_succ])
    (first | (refine tkY (i := 8) (oi := ?_) (v := ?_) ?_ (by kernel_rfl) ?_ ?_ ?_ (by assumption) ?_; rotate_left 2; (next => simp only [tka, tkb, tkc]; rfl); (next => exact fun _ _ _ h => h); (next => rfl); (next => intro w hSw; (try dsimp only at hSw); go_simp; (try (with_reducible rfl)))) | (refine tkN (i := 8) (oi := ?_) ?_ (by kernel_rfl) ?_ ?_ (by assumption) ?_; rotate_left 1; (next => simp only [tka, tkb, tkc]; rfl); (next => exact fun _ _ _ h => h); (next => rfl))); (try simp only [Act.put, tkd, tke, tkf])
    (first | (refine tkY (i := 9) (oi := ?_) (v := ?_) ?_ (by kernel_rfl) ?_ ?_ ?_ (by assumption) ?_; rotate_left 2; (next => simp only [tka, tkb, tkc]; rfl); (next => exact fun _ _ _ h => h); (next => rfl); (next => intro w hSw; (try dsimp only at hSw); go_simp; (try (with_reducible rfl)))) | (refine tkN (i := 9) (oi := ?_) ?_ (by kernel_rfl) ?_ ?_ (by assumption) ?_; rotate_left 1; (next => simp only [tka, tkb, tkc]; rfl); (next => exact fun _ _ _ h => h); (next => rfl))); (try simp only [Act.put, tkd, tke, tkf])
    (first | (refine tkY (i := 10) (oi := ?_) (v := ?_) ?_ (by kernel_rfl) ?_ ?_ ?_ (by assumption) ?_; rotate_left 2; (next => simp only [tka, tkb, tkc]; rfl); (next => exact fun _ _ _ h => h); (next => rfl); (next => intro w hSw; (try dsimp only at hSw); go_simp; (try (with_reducible rfl)))) | (refine tkN (i := 10) (oi := ?_) ?_ (by kernel_rfl) ?_ ?_ (by assumption) ?_; rotate_left 1; (next => simp only [tka, tkb, tkc]; rfl); (next => exact fun _ _ _ h => h); (next => rfl))); (try simp only [Act.put, tkd, tke, tkf])
    (first | (refine tkY (i := 11) (oi := ?_) (v := ?_) ?_ (by kernel_rfl) ?_ ?_ ?_ (by assumption) ?_; rotate_left 2; (next => simp only [tka, tkb, tkc]; rfl); (next => exact fun _ _ _ h => h); (next => rfl); (next => intro w hSw; (try dsimp only at hSw); go_simp; (try (with_reducible rfl)))) | (refine tkN (i := 11) (oi := ?_) ?_ (by kernel_rfl) ?_ ?_ (by assumption) ?_; rotate_left 1; (next => simp only [tka, tkb, tkc]; rfl); (next => exact fun _ _ _ h => h); (next => rfl))); (try simp only [Act.put, tkd, tke, tkf])
    (first | (refine tkY (i := 12) (oi := ?_) (v := ?_) ?_ (by kernel_rfl) ?_ ?_ ?_ (by assumption) ?_; rotate_left 2; (next => simp only [tka, tkb, tkc]; rfl); (next => exact fun _ _ _ h => h); (next => rfl); (next => intro w hSw; (try dsimp only at hSw); go_simp; (try (with_reducible rfl)))) | (refine tkN (i := 12) (oi := ?_) ?_ (by kernel_rfl) ?_ ?_ (by assumption) ?_; rotate_left 1; (next => simp only [tka, tkb, tkc]; rfl); (next => exact fun _ _ _ h => h); (next => rfl))); (try simp only [Act.put, tkd, tke, tkf])
    (first | (refine tkY (i := 13) (oi := ?_) (v := ?_) ?_ (by kernel_rfl) ?_ ?_ ?_ (by assumption) ?_; rotate_left 2; (next => simp only [tka, tkb, tkc]; rfl); (next => exact fun _ _ _ h => h); (next => rfl); (next => intro w hSw; (try dsimp only at hSw); go_simp; (try (with_reducible rfl)))) | (refine tkN (i := 13) (oi := ?_) ?_ (by kernel_rfl) ?_ ?_ (by assumption) ?_; rotate_left 1; (next => simp only [tka, tkb, tkc]; rfl); (next => exact fun _ _ _ h => h); (next => rfl))); (try simp only [Act.put, tkd, tke, tkf])
    refine wpAnyH_done (by kernel_rfl) ?_ _
    go_wp2
    refine bodyPost_ret (v := .tuple #[.slice A2 R1.length c2, .int .i64 R2, .bool R3]) (by simp [results, Try.results49, go_sem]) rfl ?_
    exact ⟨A2, c2, rfl, HO2.out, bl_call HB2.out HB1.out⟩
end Go.Proofs.Ytafddofajfcffaa

/- The model's table of least costs of lines. -/
namespace Go.Proofs.Ytafddofajfcffaa
open Go.ChangeShapes Go.WideShapes Go.ChangeAt Go.RowKit
set_option linter.unusedVariables false
set_option linter.unusedSimpArgs false
set_option maxRecDepth 10000

/-- The table before the k-th step for the node t. -/
def tbA (g : Nat → Nat → Option Int) (t k j : Nat) : Option Dn := if j < t then dpD g j else if j = t then bst (dpD g) g t k else none
section
variable {g : Nat → Nat → Option Int}
theorem tbA_lt {t k j : Nat} (h : j < t) : tbA g t k j = dpD g j := if_pos h
theorem tbA_at {t k : Nat} : tbA g t k t = bst (dpD g) g t k := by unfold tbA; rw [if_neg (by omega), if_pos rfl]
theorem tbA_next {t : Nat} (h : 0 < t) (j : Nat) : tbA g t t j = tbA g (t + 1) 0 j := by
  unfold tbA
  rcases (by omega : j < t ∨ j = t ∨ j = t + 1 ∨ t + 1 < j) with e | e | e | e
  · rw [if_pos e, if_pos (by omega)]
  · subst e
    rw [if_neg (by omega), if_pos rfl, if_pos (by omega), dpD_succ h]
  · subst e
    rw [if_neg (by omega), if_neg (by omega), if_neg (by omega), if_pos rfl]
    rfl
  · rw [if_neg (by omega), if_neg (by omega), if_neg (by omega), if_neg (by omega)]
theorem tbA_same {t k : Nat} (h : bst (dpD g) g t (k + 1) = bst (dpD g) g t k) (j : Nat) : tbA g t k j = tbA g t (k + 1) j := by
  unfold tbA
  rw [h]
theorem tbA_put {t k : Nat} {d : Dn} (h : bst (dpD g) g t (k + 1) = some d) (j : Nat) : tbA g t (k + 1) j = if j = t then some d else tbA g t k j := by
  unfold tbA
  rw [h]
  rcases (by omega : j < t ∨ j = t ∨ t < j) with e | e | e
  · rw [if_pos e, if_neg (by omega), if_pos e]
  · subst e
    rw [if_neg (by omega), if_pos rfl, if_pos rfl]
  · rw [if_neg (by omega), if_neg (by omega), if_neg (by omega), if_neg (by omega), if_neg (by omega)]
theorem tbA_first (j : Nat) : (tbA g 1 0 j) = if j = 0 then some (0, 0, 0) else none := by
  unfold tbA
  rcases (by omega : j = 0 ∨ j = 1 ∨ 1 < j) with e | e | e
  · subst e; rfl
  · subst e; rfl
  · rw [if_neg (by omega), if_neg (by omega), if_neg (by omega)]
end
theorem tbA_skip {g : Nat → Nat → Option Int} {t : Nat} (h : dpD g t = none) (j : Nat) : tbA g t 0 j = tbA g (t + 1) 0 j := by
  unfold tbA
  rcases (by omega : j < t ∨ j = t ∨ j = t + 1 ∨ t + 1 < j) with e | e | e | e
  · rw [if_pos e, if_pos (by omega)]
  · subst e
    rw [if_neg (by omega), if_pos rfl, if_pos (by omega), h]
    rfl
  · subst e
    rw [if_neg (by omega), if_neg (by omega), if_neg (by omega), if_pos rfl]
    rfl
  · rw [if_neg (by omega), if_neg (by omega), if_neg (by omega), if_neg (by omega)]
theorem tbA_start {g : Nat → Nat → Option Int} (j : Nat) : tbA g 1 0 (j + 1) = none := by
  unfold tbA
  rw [if_neg (by omega)]
  split <;> rfl
def csE (d : Option Dn) : Int := match d with
  | some d => d.1
  | none => 0
def bsE (d : Option Dn) : Int := match d with
  | some d => (d.2.1 : Int) - 1
  | none => 0
/-- Three arrays that hold a table of items: item j is the node j + 1. -/
structure DpB (u : World) (c0 n : Nat) (ti tb : TypeId) (st : Nat → Option Dn) : Prop where
  rc : u.rowIs c0 ti n (fun j => .int .i64 (csE (st (j + 1))))
  rb : u.rowIs (c0 + 1) ti n (fun j => .int .i64 (bsE (st (j + 1))))
  rk : u.rowIs (c0 + 1 + 1) tb n (fun j => .bool (st (j + 1)).isSome)
section
variable {u u' : World} {c0 n m : Nat} {ti tb : TypeId} {st st' : Nat → Option Dn}
theorem DpB.below (h : DpB u c0 n ti tb st) (hb : Below m u u') (hm : u.heap.size ≤ m) : DpB u' c0 n ti tb st := by
  have hb := hb.mono hm
  exact ⟨h.rc.of_block (hb.block _ h.rc.lt), h.rb.of_block (hb.block _ h.rb.lt), h.rk.of_block (hb.block _ h.rk.lt)⟩
theorem DpB.congr (h : DpB u c0 n ti tb st) (e : ∀ j, st (j + 1) = st' (j + 1)) : DpB u c0 n ti tb st' :=
  ⟨h.rc.congr (fun i _ => by rw [e]), h.rb.congr (fun i _ => by rw [e]), h.rk.congr (fun i _ => by rw [e])⟩
theorem DpB.put (h : DpB u c0 n ti tb st) {t : Nat} (d : Dn) (z : Int) (hz : z = (d.2.1 : Int) - 1) (e : ∀ j, st' j = if j = t + 1 then some d else st j) : DpB (((u.setCell ⟨c0, t, none⟩ (.int .i64 d.1)).setCell ⟨c0 + 1, t, none⟩ (.int .i64 z)).setCell ⟨c0 + 1 + 1, t, none⟩ (.bool true)) c0 n ti tb st' := by
  subst hz
  have e' : ∀ j, st' (j + 1) = if j = t then some d else st (j + 1) := fun j => by
    rw [e]
    by_cases hj : j = t
    · rw [if_pos hj, if_pos (by omega)]
    · rw [if_neg hj, if_neg (by omega)]
  constructor
  · refine (((h.rc.set t _).setOther (a := ⟨c0 + 1, t, none⟩) (by show c0 ≠ c0 + 1; omega) _).setOther (a := ⟨c0 + 1 + 1, t, none⟩) (by show c0 ≠ c0 + 1 + 1; omega) _).congr (fun i _ => ?_)
    rw [e']
    split <;> rfl
  · refine (((h.rb.setOther (a := ⟨c0, t, none⟩) (by show c0 + 1 ≠ c0; omega) _).set t _).setOther (a := ⟨c0 + 1 + 1, t, none⟩) (by show c0 + 1 ≠ c0 + 1 + 1; omega) _).congr (fun i _ => ?_)
    rw [e']
    split <;> rfl
  · refine (((h.rk.setOther (a := ⟨c0, t, none⟩) (by show c0 + 1 + 1 ≠ c0; omega) _).setOther (a := ⟨c0 + 1, t, none⟩) (by show c0 + 1 + 1 ≠ c0 + 1; omega) _).set t _).congr (fun i _ => ?_)
    rw [e']
    split <;> rfl
theorem DpB.cells (h : DpB u c0 n ti tb st) {j : Nat} (hj : j < n) : u.cell? ⟨c0, j, none⟩ = some (.int .i64 (csE (st (j + 1)))) ∧ u.cell? ⟨c0 + 1, j, none⟩ = some (.int .i64 (bsE (st (j + 1)))) ∧ u.cell? ⟨c0 + 1 + 1, j, none⟩ = some (.bool (st (j + 1)).isSome) := ⟨h.rc.cell hj, h.rb.cell hj, h.rk.cell hj⟩
theorem DpB.fz (h : DpB u c0 n ti tb st) (j : Nat) : u.frozen? ⟨c0, j, none⟩ = false ∧ u.frozen? ⟨c0 + 1, j, none⟩ = false ∧ u.frozen? ⟨c0 + 1 + 1, j, none⟩ = false := ⟨h.rc.frozen j, h.rb.frozen j, h.rk.frozen j⟩
end
section
variable {L : List It} {C : Int → Int → Int × Bool} {M : Int}
theorem bstB_bd (hM : ∀ a b, -200000000 ≤ (C a b).1 ∧ (C a b).1 ≤ 200000000) {t k : Nat} {d : Dn} (hk : k ≤ 61) (e : bst (dpD (gB C)) (gB C) t k = some d) : -100000000000 ≤ d.1 ∧ d.1 ≤ 100000000000 := by
  obtain ⟨h1, x, n, h2, h3, h4, h5⟩ := bst_from e
  have := dpD_bd (g := gB C) (M := 200000000) (fun i j n e => gB_bd hM e) (d.2.1 + 1) (Nat.lt_succ_self _) h2
  have := gB_bd hM h3
  omega
theorem dpB_bd (hM : ∀ a b, -200000000 ≤ (C a b).1 ∧ (C a b).1 ≤ 200000000) {k : Nat} {d : Dn} (hk : k ≤ 61) (e : dpD (gB C) k = some d) : (-100000000000 ≤ d.1 ∧ d.1 ≤ 100000000000) ∧ d.2.2 ≤ k := by
  have := dpD_bd (g := gB C) (M := 200000000) (fun i j n e => gB_bd hM e) (k + 1) (Nat.lt_succ_self _) e
  omega
theorem gB_at {f : Int} {k q : Nat} (hf : f = (k : Int) - 1) (h : (C f q).2 = true) : gB C k (q + 1) = some (C f q).1 := by
  have := gB_yes (C := C) (i := k) (j := q + 1) (by rw [← hf, show (((q + 1 : Nat) : Int)) - 1 = (q : Int) by omega]; exact h)
  rw [← hf, show (((q + 1 : Nat) : Int)) - 1 = (q : Int) by omega] at this
  exact this
theorem gB_not {f : Int} {k q : Nat} (hf : f = (k : Int) - 1) (h : (C f q).2 = false) : gB C k (q + 1) = none :=
  gB_no (by rw [← hf, show (((q + 1 : Nat) : Int)) - 1 = (q : Int) by omega]; exact h)
end
theorem okL_q {L : List It} {a b : Int} (h : isOk L = true) : okL L a b = hasL L a b := by simp [okL, h]
theorem bool_infoB : (Try.prog.info? 4).map (fun i => (i.zero, i.size, i.bytes)) = some (some (.bool false), 1, 1) := by kernel_rfl
set_option maxHeartbeats 8000000 in
theorem bestTable_s (w : World) (A : Option Addr) (c : Nat) (L : List It) (d t : Int) (h : TL w A L.length L) (hok : isOk L = true) (hd : inB d 1 10000 = true) (ht : inB t 0 10000 = true) :
    Calls Try.prog 97 #[.slice A L.length c, .int .i64 d, .int .i64 t] w fun e w' => e = .returned (.tuple #[.slice (some ⟨w.heap.size, 0, none⟩) L.length L.length, .slice (some ⟨w.heap.size + 1, 0, none⟩) L.length L.length, .slice (some ⟨w.heap.size + 1 + 1, 0, none⟩) L.length L.length]) ∧ DpB w' w.heap.size L.length 3 4 (dpD (gB (fun a b => coL L a b d t))) ∧ Below w.heap.size w w' := by
  obtain ⟨i0, hi0, jz0, jz1, jz2⟩ := info_parts int_info
  obtain ⟨i1, hi1, kz0, kz1, kz2⟩ := info_parts bool_infoB
  have HI := hide h
  obtain ⟨hall, ⟨l0, l1⟩, _⟩ := isOk_iff.1 hok
  have HALL := hide hall
  have HOK := hide hok
  have CB := hide (fun a b => coL_bd hall a b d t)
  have HD := hide hd
  have HT := hide ht
  clear h hall hok hd ht
  go_enter Try.func97, Try.ntmps97
  go_upto_region 4 with (first | (refine wpList_make_row _ rfl _ _ _ rfl 3 i0 (.int .i64 0) Try.underlying24 hi0 jz0 jz1 rfl .i64 .i64 L.length rfl rfl (by rw [jz2]; omega) (by omega) ?_) | (refine wpList_make_row _ rfl _ _ _ rfl 4 i1 (.bool false) Try.underlying117 hi1 kz0 kz1 rfl .i64 .i64 L.length rfl rfl (by rw [kz2]; omega) (by omega) ?_) | fail)
  have D0 : DpB (((w.alloc (.cells (madeCells #[Value.int .i64 0] L.length) 3)).alloc (.cells (madeCells #[Value.int .i64 0] L.length) 3)).alloc (.cells (madeCells #[Value.bool false] L.length) 4)) w.heap.size L.length 3 4 (tbA (gB (fun a b => coL L a b d t)) 1 0) := by
    have a1 := World.rowIs_made w (.int .i64 0) L.length 3
    have a2 := World.rowIs_made (w.alloc (.cells (madeCells #[Value.int .i64 0] L.length) 3)) (.int .i64 0) L.length 3
    have a3 := World.rowIs_made ((w.alloc (.cells (madeCells #[Value.int .i64 0] L.length) 3)).alloc (.cells (madeCells #[Value.int .i64 0] L.length) 3)) (.bool false) L.length 4
    have e1 : ∀ (u : World) (o : Obj), (u.alloc o).heap.size = u.heap.size + 1 := fun u o => by simp
    rw [e1] at a2
    rw [e1, e1] at a3
    exact ⟨((a1.alloc _).alloc _).congr (fun i _ => by rw [tbA_start]; rfl), (a2.alloc _).congr (fun i _ => by rw [tbA_start]; rfl), a3.congr (fun i _ => by rw [tbA_start]; rfl)⟩
  have HB0 : Below w.heap.size w (((w.alloc (.cells (madeCells #[Value.int .i64 0] L.length) 3)).alloc (.cells (madeCells #[Value.int .i64 0] L.length) 3)).alloc (.cells (madeCells #[Value.bool false] L.length) 4)) := by repeat' (first | exact bl_refl _ | refine bl_alloc ?_ _)
  obtain ⟨u0, hu0⟩ : ∃ u, u = (((w.alloc (.cells (madeCells #[Value.int .i64 0] L.length) 3)).alloc (.cells (madeCells #[Value.int .i64 0] L.length) 3)).alloc (.cells (madeCells #[Value.bool false] L.length) 4)) := ⟨_, rfl⟩
  rw [← hu0] at D0 HB0 ⊢
  clear hu0
  have S0 := hide D0
  have B0 := hide HB0
  clear D0 HB0
  go_wp2
  go_loopw [12] (fun i u => ∃ q : Nat, q ≤ L.length ∧ i = .int .i64 q ∧ DpB u w.heap.size L.length 3 4 (tbA (gB (fun a b => coL L a b d t)) (q + 1) 0) ∧ Below w.heap.size w u) (fun i _ => L.length - (intOf i).toNat)
  case atStart => exact ⟨0, by omega, rfl, S0.out, B0.out⟩
  case round =>
    obtain ⟨q, hq, rfl, hst, hbl⟩ := hrel
    have HST := hide hst
    have HBL := hide hbl
    clear hst hbl S0 B0
    by_cases hlt : q < L.length
    · have IB := isBreak_s wr A c L (HI.out.below HBL.out) q hlt (by omega)
      have SKIP := hide (fun (h : mayE L q = false) => tbA_skip (dpB_none (L := L) (C := fun a b => coL L a b d t) (fun a b h => (coL_has h).1) (m := q + 1) (by omega) (by rw [Nat.add_sub_cancel]; exact h)))
      obtain ⟨fb0, hfb⟩ : ∃ fb, fb = mayE L q := ⟨_, rfl⟩
      rw [← hfb] at IB SKIP
      have HIB := hide IB
      clear IB hfb
      cases fb0
      · have N := hide (SKIP.out rfl)
        clear SKIP
        go_wp2_with fail; (with_reducible refine HIB.out.mono ?_); rintro e w' ⟨rfl, rfl⟩; have B1 := HBL; have S1 := HST
        go_wp2
        go_roundw
        case rel => exact ⟨q + 1, by omega, by go_num, S1.out.congr (fun j => N.out (j + 1)), B1.out⟩
        case measure => simp [intOf] <;> omega
      · clear SKIP
        go_wp2_with fail; (with_reducible refine HIB.out.mono ?_); rintro e w' ⟨rfl, rfl⟩; have B1 := HBL; have S1 := HST
        go_wp2
        go_loopw [13] (fun i u => ∃ (k : Nat) (f : Int), k ≤ q + 1 ∧ f = (k : Int) - 1 ∧ i = .int .i64 f ∧ DpB u w.heap.size L.length 3 4 (tbA (gB (fun a b => coL L a b d t)) (q + 1) k) ∧ Below w.heap.size w u) (fun i _ => ((q : Int) - intOf i).toNat)
        case atStart => exact ⟨0, -1, Nat.zero_le _, rfl, rfl, S1.out, B1.out⟩
        case round =>
          obtain ⟨k, f, hk, hf, rfl, hst, hbl⟩ := hrel
          have hfa : f ≤ (k : Int) - 1 := by omega
          have hfb : (k : Int) - 1 ≤ f := by omega
          have HF := hide hf
          clear hf
          have HS := hide hst
          have HB := hide hbl
          clear HST HBL S1 B1 HIB hst hbl
          by_cases hkt : k < q + 1
          · have hfq : f < (q : Int) := by omega
            have hqL : (q : Int) < (L.length : Int) := by omega
            have VL := validLine_s wr A L.length c L (HI.out.below HB.out) (by omega) f q (by omega) (by omega)
            rw [okL_q HOK.out] at VL
            have NOG := hide (fun (h : (coL L f q d t).2 = false) => gB_not (C := fun a b => coL L a b d t) HF.out h)
            have YESG := hide (fun (h : (coL L f q d t).2 = true) => gB_at (C := fun a b => coL L a b d t) HF.out h)
            have HASN := hide (fun (h : hasL L f q = false) => show (coL L f q d t).2 = false from by
              cases e : (coL L f q d t).2
              · rfl
              · rw [(coL_has e).1] at h; cases h)
            have LC := hide (fun (hln : hasL L f q = true) (u : World) (hu : TL u A L.length L) => lineCost_s u A c L hu HALL.out l1 f k q (by omega) d t hln HD.out HT.out)
            have vb := CB.out f q
            have BS := hide (show bst (dpD (gB (fun a b => coL L a b d t))) (gB (fun a b => coL L a b d t)) (q + 1) (k + 1) = rx (bst (dpD (gB (fun a b => coL L a b d t))) (gB (fun a b => coL L a b d t)) (q + 1) k) (dpD (gB (fun a b => coL L a b d t)) k) (gB (fun a b => coL L a b d t) k (q + 1)) k from rfl)
            have SAME := hide (fun h => tbA_same (g := gB (fun a b => coL L a b d t)) (t := q + 1) (k := k) h)
            have PUTA := hide (fun (x : Dn) h => tbA_put (g := gB (fun a b => coL L a b d t)) (t := q + 1) (k := k) (d := x) h)
            have sa := tbA_at (g := gB (fun a b => coL L a b d t)) (t := q + 1) (k := k)
            have BB := hide (fun y hy => bstB_bd (C := fun a b => coL L a b d t) CB.out (t := q + 1) (k := k) (d := y) (by omega) hy)
            have DBK := hide (fun y hy => (dpB_bd (C := fun a b => coL L a b d t) CB.out (k := k) (d := y) (by omega) hy).1)
            obtain ⟨v, hv⟩ : ∃ v, v = (coL L f q d t).1 := ⟨_, rfl⟩
            obtain ⟨fl, hfl⟩ : ∃ v, v = (coL L f q d t).2 := ⟨_, rfl⟩
            obtain ⟨hl, hhl⟩ : ∃ v, v = hasL L f q := ⟨_, rfl⟩
            rw [← hv, ← hfl, ← hhl] at LC
            rw [← hfl] at NOG YESG HASN
            rw [← hv] at YESG vb
            rw [← hhl] at VL HASN
            have HVL := hide VL
            clear hv hfl hhl VL
            have dkx : k = 0 ∨ 0 < k := Nat.eq_zero_or_pos k
            rcases dkx with hk0 | hk0
            · obtain rfl : f = -1 := by omega
              have D0 := hide (show dpD (gB (fun a b => coL L a b d t)) k = some (0, 0, 0) by rw [hk0]; exact dpD_zero)
              have A0 := hide (show bst (dpD (gB (fun a b => coL L a b d t))) (gB (fun a b => coL L a b d t)) (q + 1) k = none by rw [hk0]; rfl)
              have hfn : ¬ ((0 : Int) ≤ -1) := by omega
              have hfd : decide ((0 : Int) ≤ -1) = false := decide_eq_false hfn
              cases hl
              · have N := hide (fun j => SAME.out (by rw [BS.out, NOG.out (HASN.out rfl), rx_no_v]) (j + 1))
                clear NOG YESG HASN LC vb BS SAME PUTA sa BB DBK D0 A0
                go_wp2_with fail; (with_reducible refine HVL.out.mono ?_); rintro e u2 ⟨rfl, hb⟩; have B2 := hide (bl_call hb HB.out); have S2 := hide (HS.out.below hb (Nat.le_refl _)); clear hb
                go_wp2
                go_roundw
                case rel => exact ⟨k + 1, 0, by omega, by omega, by first | rfl | go_num, S2.out.congr N.out, B2.out⟩
                case measure => simp [intOf] <;> omega
              · have HLC := hide (LC.out rfl)
                clear LC HASN
                cases fl
                · have N := hide (fun j => SAME.out (by rw [BS.out, NOG.out rfl, rx_no_v]) (j + 1))
                  clear NOG YESG vb BS SAME PUTA sa BB DBK D0 A0
                  go_wp2_with fail; (with_reducible refine HVL.out.mono ?_); rintro e u2 ⟨rfl, hb⟩; have B2 := hide (bl_call hb HB.out); have S2 := hide (HS.out.below hb (Nat.le_refl _)); clear hb
                  go_wp2_with fail; (with_reducible refine (HLC.out _ (HI.out.below B2.out)).mono ?_); rintro e u3 ⟨rfl, hb⟩; have B3 := hide (bl_call hb B2.out); have S3 := hide (S2.out.below hb (Nat.le_refl _)); clear hb
                  go_wp2
                  go_roundw
                  case rel => exact ⟨k + 1, 0, by omega, by omega, by first | rfl | go_num, S3.out.congr N.out, B3.out⟩
                  case measure => simp [intOf] <;> omega
                · have P := hide (fun j => PUTA.out (v, 0, 1) (by rw [BS.out, A0.out, D0.out, YESG.out rfl, rx_new, hk0]; simp) j)
                  have hz : (-1 : Int) = (((v, 0, 1) : Dn).2.1 : Int) - 1 := by simp
                  have HZ := hide hz
                  have A1 := hide (show tbA (gB (fun a b => coL L a b d t)) (q + 1) k (q + 1) = none from sa.trans A0.out)
                  clear NOG YESG BS SAME PUTA sa BB DBK D0 A0 hz
                  go_wp2_with fail; (with_reducible refine HVL.out.mono ?_); rintro e u2 ⟨rfl, hb⟩; have B2 := hide (bl_call hb HB.out); have S2 := hide (HS.out.below hb (Nat.le_refl _)); clear hb
                  go_wp2_with fail; (with_reducible refine (HLC.out _ (HI.out.below B2.out)).mono ?_); rintro e u3 ⟨rfl, hb⟩; have B3 := hide (bl_call hb B2.out); have S3 := hide (S2.out.below hb (Nat.le_refl _)); clear hb
                  obtain ⟨ct, bt, kt⟩ := S3.out.cells (j := q) (by omega); obtain ⟨fc, fb, fk⟩ := S3.out.fz q
                  rw [A1.out] at kt
                  replace kt : u3.cell? ⟨w.heap.size + 1 + 1, q, none⟩ = some (.bool false) := kt
                  have S4 := hide (S3.out.put (t := q) (v, 0, 1) (-1) HZ.out P.out)
                  have B4 := hide (bl_set (bl_set (bl_set B3.out (p := ⟨w.heap.size, q, none⟩) (Nat.le_refl _) (.int .i64 (v))) (p := ⟨w.heap.size + 1, q, none⟩) (show w.heap.size ≤ w.heap.size + 1 by omega) (.int .i64 (-1))) (p := ⟨w.heap.size + 1 + 1, q, none⟩) (show w.heap.size ≤ w.heap.size + 1 + 1 by omega) (.bool true))
                  go_wp2
                  go_roundw
                  case rel => exact ⟨k + 1, 0, by omega, by omega, by first | rfl | go_num, S4.out, B4.out⟩
                  case measure => simp [intOf] <;> omega
            · obtain ⟨m, rfl⟩ : ∃ m, k = m + 1 := ⟨k - 1, by omega⟩
              obtain rfl : f = (m : Int) := by omega
              have hmq : m < q := by omega
              have hmL : (m : Int) < (L.length : Int) := by omega
              have hf0 : (0 : Int) ≤ (m : Int) := by omega
              obtain ⟨cm, bm, km⟩ := HS.out.cells (j := m) (by omega)
              have sk := tbA_lt (g := gB (fun a b => coL L a b d t)) (t := q + 1) (k := m + 1) (j := m + 1) (by omega)
              cases dk : dpD (gB (fun a b => coL L a b d t)) (m + 1) with
              | none =>
                have N := hide (fun j => SAME.out (by rw [BS.out, dk, rx_no_d]) (j + 1))
                rw [sk, dk] at km
                replace km : wr.cell? ⟨w.heap.size + 1 + 1, m, none⟩ = some (.bool false) := km
                clear NOG YESG HASN LC vb BS SAME PUTA sa BB DBK cm bm sk dk HVL hk0
                go_wp2
                go_roundw
                case rel => exact ⟨m + 1 + 1, (m : Int) + 1, by omega, by omega, by go_num, HS.out.congr N.out, HB.out⟩
                case measure => simp [intOf] <;> omega
              | some x =>
                have xb := DBK.out x dk
                rw [sk, dk] at km cm
                replace km : wr.cell? ⟨w.heap.size + 1 + 1, m, none⟩ = some (.bool true) := km
                replace cm : wr.cell? ⟨w.heap.size, m, none⟩ = some (.int .i64 x.1) := cm
                have DK := hide dk
                have SK := hide (sk.trans dk)
                clear bm sk dk DBK
                cases hl
                · have N := hide (fun j => SAME.out (by rw [BS.out, NOG.out (HASN.out rfl), rx_no_v]) (j + 1))
                  clear NOG YESG HASN LC vb BS SAME PUTA sa BB cm hk0
                  go_wp2_with fail; (with_reducible refine HVL.out.mono ?_); rintro e u2 ⟨rfl, hb⟩; have B2 := hide (bl_call hb HB.out); have S2 := hide (HS.out.below hb (Nat.le_refl _)); clear hb
                  go_wp2
                  go_roundw
                  case rel => exact ⟨m + 1 + 1, (m : Int) + 1, by omega, by omega, by go_num, S2.out.congr N.out, B2.out⟩
                  case measure => simp [intOf] <;> omega
                · have HLC := hide (LC.out rfl)
                  have ws : IntKind.i64.wrap (v + x.1) = v + x.1 := IntWalk.i64_in _ (by omega)
                  obtain ⟨xv, hxv⟩ : ∃ z, z = x.1 := ⟨_, rfl⟩
                  have HXV := hide hxv
                  rw [← hxv] at cm ws xb
                  clear LC HASN hxv hk0
                  cases fl
                  · have N := hide (fun j => SAME.out (by rw [BS.out, NOG.out rfl, rx_no_v]) (j + 1))
                    clear NOG YESG BS SAME PUTA sa BB
                    go_wp2_with fail; (with_reducible refine HVL.out.mono ?_); rintro e u2 ⟨rfl, hb⟩; have B2 := hide (bl_call hb HB.out); have S2 := hide (HS.out.below hb (Nat.le_refl _)); clear hb
                    have cm := (S2.out.cells (j := m) (by omega)).1
                    rw [SK.out] at cm
                    replace cm : u2.cell? ⟨w.heap.size, m, none⟩ = some (.int .i64 xv) := by rw [HXV.out]; exact cm
                    go_wp2_with fail; (with_reducible refine (HLC.out _ (HI.out.below B2.out)).mono ?_); rintro e u3 ⟨rfl, hb⟩; have B3 := hide (bl_call hb B2.out); have S3 := hide (S2.out.below hb (Nat.le_refl _)); clear hb
                    have cm := (S3.out.cells (j := m) (by omega)).1
                    rw [SK.out] at cm
                    replace cm : u3.cell? ⟨w.heap.size, m, none⟩ = some (.int .i64 xv) := by rw [HXV.out]; exact cm
                    go_wp2
                    go_roundw
                    case rel => exact ⟨m + 1 + 1, (m : Int) + 1, by omega, by omega, by go_num, S3.out.congr N.out, B3.out⟩
                    case measure => simp [intOf] <;> omega
                  · have BX := hide (show bst (dpD (gB (fun a b => coL L a b d t))) (gB (fun a b => coL L a b d t)) (q + 1) (m + 1 + 1) = rx (bst (dpD (gB (fun a b => coL L a b d t))) (gB (fun a b => coL L a b d t)) (q + 1) (m + 1)) (some x) (some v) (m + 1) by rw [BS.out, YESG.out rfl, DK.out])
                    have HZ := hide (show (m : Int) = (((v + xv, m + 1, x.2.2 + 1) : Dn).2.1 : Int) - 1 by simp)
                    clear BS YESG NOG
                    cases dt : bst (dpD (gB (fun a b => coL L a b d t))) (gB (fun a b => coL L a b d t)) (q + 1) (m + 1) with
                    | none =>
                      have P := hide (fun j => PUTA.out (v + xv, m + 1, x.2.2 + 1) (by rw [BX.out, dt, rx_new, HXV.out, Int.add_comm]) j)
                      have A1 := hide (sa.trans dt)
                      clear BX SAME PUTA sa BB dt
                      go_wp2_with fail; (with_reducible refine HVL.out.mono ?_); rintro e u2 ⟨rfl, hb⟩; have B2 := hide (bl_call hb HB.out); have S2 := hide (HS.out.below hb (Nat.le_refl _)); clear hb
                      go_wp2_with fail; (with_reducible refine (HLC.out _ (HI.out.below B2.out)).mono ?_); rintro e u3 ⟨rfl, hb⟩; have B3 := hide (bl_call hb B2.out); have S3 := hide (S2.out.below hb (Nat.le_refl _)); clear hb
                      have cm := (S3.out.cells (j := m) (by omega)).1; rw [SK.out] at cm; replace cm : u3.cell? ⟨w.heap.size, m, none⟩ = some (.int .i64 xv) := by rw [HXV.out]; exact cm
                      obtain ⟨ct, bt, kt⟩ := S3.out.cells (j := q) (by omega); obtain ⟨fc, fb, fk⟩ := S3.out.fz q
                      rw [A1.out] at kt
                      replace kt : u3.cell? ⟨w.heap.size + 1 + 1, q, none⟩ = some (.bool false) := kt
                      have S4 := hide (S3.out.put (t := q) (v + xv, m + 1, x.2.2 + 1) (m : Int) HZ.out P.out)
                      have B4 := hide (bl_set (bl_set (bl_set B3.out (p := ⟨w.heap.size, q, none⟩) (Nat.le_refl _) (.int .i64 (v + xv))) (p := ⟨w.heap.size + 1, q, none⟩) (show w.heap.size ≤ w.heap.size + 1 by omega) (.int .i64 ((m : Int)))) (p := ⟨w.heap.size + 1 + 1, q, none⟩) (show w.heap.size ≤ w.heap.size + 1 + 1 by omega) (.bool true))
                      go_wp2
                      go_roundw
                      case rel => exact ⟨m + 1 + 1, (m : Int) + 1, by omega, by omega, by go_num, S4.out, B4.out⟩
                      case measure => simp [intOf] <;> omega
                    | some y =>
                      have A1 := hide (sa.trans dt)
                      obtain ⟨yv, hyv⟩ : ∃ z, z = y.1 := ⟨_, rfl⟩
                      have HYV := hide hyv
                      have yb := BB.out y dt
                      rw [← hyv] at yb
                      by_cases hlq : v + xv < yv
                      · have P := hide (fun j => PUTA.out (v + xv, m + 1, x.2.2 + 1) (by rw [BX.out, dt, rx_less (by rw [← HXV.out, ← HYV.out]; omega), HXV.out, Int.add_comm]) j)
                        have hdd : decide (v + xv < yv) = true := decide_eq_true hlq
                        clear BX SAME PUTA sa BB dt hyv
                        go_wp2_with fail; (with_reducible refine HVL.out.mono ?_); rintro e u2 ⟨rfl, hb⟩; have B2 := hide (bl_call hb HB.out); have S2 := hide (HS.out.below hb (Nat.le_refl _)); clear hb
                        go_wp2_with fail; (with_reducible refine (HLC.out _ (HI.out.below B2.out)).mono ?_); rintro e u3 ⟨rfl, hb⟩; have B3 := hide (bl_call hb B2.out); have S3 := hide (S2.out.below hb (Nat.le_refl _)); clear hb
                        have cm := (S3.out.cells (j := m) (by omega)).1; rw [SK.out] at cm; replace cm : u3.cell? ⟨w.heap.size, m, none⟩ = some (.int .i64 xv) := by rw [HXV.out]; exact cm
                        obtain ⟨ct, bt, kt⟩ := S3.out.cells (j := q) (by omega); obtain ⟨fc, fb, fk⟩ := S3.out.fz q
                        rw [A1.out] at kt ct
                        replace kt : u3.cell? ⟨w.heap.size + 1 + 1, q, none⟩ = some (.bool true) := kt
                        replace ct : u3.cell? ⟨w.heap.size, q, none⟩ = some (.int .i64 yv) := by rw [HYV.out]; exact ct
                        have S4 := hide (S3.out.put (t := q) (v + xv, m + 1, x.2.2 + 1) (m : Int) HZ.out P.out)
                        have B4 := hide (bl_set (bl_set (bl_set B3.out (p := ⟨w.heap.size, q, none⟩) (Nat.le_refl _) (.int .i64 (v + xv))) (p := ⟨w.heap.size + 1, q, none⟩) (show w.heap.size ≤ w.heap.size + 1 by omega) (.int .i64 ((m : Int)))) (p := ⟨w.heap.size + 1 + 1, q, none⟩) (show w.heap.size ≤ w.heap.size + 1 + 1 by omega) (.bool true))
                        go_wp2
                        go_roundw
                        case rel => exact ⟨m + 1 + 1, (m : Int) + 1, by omega, by omega, by go_num, S4.out, B4.out⟩
                        case measure => simp [intOf] <;> omega
                      · have N := hide (fun j => SAME.out (by rw [BX.out, dt, rx_keep (by rw [← HXV.out, ← HYV.out]; omega)]) (j + 1))
                        have hdd : decide (v + xv < yv) = false := decide_eq_false hlq
                        clear BX SAME PUTA sa BB dt hyv HZ
                        go_wp2_with fail; (with_reducible refine HVL.out.mono ?_); rintro e u2 ⟨rfl, hb⟩; have B2 := hide (bl_call hb HB.out); have S2 := hide (HS.out.below hb (Nat.le_refl _)); clear hb
                        go_wp2_with fail; (with_reducible refine (HLC.out _ (HI.out.below B2.out)).mono ?_); rintro e u3 ⟨rfl, hb⟩; have B3 := hide (bl_call hb B2.out); have S3 := hide (S2.out.below hb (Nat.le_refl _)); clear hb
                        have cm := (S3.out.cells (j := m) (by omega)).1; rw [SK.out] at cm; replace cm : u3.cell? ⟨w.heap.size, m, none⟩ = some (.int .i64 xv) := by rw [HXV.out]; exact cm
                        obtain ⟨ct, bt, kt⟩ := S3.out.cells (j := q) (by omega); obtain ⟨fc, fb, fk⟩ := S3.out.fz q
                        rw [A1.out] at kt ct
                        replace kt : u3.cell? ⟨w.heap.size + 1 + 1, q, none⟩ = some (.bool true) := kt
                        replace ct : u3.cell? ⟨w.heap.size, q, none⟩ = some (.int .i64 yv) := by rw [HYV.out]; exact ct
                        go_wp2
                        go_roundw
                        case rel => exact ⟨m + 1 + 1, (m : Int) + 1, by omega, by omega, by go_num, S3.out.congr N.out, B3.out⟩
                        case measure => simp [intOf] <;> omega
          · have hkq : k = q + 1 := by omega
            have N := hide (show DpB wr w.heap.size L.length 3 4 (tbA (gB (fun a b => coL L a b d t)) (q + 1 + 1) 0) from HS.out.congr (fun j => by rw [hkq]; exact tbA_next (by omega) (j + 1)))
            have g0 : ¬ f < (q : Int) := by omega
            clear hkq HS
            go_wp2
            go_roundw
            case rel => exact ⟨q + 1, by omega, by go_num, N.out, HB.out⟩
            case measure => simp [intOf] <;> omega
    · obtain rfl : q = L.length := by omega
      have N := hide (show DpB wr w.heap.size L.length 3 4 (dpD (gB (fun a b => coL L a b d t))) from ⟨HST.out.rc.congr (fun i hi => by rw [tbA_lt (by omega)]), HST.out.rb.congr (fun i hi => by rw [tbA_lt (by omega)]), HST.out.rk.congr (fun i hi => by rw [tbA_lt (by omega)])⟩)
      clear HST
      go_wp2
      refine bodyPost_ret (v := .tuple #[.slice (some ⟨w.heap.size, 0, none⟩) L.length L.length, .slice (some ⟨w.heap.size + 1, 0, none⟩) L.length L.length, .slice (some ⟨w.heap.size + 1 + 1, 0, none⟩) L.length L.length]) (by simp [results, Try.results97, go_sem]) rfl ⟨rfl, N.out, HBL.out⟩
end Go.Proofs.Ytafddofajfcffaa

/- BestBreaks in the model. -/
namespace Go.Proofs.Ytafddofajfcffaa
open Go.ChangeShapes Go.WideShapes Go.ChangeAt Go.RowKit
set_option linter.unusedVariables false
set_option linter.unusedSimpArgs false
set_option maxRecDepth 10000

theorem OL.none_capB {w : World} {e : TypeId} {B : Nat} {A : Option Addr} {c : Nat} {l : List Int} (h : OL w e B A c l) : A = none → c = 0 := fun e => by
  subst e
  rcases h.2 with ⟨h1, _⟩ | ⟨g, cap, cur, h1, _⟩
  · injection h1
  · cases h1
set_option maxHeartbeats 4000000 in
theorem BestBreaks_s (w : World) (A : Option Addr) (n c : Nat) (L : List It) (d t : Int) (h : TL w A n L) (hn : n ≤ 1048576) :
    Calls Try.prog 48 #[.slice A n c, .int .i64 d, .int .i64 t] w (RetW w (bbV L d t)) := by
  obtain ⟨i0, hi0, jz0, jz1, jz2⟩ := info_parts int_info
  obtain rfl : n = L.length := h.1
  have HI := hide h
  have VI := fun (u : World) (hu : TL u A L.length L) => validItems_s u A L.length c L hu (by omega)
  have H0 : Hid (OL (w.alloc (.cells #[] 3)) 3 w.heap.size (some ⟨w.heap.size, 0, none⟩) 0 []) := hide (by
    have := OL.lit (w := w) (e := 3) (B := w.heap.size) (Nat.le_refl _) [] (by simp)
    simpa using this)
  clear h
  cases hok : isOk L
  · have O := hide (bbV_no (d := d) (t := t) hok)
    rw [hok] at VI
    replace VI := hide VI
    clear hok
    go_enter Try.func48, Try.ntmps48
    go_wp2_with (go_at_call 86; (with_reducible refine (VI.out _ (HI.out.alloc _)).mono ?_); rintro e u1 ⟨rfl, hb⟩; have HB1 := hide (bl_call hb (bl_alloc (bl_refl w) (.cells #[] 3))); have H1 := hide (H0.out.below hb); clear hb)
    refine bodyPost_ret (v := .tuple #[.slice none 0 0, .int .i64 0, .bool false]) (by simp [results, Try.results48, go_sem]) rfl ?_
    exact RetW.no O.out HB1.out
  cases q1 : inB d 1 10000
  · have O := hide (bbV_arg (L := L) (d := d) (t := t) (by rw [q1]; rfl))
    rw [hok] at VI
    replace VI := hide VI
    clear hok
    go_enter Try.func48, Try.ntmps48
    go_wp2_with (first | (go_at_call 86; (with_reducible refine (VI.out _ (HI.out.alloc _)).mono ?_); rintro e u1 ⟨rfl, hb⟩; have HB1 := hide (bl_call hb (bl_alloc (bl_refl w) (.cells #[] 3))); have H1 := hide (H0.out.below hb); clear hb) | (go_at_call 69; refine (validWidth_ss _ _).mono ?_; rintro e w' ⟨rfl, rfl⟩))
    refine bodyPost_ret (v := .tuple #[.slice none 0 0, .int .i64 0, .bool false]) (by simp [results, Try.results48, go_sem]) rfl ?_
    exact RetW.no O.out HB1.out
  cases q2 : inB t 0 10000
  · have O := hide (bbV_arg (L := L) (d := d) (t := t) (by rw [q2]; simp))
    rw [hok] at VI
    replace VI := hide VI
    clear hok
    go_enter Try.func48, Try.ntmps48
    go_wp2_with (first | (go_at_call 86; (with_reducible refine (VI.out _ (HI.out.alloc _)).mono ?_); rintro e u1 ⟨rfl, hb⟩; have HB1 := hide (bl_call hb (bl_alloc (bl_refl w) (.cells #[] 3))); have H1 := hide (H0.out.below hb); clear hb) | (go_at_call 69; refine (validWidth_ss _ _).mono ?_; rintro e w' ⟨rfl, rfl⟩) | (go_at_call 96; refine (inRange_any _ _ _ _).mono ?_; rintro e w' ⟨rfl, rfl⟩))
    refine bodyPost_ret (v := .tuple #[.slice none 0 0, .int .i64 0, .bool false]) (by simp [results, Try.results48, go_sem]) rfl ?_
    exact RetW.no O.out HB1.out
  have E := hide (bbV_yes (d := d) (t := t) hok)
  have BT := hide (fun (u : World) (hu : TL u A L.length L) => bestTable_s u A c L d t hu hok q1 q2)
  obtain ⟨hall, ⟨l0, l1⟩, _⟩ := isOk_iff.1 hok
  have CB := hide (fun a b => coL_bd hall a b d t)
  rw [hok] at VI
  replace VI := hide VI
  obtain ⟨r, hr⟩ : ∃ r, L.length = r + 1 := ⟨L.length - 1, by omega⟩
  have HR := hide hr
  have CAST : (L.length : Int) - 1 = (r : Int) := by omega
  have CASTw : IntKind.i64.wrap (r : Int) = (r : Int) := IntWalk.i64_in _ (by omega)
  have r1 : (r : Int) < (L.length : Int) := by omega
  have r2 : r < L.length := by omega
  have r0 : (0 : Int) ≤ (r : Int) := by omega
  clear hr hall hok
  go_enter Try.func48, Try.ntmps48
  go_upto_region 4 with (first | (go_at_call 86; (with_reducible refine (VI.out _ (HI.out.alloc _)).mono ?_); rintro e u1 ⟨rfl, hb⟩; have HB1 := hide (bl_call hb (bl_alloc (bl_refl w) (.cells #[] 3))); have H1 := hide (H0.out.below hb); clear hb) | (go_at_call 69; refine (validWidth_ss _ _).mono ?_; rintro e w' ⟨rfl, rfl⟩) | (go_at_call 96; refine (inRange_any _ _ _ _).mono ?_; rintro e w' ⟨rfl, rfl⟩) | fail)
  clear q1 q2
  go_wp2_with fail
  (with_reducible refine (BT.out _ (HI.out.below HB1.out)).mono ?_)
  rintro e u2 ⟨rfl, hst, hb⟩
  have HST := hide hst
  have HBL := hide (bl_call hb HB1.out)
  have HOL := hide (H1.out.below hb)
  have hc0 : w.heap.size ≤ u1.heap.size := HB1.out.size
  obtain ⟨c0, hc⟩ : ∃ c0, c0 = u1.heap.size := ⟨_, rfl⟩
  rw [← hc] at HST hc0 ⊢
  obtain ⟨_, _, kN⟩ := HST.out.cells (j := r) r2
  rw [← HR.out] at kN
  clear BT VI H0 H1 HB1 hst hb hc
  cases dN : dpD (gB (fun a b => coL L a b d t)) L.length with
  | none =>
    rw [dN] at kN
    replace kN : u2.cell? ⟨c0 + 1 + 1, r, none⟩ = some (.bool false) := kN
    have E2 := hide (E.out.trans (show dpR (gB (fun a b => coL L a b d t)) ndB L.length = ([], 0, false) by unfold dpR; rw [dN]))
    clear dN
    go_wp2
    refine bodyPost_ret (v := .tuple #[.slice none 0 0, .int .i64 0, .bool false]) (by simp [results, Try.results48, go_sem]) rfl ?_
    exact RetW.no E2.out HBL.out
  | some dn =>
    rw [dN] at kN
    replace kN : u2.cell? ⟨c0 + 1 + 1, r, none⟩ = some (.bool true) := kN
    have E2 := hide (E.out.trans (show dpR (gB (fun a b => coL L a b d t)) ndB L.length = (bkL (gB (fun a b => coL L a b d t)) ndB dn.2.2 L.length, dn.1, true) by unfold dpR; rw [dN]))
    have hP := (dpB_bd CB.out (k := L.length) (by omega) dN).2
    have DN := hide dN
    obtain ⟨F, hF⟩ : ∃ F, F = bkL (gB (fun a b => coL L a b d t)) ndB dn.2.2 L.length := ⟨_, rfl⟩
    rw [← hF] at E2
    have HF := hide hF
    clear dN hF E
    go_wp2
    clear kN
    go_loopw [9, 14] (fun v i u => ∃ (j : Nat) (x : Dn) (A' : Option Addr) (cc q : Nat) (l : List Int) (f : Int), j ≤ L.length ∧ dpD (gB (fun a b => coL L a b d t)) j = some x ∧ i = .int .i64 f ∧ f = (j : Int) - 1 ∧ v = .slice A' q cc ∧ q = l.length ∧ x.2.2 + q = dn.2.2 ∧ F = bkL (gB (fun a b => coL L a b d t)) ndB x.2.2 j ++ l ∧ OL u 3 w.heap.size A' cc l ∧ DpB u c0 L.length 3 4 (dpD (gB (fun a b => coL L a b d t))) ∧ Below w.heap.size w u) (fun _ i _ => (intOf i + 1).toNat)
    case atStart => exact ⟨L.length, dn, some ⟨w.heap.size, 0, none⟩, 0, 0, [], r, Nat.le_refl _, DN.out, rfl, CAST.symm, rfl, rfl, by omega, by rw [HF.out, List.append_nil], HOL.out, HST.out, HBL.out⟩
    case round =>
      obtain ⟨j, x, A', cc, q, l, f, hj, hd, rfl, hf, rfl, hq, hp, hl, hol, hst, hbl⟩ := hrel
      have hfa : f ≤ (j : Int) - 1 := by omega
      have hfb : (j : Int) - 1 ≤ f := by omega
      have HQ := hide hq
      have HL := hide hl
      have HD := hide hd
      have HO := hide hol
      have HS := hide hst
      have HB := hide hbl
      have HP := hide hp
      have hql : q ≤ 61 := by omega
      have hz := hbl.size
      clear hq hl hd hol hst hbl HST HOL HBL HF hf hp
      by_cases hj0 : 0 < j
      · obtain ⟨m, rfl⟩ : ∃ m, j = m + 1 := ⟨j - 1, by omega⟩
        obtain rfl : f = (m : Int) := by omega
        obtain ⟨hb1, y, n', hy, _, _, hx5⟩ := dpD_from hj0 HD.out
        have HX5 := hide hx5
        have HY := hide hy
        have hmL : (m : Int) < (L.length : Int) := by omega
        have hm0 : (0 : Int) ≤ (m : Int) := by omega
        have BF := hide (show bkL (gB (fun a b => coL L a b d t)) ndB x.2.2 (m + 1) = bkL (gB (fun a b => coL L a b d t)) ndB y.2.2 x.2.1 ++ [(m : Int)] by
          rw [HX5.out]
          show bkL _ _ _ (bfN _ (m + 1)) ++ [ndB (m + 1)] = _
          rw [bfN_of HD.out, show ndB (m + 1) = (m : Int) by show (((m + 1 : Nat) : Int)) - 1 = (m : Int); omega])
        have H1 := hide (show OL (wr.alloc (.cells #[.int .i64 m] 3)) 3 wr.heap.size (some ⟨wr.heap.size, 0, none⟩) 1 [(m : Int)] from by
          have := OL.lit (w := wr) (e := 3) (B := wr.heap.size) (Nat.le_refl _) [(m : Int)] (by simp [maxLen])
          simpa using this)
        have HIL := hide (show IL (wr.alloc (.cells #[.int .i64 m] 3)) A' q l by rw [HQ.out]; exact (HO.out.alloc _).reads)
        have HNC := hide HO.out.none_capB
        have HBa := hide (bl_alloc HB.out (.cells #[.int .i64 m] 3))
        have sB := hide (show bsE (dpD (gB (fun a b => coL L a b d t)) (m + 1)) = (x.2.1 : Int) - 1 by rw [HD.out]; rfl)
        have hbx : x.2.1 ≤ L.length := by omega
        have hza : (wr.alloc (.cells #[.int .i64 m] 3)).heap.size = wr.heap.size + 1 := by simp
        clear hy HO HD hx5
        go_wp2_with (at_builtin; go_loud (refine wpList_append_list rfl (.tmp 53) (.tmp 54) _ rfl 3 i0 Try.underlying24 hi0 jz0 jz1 jz2 wr.heap.size (some ⟨wr.heap.size, 0, none⟩) 1 1 [(m : Int)] rfl rfl H1.out A' q cc l rfl HIL.out HNC.out (by omega) (by omega) ?_); intro A2 c2 u3 ho2 hb2 hg2; have HO2 := hide (ho2.more hz); have HS2 := hide (HS.out.below ((bl_alloc (bl_refl wr) (.cells #[.int .i64 m] 3)).trans hb2) (Nat.le_refl _)); have HB2 := hide (HBa.out.trans (hb2.mono hz)); have kb : u3.cell? ⟨c0 + 1, m, none⟩ = some (.int .i64 ((x.2.1 : Int) - 1)) := (by have h7 := (HS2.out.cells (j := m) (by omega)).2.1; rw [sB.out] at h7; exact h7); clear ho2 hb2 hg2)
        go_roundw
        case rel => exact ⟨x.2.1, y, A2, c2, 1 + q, [(m : Int)] ++ l, (x.2.1 : Int) - 1, hbx, HY.out, rfl, rfl, rfl, by rw [List.length_append, ← HQ.out]; rfl, by have := HX5.out; have := HP.out; omega, by rw [HL.out, BF.out, List.append_assoc], HO2.out, HS2.out, HB2.out⟩
        case measure => simp [intOf] <;> omega
      · obtain rfl : j = 0 := by omega
        obtain rfl : f = -1 := by omega
        have := dpD_zero_of HD.out
        subst this
        have E3 := hide (E2.out.trans (by rw [HL.out]; rfl : (F, dn.1, true) = (l, dn.1, true)))
        obtain ⟨cN, _, _⟩ := HS.out.cells (j := r) r2
        rw [← HR.out, DN.out] at cN
        replace cN : wr.cell? ⟨c0, r, none⟩ = some (.int .i64 dn.1) := cN
        clear HS HL hz HD hfa hfb
        go_wp2
        go_quiet (fail)
        go_wp2
        refine bodyPost_ret (v := .tuple #[.slice A' q cc, .int .i64 dn.1, .bool true]) (by simp [results, Try.results48, go_sem]) rfl ?_
        rw [E3.out]
        exact ⟨A', cc, by rw [HQ.out], HO.out.drewN _, bl_drewN HB.out _⟩
end Go.Proofs.Ytafddofajfcffaa

/- The laws on fitting lines and their cost hold for every code: lines fit like their glue, allowed lines are not overfull. No condition. -/
namespace Go.Proofs.Ytafddofajfcffaa
open Go.ChangeShapes Go.WideShapes Go.ChangeAt Go.RowKit
set_option linter.unusedVariables false

theorem DrawFitLine_any (w : World) (a : Option Addr) (n c : Nat) (zs : List Int) (h : IsRow .u8 w a n c zs) :
    Calls Try.prog 111 #[.slice a n c] w fun e w' => ∃ (A : Option Addr) (c : Nat) (L : List It) (x y d : Int), e = .returned (.tuple #[.slice A L.length c, .int .i64 x, .int .i64 y, .int .i64 d]) ∧ TO w' 76 w.heap.size A c L ∧ L.length ≤ 23 ∧ (-1 ≤ x ∧ x ≤ 23) ∧ (-1 ≤ y ∧ y ≤ 23) ∧ (0 ≤ d ∧ d ≤ 10001) ∧ Below w.heap.size w w' := by
  go_enter Try.func111, Try.ntmps111
  go_wp2_with fail
  (with_reducible refine (newReader_any _ _ _ _ _ h).mono ?_)
  rintro e u0 ⟨rfl, hrd, hb⟩
  have hgl : w.heap.size < u0.heap.size := hrd.lt
  go_wp2_with fail
  (with_reducible refine (someLine_any _ _ _ _ hrd (by omega) (by omega)).mono ?_)
  rintro e u1 ⟨A, c1, L, x, y, rfl, hol, hll, hx, hy, hrd1, hon1⟩
  have HO1 := hide (on_call hon1 (on_below hb (on_refl w (some w.heap.size))))
  have hz1 := hon1.size
  clear hon1 hb
  go_wp2_with fail
  (with_reducible refine (someWidth_any _ _ _ _ hrd1 (by omega)).mono ?_)
  rintro e u2 ⟨d, hd, rfl, hrd2, hon2⟩
  have hol2 := hol.readI hon2 (by omega)
  have O2 := on_call hon2 HO1.out
  go_wp2
  refine bodyPost_ret (v := .tuple #[.slice A L.length c1, .int .i64 x, .int .i64 y, .int .i64 d]) (by simp [results, Try.results111, go_sem]) rfl ⟨A, c1, L, x, y, d, rfl, hol2.more (by omega), hll, hx, hy, hd, on_new O2 (Nat.le_refl _)⟩
end Go.Proofs.Ytafddofajfcffaa

/- Drawn paragraphs, widths and tolerances. -/
namespace Go.Proofs.Ytafddofajfcffaa
open Go.ChangeShapes Go.WideShapes Go.ChangeAt Go.RowKit
set_option linter.unusedVariables false

theorem DrawBestBreaks_any (w : World) (a : Option Addr) (n c : Nat) (zs : List Int) (h : IsRow .u8 w a n c zs) :
    Calls Try.prog 67 #[.slice a n c] w fun e w' => ∃ (A : Option Addr) (c : Nat) (L : List It) (d t : Int), e = .returned (.tuple #[.slice A L.length c, .int .i64 d, .int .i64 t]) ∧ TO w' 76 w.heap.size A c L ∧ L.length ≤ 23 ∧ (0 ≤ d ∧ d ≤ 10001) ∧ (-1 ≤ t ∧ t ≤ 20000) ∧ Below w.heap.size w w' := by
  go_enter Try.func67, Try.ntmps67
  go_wp2_with fail
  (with_reducible refine (newReader_any _ _ _ _ _ h).mono ?_)
  rintro e u0 ⟨rfl, hrd, hb⟩
  have hgl : w.heap.size < u0.heap.size := hrd.lt
  go_wp2_with fail
  (with_reducible refine (anyItems_any _ _ _ _ hrd (by omega) (by omega)).mono ?_)
  rintro e u1 ⟨A, c1, L, rfl, hol, hll, hrd1, hon1⟩
  have HO1 := hide (on_call hon1 (on_below hb (on_refl w (some w.heap.size))))
  have hz1 := hon1.size
  clear hon1 hb
  go_wp2_with fail
  (with_reducible refine (someWidth_any _ _ _ _ hrd1 (by omega)).mono ?_)
  rintro e u2 ⟨d, hd, rfl, hrd2, hon2⟩
  have hol2 := hol.readI hon2 (by omega)
  have HO2 := hide (on_call hon2 HO1.out)
  have hz2 := hon2.size
  clear hon2
  go_wp2_with fail
  (with_reducible refine (someTolerance_any _ _ _ _ hrd2 (by omega) (by omega)).mono ?_)
  rintro e u3 ⟨t, rfl, ht, hrd3, hon3⟩
  have hol3 := hol2.readI hon3 (by omega)
  have O3 := on_call hon3 HO2.out
  go_wp2
  refine bodyPost_ret (v := .tuple #[.slice A L.length c1, .int .i64 d, .int .i64 t]) (by simp [results, Try.results67, go_sem]) rfl ⟨A, c1, L, d, t, rfl, hol3.more (by omega), hll, hd, ht, on_new O3 (Nat.le_refl _)⟩
theorem DrawFirstFit_any (w : World) (a : Option Addr) (n c : Nat) (zs : List Int) (h : IsRow .u8 w a n c zs) :
    Calls Try.prog 66 #[.slice a n c] w fun e w' => ∃ (A : Option Addr) (c : Nat) (L : List It) (d : Int), e = .returned (.tuple #[.slice A L.length c, .int .i64 d]) ∧ TO w' 76 w.heap.size A c L ∧ L.length ≤ 23 ∧ (0 ≤ d ∧ d ≤ 10001) ∧ Below w.heap.size w w' := by
  go_enter Try.func66, Try.ntmps66
  go_wp2_with fail
  (with_reducible refine (newReader_any _ _ _ _ _ h).mono ?_)
  rintro e u0 ⟨rfl, hrd, hb⟩
  have hgl : w.heap.size < u0.heap.size := hrd.lt
  go_wp2_with fail
  (with_reducible refine (anyItems_any _ _ _ _ hrd (by omega) (by omega)).mono ?_)
  rintro e u1 ⟨A, c1, L, rfl, hol, hll, hrd1, hon1⟩
  have HO1 := hide (on_call hon1 (on_below hb (on_refl w (some w.heap.size))))
  have hz1 := hon1.size
  clear hon1 hb
  go_wp2_with fail
  (with_reducible refine (someWidth_any _ _ _ _ hrd1 (by omega)).mono ?_)
  rintro e u2 ⟨d, hd, rfl, hrd2, hon2⟩
  have hol2 := hol.readI hon2 (by omega)
  have O2 := on_call hon2 HO1.out
  go_wp2
  refine bodyPost_ret (v := .tuple #[.slice A L.length c1, .int .i64 d]) (by simp [results, Try.results66, go_sem]) rfl ⟨A, c1, L, d, rfl, hol2.more (by omega), hll, hd, on_new O2 (Nat.le_refl _)⟩
end Go.Proofs.Ytafddofajfcffaa

/- Drawn breaks. -/
namespace Go.Proofs.Ytafddofajfcffaa
open Go.ChangeShapes Go.WideShapes Go.ChangeAt Go.RowKit
set_option linter.unusedVariables false
set_option linter.unusedSimpArgs false

theorem okW_nil : okW [] := fun k hk => by simp at hk
theorem okW_snoc {E : List Int} {x : Int} (h : okW E) (hx : -9223372036854775808 ≤ x ∧ x ≤ 9223372036854775807) : okW (E ++ [x]) := fun k hk => by
  rw [List.length_append] at hk
  simp at hk
  rcases (by omega : k < E.length ∨ k = E.length) with e | e
  · rw [ng_appB e]; exact h k e
  · subst e; rw [ng_lastB]; exact hx
theorem brO_at {L : List It} {j : Nat} (hj : j < (brO L).length) : ∃ q : Nat, ng (brO L) j = (q : Int) ∧ q < L.length := by
  cases hok : isOk L
  · rw [brO_no hok] at hj; simp at hj
  · have hm := ng_mem hj
    obtain ⟨z, hz⟩ : ∃ z, z = ng (brO L) j := ⟨_, rfl⟩
    rw [← hz] at hm ⊢
    rw [brO_yes hok] at hm
    have := brTo_mem hm
    exact ⟨z.toNat, by omega, by omega⟩
theorem brO_len2 (L : List It) : (brO L).length ≤ L.length := by
  cases hok : isOk L
  · rw [brO_no hok]; simp
  · rw [brO_yes hok]; exact brTo_len L _
theorem own_blk2 {w w' : World} {B n size : Nat} {e : TypeId} {v : Value} {xs : List Value} (h : w.ownsRow B e size v n xs) (hk : ∀ k, v.ownBlock = some k → w'.heap[k]? = w.heap[k]?) : w'.ownsRow B e size v n xs := by
  refine ⟨h.1, ?_⟩
  rcases h.2 with h0 | ⟨g, cap, cur, h1, h2, h3, h4⟩
  · exact .inl h0
  · refine .inr ⟨g, cap, cur, h1, h2, ?_, h4⟩
    rw [hk g (by rw [h1]; rfl)]
    exact h3
set_option maxRecDepth 8000 in
set_option maxHeartbeats 4000000 in
theorem someBreaks_any (w : World) (B g N : Nat) (h : RD w B g N) (hN : N ≤ 1000000) (hB : B ≤ w.heap.size) (A : Option Addr) (c Bl : Nat) (L : List It) (hl : TO w 76 Bl A c L) (hgl : g < Bl) (hll : L.length ≤ 23) (d t : Int) :
    Calls Try.prog 105 #[.pointer (some ⟨g, 0, none⟩), .slice A L.length c, .int .i64 d, .int .i64 t] w fun e w' => ∃ (A' : Option Addr) (c' : Nat) (E : List Int), e = .returned (.slice A' E.length c') ∧ OL w' 3 w.heap.size A' c' E ∧ E.length ≤ 60 ∧ okW E ∧ RD w' B g (N + 60) ∧ w.grownBy w' (some g) := by
  have hg := h.lt
  have hgB := h.1
  obtain ⟨i0, hi0, jz0, jz1, jz2⟩ := info_parts int_info
  have BBS := bbV_len (L := L) (d := d) (t := t)
  have CB := fun (u : World) (hu : TL u A L.length L) => BestBreaks_s u A L.length c L d t hu (by omega)
  unfold RetW at CB
  obtain ⟨V, hV⟩ : ∃ V, V = bbV L d t := ⟨_, rfl⟩
  rw [← hV] at CB BBS
  obtain ⟨F, y, fo⟩ := V
  simp only at CB BBS
  obtain ⟨fl, fw⟩ := BBS
  have HFW := hide fw
  have HCB := hide CB
  have HRD := hide h
  have HL := hide hl
  have LK := hide (fun k hk => (TO.own_lt hl k hk).2)
  have hwl := ffO_wf (L := L) (d := d)
  have hfl := ffO_len (L := L) (d := d)
  have CF := fun (u : World) (hu : TL u A L.length L) => FirstFit_s u A L.length c L d hu (by omega)
  unfold RetL at CF
  obtain ⟨FF, hFF⟩ : ∃ V, V = ffO L d := ⟨_, rfl⟩
  rw [← hFF] at CF hwl hfl
  have HFF := hide hwl
  have HCF := hide CF
  have CR := fun (u : World) (hu : TL u A L.length L) => BreaksOf_s u A L.length c L hu (by omega)
  unfold RetL at CR
  have RAT := hide (fun (j : Nat) (hj : j < (brO L).length) => brO_at hj)
  have RL := brO_len2 L
  obtain ⟨R, hR⟩ : ∃ V, V = brO L := ⟨_, rfl⟩
  rw [← hR] at CR RAT RL
  have HCR := hide CR
  clear h hl fw CB hV hwl CF hFF CR hR
  go_enter Try.func105, Try.ntmps105
  go_wp2_with fail
  (with_reducible refine (HCB.out _ HL.out.reads).mono ?_)
  rintro e u1 ⟨A0, c0, rfl, ho1, hb1⟩
  have HO1 := hide ho1
  have HRD := hide (HRD.out.below hb1)
  have HL := hide (HL.out.below hb1)
  have ON := hide (on_below hb1 (on_refl w (some g)))
  have hz1 := hb1.size
  clear ho1 hb1 HCB
  have hz := hz1
  clear hz1
  cases fo
  case' false =>
    have HRD := hide (HRD.out.more (M := N + 1) (by omega) (Nat.le_refl _) (by omega))
    clear HO1 HFW
    go_wp2_with fail
  case' true =>
    go_wp2_with fail
    (with_reducible refine (pick_any _ B g _ _ HRD.out (by omega) (by omega) (by omega)).mono ?_)
    rintro e u2 ⟨k0, pk0, pk1, rfl, hrd, hon⟩
    have hz0 := hz
    have HL := hide (HL.out.readI hon hgl)
    have ON := hide (on_call hon ON.out)
    have HO1 := hide (HO1.out.read hon (by omega))
    have hz : w.heap.size ≤ u2.heap.size := Nat.le_trans hz0 hon.size
    have HRD := hide hrd
    clear hon hrd hz0
    rcases (by omega : 0 < k0 ∨ k0 = 0) with g0 | g0
    · have H1 : Hid (OL (u2.alloc (.cells #[] 3)) 3 u2.heap.size (some ⟨u2.heap.size, 0, none⟩) 0 []) := hide (by
        have := OL.lit (w := u2) (e := 3) (B := u2.heap.size) (Nat.le_refl _) [] (by simp)
        simpa using this)
      have HIL := hide (HO1.out.alloc (.cells #[] 3)).reads
      have HNC := hide HO1.out.none_capB
      have hza : (u2.alloc (.cells #[] 3)).heap.size = u2.heap.size + 1 := by simp
      go_wp2_with (at_builtin; go_loud (refine wpList_append_list rfl (.tmp 29) (.tmp 30) _ rfl 3 i0 Try.underlying24 hi0 jz0 jz1 jz2 u2.heap.size (some ⟨u2.heap.size, 0, none⟩) 0 0 [] rfl rfl H1.out A0 F.length c0 F rfl HIL.out HNC.out (by omega) (by omega) ?_); intro A5 c5 u5 ho5 hb5 hg5)
      go_ret
      have hb6 := (bl_alloc (bl_refl u2) (.cells #[] 3)).trans hb5
      exact ⟨A5, c5, F, by simp, (show OL u5 3 u2.heap.size A5 c5 F from ho5).more hz, fl, HFW.out, (HRD.out.below hb6).more (by omega) (Nat.le_refl _) (by have := hb6.size; omega), on_below hb6 ON.out⟩
    subst g0
    clear HO1 HFW
    go_wp2_with fail
  all_goals
    (with_reducible refine (pick_any _ B g _ _ HRD.out (by omega) (by omega) (by omega)).mono ?_)
    rintro e u3 ⟨k1, pk0, pk1, rfl, hrd, hon⟩
    have hz0 := hz
    have HL := hide (HL.out.readI hon hgl)
    have ON := hide (on_call hon ON.out)
    have hz : w.heap.size ≤ u3.heap.size := Nat.le_trans hz0 hon.size
    have HRD := hide hrd
    clear hon hrd hz0
    rcases (by omega : k1 = 0 ∨ k1 ≠ 0) with g1 | g1
    · subst g1
      have H1 : Hid (OL (u3.alloc (.cells #[] 3)) 3 u3.heap.size (some ⟨u3.heap.size, 0, none⟩) 0 []) := hide (by
        have := OL.lit (w := u3) (e := 3) (B := u3.heap.size) (Nat.le_refl _) [] (by simp)
        simpa using this)
      go_wp2_with fail
      (with_reducible refine (HCF.out _ (TO.alloc HL.out _).reads).mono ?_)
      rintro e u4 ⟨A4, c4, rfl, ho4, hb4⟩
      have hz4 := hb4.size
      have hza : (u3.alloc (.cells #[] 3)).heap.size = u3.heap.size + 1 := by simp
      have H1 := hide (H1.out.below hb4)
      have HIL := hide ho4.reads
      have HNC := hide ho4.none_capB
      have hb34 := hide ((bl_alloc (bl_refl u3) (.cells #[] 3)).trans (hb4.mono (by omega)))
      clear ho4 hb4
      go_wp2_with (at_builtin; go_loud (refine wpList_append_list rfl (.tmp 35) (.tmp 38) _ rfl 3 i0 Try.underlying24 hi0 jz0 jz1 jz2 u3.heap.size (some ⟨u3.heap.size, 0, none⟩) 0 0 [] rfl rfl H1.out A4 FF.length c4 FF rfl HIL.out HNC.out (by omega) (by omega) ?_); intro A5 c5 u5 ho5 hb5 hg5)
      go_ret
      have hb6 := hb34.out.trans hb5
      exact ⟨A5, c5, FF, by simp, (show OL u5 3 u3.heap.size A5 c5 FF from ho5).more hz, hfl, HFF.out, (HRD.out.below hb6).more (by omega) (Nat.le_refl _) (by have := hb6.size; omega), on_below hb6 ON.out⟩
    · have k1n : (k1 == 0) = false := beq_eq_false_iff_ne.2 g1
      have H1 : Hid (OL (u3.alloc (.cells #[] 3)) 3 w.heap.size (some ⟨u3.heap.size, 0, none⟩) 0 []) := hide (by
        have := (OL.lit (w := u3) (e := 3) (B := u3.heap.size) (Nat.le_refl _) [] (by simp)).more hz
        simpa using this)
      clear HCF HFF g1
      go_wp2_with fail
      (with_reducible refine (HCR.out _ (TO.alloc HL.out _).reads).mono ?_)
      rintro e u4 ⟨A1, c1, rfl, ho4, hb4⟩
      have H1 := hide (H1.out.below hb4)
      have hb34 := bl_call hb4 (bl_alloc (bl_refl u3) (.cells #[] 3))
      have HRD := hide ((HRD.out.below hb34).more (M := N + 2) (by omega) (Nat.le_refl _) (by have := hb34.size; omega))
      have HL := hide (HL.out.below hb34)
      have ON := hide (on_below hb34 ON.out)
      have hz4 : w.heap.size ≤ u4.heap.size := Nat.le_trans hz hb34.size
      have HO := hide (ho4.more (B' := w.heap.size) (by simp; omega))
      have NE0 : Hid (∀ k, (Value.slice (some ⟨u3.heap.size, 0, none⟩) 0 0).ownBlock = some k → (Value.slice A1 R.length c1).ownBlock ≠ some k) := hide (fun k h1 h2 => by
        have h3 : (Value.slice (some ⟨u3.heap.size, 0, none⟩) 0 0).ownBlock = some u3.heap.size := rfl
        rw [h3] at h1
        cases h1
        have := (ho4.own_lt _ h2).1
        simp at this
        omega)
      clear hb4 hb34 ho4 hz HCR
      go_wp2
      go_loopw [12, 14] (fun v i u => ∃ (p : Nat) (A2 : Option Addr) (m cc : Nat) (E : List Int), p ≤ R.length ∧ v = .slice A2 m cc ∧ i = .int .i64 p ∧ m = E.length ∧ m ≤ p ∧ okW E ∧ OL u 3 w.heap.size A2 cc E ∧ TO u 76 Bl A c L ∧ OL u 3 w.heap.size A1 c1 R ∧ (∀ k, (Value.slice A2 m cc).ownBlock = some k → (Value.slice A1 R.length c1).ownBlock ≠ some k) ∧ RD u B g (N + 2 + 2 * p) ∧ w.grownBy u (some g) ∧ w.heap.size ≤ u.heap.size) (fun _ i _ => R.length - (intOf i).toNat)
      case atStart => exact ⟨0, _, 0, 0, [], by omega, rfl, rfl, rfl, by omega, okW_nil, H1.out, HL.out, HO.out, NE0.out, HRD.out, ON.out, hz4⟩
      case round =>
        obtain ⟨p, A2, m, cc, E, hp, rfl, rfl, hm, hmp, hew, hoe, hlr, hor, hne, hrd, hon, hzw⟩ := hrel
        have HM := hide hm
        have HEW := hide hew
        have OE := hide hoe
        have HL := hide hlr
        have HO := hide hor
        have NE := hide hne
        have HRD := hide hrd
        have ON := hide hon
        clear hm hew hoe hlr hor hne hrd hon H1 NE0 hz4
        by_cases hlt : p < R.length
        · obtain ⟨gR, hA1, _⟩ := HO.out.form (by omega)
          subst hA1
          obtain ⟨q, q1, q2⟩ := RAT.out p hlt
          obtain ⟨bL, oL, hAL, _⟩ := HL.out.reads.at6 (i := q) q2
          subst hAL
          have hrN : N + 2 + 2 * p ≤ 10000000 := by omega
          go_wp2_with fail
          (with_reducible refine (pick_any _ B g _ _ HRD.out (by omega) (by omega) (by omega)).mono ?_)
          rintro e u5 ⟨k2, pk2, pk3, rfl, hrd, hon⟩
          have HL := hide (HL.out.readI hon hgl); have ON := hide (on_call hon ON.out); have OE := hide (OE.out.read hon hg); have HO := hide (HO.out.read hon hg); have hzw := Nat.le_trans hzw hon.size; have HRD := hide hrd; clear hon hrd
          rcases (by omega : k2 = 0 ∨ k2 ≠ 0) with g2 | g2
          · subst g2
            obtain ⟨bR, oR, hA1, hbl, cR⟩ := HO.out.reads.at_ hlt; injection hA1 with hA1; cases hA1; rw [q1] at cR; (try rw [Nat.zero_add] at cR)
            go_wp2_with (at_builtin; go_loud (refine wpList_append_int_at rfl (.tmp 75) (.tmp 80) _ rfl 3 i0 Try.underlying24 hi0 jz0 jz1 jz2 w.heap.size A2 cc m E rfl HM.out (OE.out.alloc _) u5.heap.size (q : Int) rfl (cell_new_at (by simp)) (by omega) (by simp; omega) ?_); intro A' c' w' hol' hb' hg' hat'); have hsz := hg'.size; have hLk := LK.out; simp at hsz; go_roundw; (case rel => exact ⟨p + 1, A', m + 1, c', E ++ [(q : Int)], by omega, rfl, by go_num, by rw [List.length_append, ← HM.out]; rfl, by omega, okW_snoc HEW.out (by omega), hol', own_blk2 HL.out (fun k hk => (hb'.block k (LK.out k hk)).trans (Below.heap_alloc u5 _ k (Nat.lt_of_lt_of_le (LK.out k hk) hzw))), (HO.out.alloc _).kept hg' (fun k h1 h2 => NE.out k h2 h1), (fun k hk h1 => by (rcases hat' with e | e); (next => exact NE.out k (e ▸ hk) h1); (next => (rw [e] at hk; cases hk; have hx9 := (HO.out.own_lt _ h1).2; simp at hx9; try omega))), (HRD.out.belowR (bl_alloc (bl_refl u5) _ |>.mono (by omega)) (by omega)).belowR hb' (by omega) |>.more (by omega) (Nat.le_refl _) (by omega), on_belowR hb' (Nat.le_refl _) (on_alloc ON.out _), by omega⟩); (case measure => simp [intOf]; omega)
          · have k2n : (k2 == 0) = false := beq_eq_false_iff_ne.2 g2
            obtain ⟨xp, hxp⟩ : ∃ x, x = (tg L q).p := ⟨_, rfl⟩
            have HXP := hide hxp
            clear hxp g2
            by_cases hla : p + 1 = R.length
            · have e1 : ((p : Int) == (R.length : Int) - 1) = true := beq_iff_eq.2 (by omega)
              have hla' : R.length ≤ p + 1 := by omega
              clear hla
              go_wp2_with fail
              (with_reducible refine (pick_any _ B g _ _ HRD.out (by omega) (by omega) (by omega)).mono ?_)
              rintro e u6 ⟨k3, pk4, pk5, rfl, hrd, hon⟩
              have HL := hide (HL.out.readI hon hgl); have ON := hide (on_call hon ON.out); have OE := hide (OE.out.read hon hg); have HO := hide (HO.out.read hon hg); have hzw := Nat.le_trans hzw hon.size; have HRD := hide hrd; clear hon hrd
              rcases (by omega : 0 < k3 ∨ k3 = 0) with g3 | g3
              · obtain ⟨bR, oR, hA1, hbl, cR⟩ := HO.out.reads.at_ hlt; injection hA1 with hA1; cases hA1; rw [q1] at cR; (try rw [Nat.zero_add] at cR)
                go_wp2_with (at_builtin; go_loud (refine wpList_append_int_at rfl (.tmp 75) (.tmp 80) _ rfl 3 i0 Try.underlying24 hi0 jz0 jz1 jz2 w.heap.size A2 cc m E rfl HM.out (OE.out.alloc _) u6.heap.size (q : Int) rfl (cell_new_at (by simp)) (by omega) (by simp; omega) ?_); intro A' c' w' hol' hb' hg' hat'); have hsz := hg'.size; have hLk := LK.out; simp at hsz; go_roundw; (case rel => exact ⟨p + 1, A', m + 1, c', E ++ [(q : Int)], by omega, rfl, by go_num, by rw [List.length_append, ← HM.out]; rfl, by omega, okW_snoc HEW.out (by omega), hol', own_blk2 HL.out (fun k hk => (hb'.block k (LK.out k hk)).trans (Below.heap_alloc u6 _ k (Nat.lt_of_lt_of_le (LK.out k hk) hzw))), (HO.out.alloc _).kept hg' (fun k h1 h2 => NE.out k h2 h1), (fun k hk h1 => by (rcases hat' with e | e); (next => exact NE.out k (e ▸ hk) h1); (next => (rw [e] at hk; cases hk; have hx9 := (HO.out.own_lt _ h1).2; simp at hx9; try omega))), (HRD.out.belowR (bl_alloc (bl_refl u6) _ |>.mono (by omega)) (by omega)).belowR hb' (by omega) |>.more (by omega) (Nat.le_refl _) (by omega), on_belowR hb' (Nat.le_refl _) (on_alloc ON.out _), by omega⟩); (case measure => simp [intOf]; omega)
              · subst g3
                obtain ⟨bR, oR, hA1, hbl, cR⟩ := HO.out.reads.at_ hlt; injection hA1 with hA1; cases hA1; rw [q1] at cR; (try rw [Nat.zero_add] at cR)
                obtain ⟨bL, oL, hAL, hbL, _, _, _, _, cp, _⟩ := HL.out.reads.at6 (i := q) q2
                injection hAL with hAL
                cases hAL
                rw [← HXP.out] at cp
                rcases (by omega : xp = -1000 ∨ xp ≠ -1000) with g4 | g4
                · subst g4
                  go_wp2_with (at_builtin; go_loud (refine wpList_append_int_at rfl (.tmp 75) (.tmp 80) _ rfl 3 i0 Try.underlying24 hi0 jz0 jz1 jz2 w.heap.size A2 cc m E rfl HM.out (OE.out.alloc _) u6.heap.size (q : Int) rfl (cell_new_at (by simp)) (by omega) (by simp; omega) ?_); intro A' c' w' hol' hb' hg' hat'); have hsz := hg'.size; have hLk := LK.out; simp at hsz; go_roundw; (case rel => exact ⟨p + 1, A', m + 1, c', E ++ [(q : Int)], by omega, rfl, by go_num, by rw [List.length_append, ← HM.out]; rfl, by omega, okW_snoc HEW.out (by omega), hol', own_blk2 HL.out (fun k hk => (hb'.block k (LK.out k hk)).trans (Below.heap_alloc u6 _ k (Nat.lt_of_lt_of_le (LK.out k hk) hzw))), (HO.out.alloc _).kept hg' (fun k h1 h2 => NE.out k h2 h1), (fun k hk h1 => by (rcases hat' with e | e); (next => exact NE.out k (e ▸ hk) h1); (next => (rw [e] at hk; cases hk; have hx9 := (HO.out.own_lt _ h1).2; simp at hx9; try omega))), (HRD.out.belowR (bl_alloc (bl_refl u6) _ |>.mono (by omega)) (by omega)).belowR hb' (by omega) |>.more (by omega) (Nat.le_refl _) (by omega), on_belowR hb' (Nat.le_refl _) (on_alloc ON.out _), by omega⟩); (case measure => simp [intOf]; omega)
                · have g5 : (xp == -1000) = false := beq_eq_false_iff_ne.2 g4
                  clear g4
                  go_wp2; go_roundw; (case rel => exact ⟨p + 1, A2, m, cc, E, by omega, rfl, by go_num, HM.out, by omega, HEW.out, OE.out, HL.out, HO.out, NE.out, HRD.out.more (by omega) (Nat.le_refl _) (by omega), ON.out, hzw⟩); (case measure => simp [intOf]; omega)
            · have e1 : ((p : Int) == (R.length : Int) - 1) = false := beq_eq_false_iff_ne.2 (by omega)
              obtain ⟨bR, oR, hA1, hbl, cR⟩ := HO.out.reads.at_ hlt; injection hA1 with hA1; cases hA1; rw [q1] at cR; (try rw [Nat.zero_add] at cR)
              obtain ⟨bL, oL, hAL, hbL, _, _, _, _, cp, _⟩ := HL.out.reads.at6 (i := q) q2
              injection hAL with hAL
              cases hAL
              rw [← HXP.out] at cp
              rcases (by omega : xp = -1000 ∨ xp ≠ -1000) with g4 | g4
              · subst g4
                go_wp2_with (at_builtin; go_loud (refine wpList_append_int_at rfl (.tmp 75) (.tmp 80) _ rfl 3 i0 Try.underlying24 hi0 jz0 jz1 jz2 w.heap.size A2 cc m E rfl HM.out (OE.out.alloc _) u5.heap.size (q : Int) rfl (cell_new_at (by simp)) (by omega) (by simp; omega) ?_); intro A' c' w' hol' hb' hg' hat'); have hsz := hg'.size; have hLk := LK.out; simp at hsz; go_roundw; (case rel => exact ⟨p + 1, A', m + 1, c', E ++ [(q : Int)], by omega, rfl, by go_num, by rw [List.length_append, ← HM.out]; rfl, by omega, okW_snoc HEW.out (by omega), hol', own_blk2 HL.out (fun k hk => (hb'.block k (LK.out k hk)).trans (Below.heap_alloc u5 _ k (Nat.lt_of_lt_of_le (LK.out k hk) hzw))), (HO.out.alloc _).kept hg' (fun k h1 h2 => NE.out k h2 h1), (fun k hk h1 => by (rcases hat' with e | e); (next => exact NE.out k (e ▸ hk) h1); (next => (rw [e] at hk; cases hk; have hx9 := (HO.out.own_lt _ h1).2; simp at hx9; try omega))), (HRD.out.belowR (bl_alloc (bl_refl u5) _ |>.mono (by omega)) (by omega)).belowR hb' (by omega) |>.more (by omega) (Nat.le_refl _) (by omega), on_belowR hb' (Nat.le_refl _) (on_alloc ON.out _), by omega⟩); (case measure => simp [intOf]; omega)
              · have g5 : (xp == -1000) = false := beq_eq_false_iff_ne.2 g4
                clear g4
                go_wp2; go_roundw; (case rel => exact ⟨p + 1, A2, m, cc, E, by omega, rfl, by go_num, HM.out, by omega, HEW.out, OE.out, HL.out, HO.out, NE.out, HRD.out.more (by omega) (Nat.le_refl _) (by omega), ON.out, hzw⟩); (case measure => simp [intOf]; omega)
        · go_wp2
          go_ret
          have hpR : p = R.length := by omega
          exact ⟨A2, cc, E, by rw [← HM.out]; rfl, OE.out, by have := HM.out; omega, HEW.out, HRD.out.more (by omega) (Nat.le_refl _) (by omega), ON.out⟩
end Go.Proofs.Ytafddofajfcffaa

/- Drawn paragraphs with breaks. -/
namespace Go.Proofs.Ytafddofajfcffaa
open Go.ChangeShapes Go.WideShapes Go.ChangeAt Go.RowKit
set_option linter.unusedVariables false

theorem DrawCheckBreaks_any (w : World) (a : Option Addr) (n c : Nat) (zs : List Int) (h : IsRow .u8 w a n c zs) :
    Calls Try.prog 56 #[.slice a n c] w fun e w' => ∃ (A A' : Option Addr) (c c' : Nat) (L : List It) (d t : Int) (E : List Int), e = .returned (.tuple #[.slice A L.length c, .int .i64 d, .int .i64 t, .slice A' E.length c']) ∧ TL w' A L.length L ∧ L.length ≤ 23 ∧ (0 ≤ d ∧ d ≤ 10001) ∧ IL w' A' E.length E ∧ E.length ≤ 60 ∧ okW E ∧ Below w.heap.size w w' := by
  go_enter Try.func56, Try.ntmps56
  go_wp2_with fail; (with_reducible refine (newReader_any _ _ _ _ _ h).mono ?_); rintro e u0 ⟨rfl, hrd, hb⟩; have hgl : w.heap.size < u0.heap.size := hrd.lt; go_wp2_with fail; (with_reducible refine (anyItems_any _ _ _ _ hrd (by omega) (by omega)).mono ?_); rintro e u1 ⟨A, c1, L, rfl, hol, hll, hrd1, hon1⟩; have HO1 := hide (on_call hon1 (on_below hb (on_refl w (some w.heap.size)))); have hz1 := hon1.size; clear hon1 hb
  go_wp2_with fail; (with_reducible refine (someWidth_any _ _ _ _ hrd1 (by omega)).mono ?_); rintro e u2 ⟨d, hd, rfl, hrd2, hon2⟩; have hol2 := hol.readI hon2 (by omega); have HO2 := hide (on_call hon2 HO1.out); have hz2 := hon2.size; clear hon2
  go_wp2_with fail
  (with_reducible refine (someTolerance_any _ _ _ _ hrd2 (by omega) (by omega)).mono ?_)
  rintro e u3 ⟨t, rfl, ht, hrd3, hon3⟩
  have hol3 := hol2.readI hon3 (by omega)
  have HO3 := hide (on_call hon3 HO2.out)
  have hz3 := hon3.size
  clear hon3
  go_wp2_with fail
  (with_reducible refine (someBreaks_any _ _ w.heap.size _ hrd3 (by omega) (by omega) A c1 _ L hol3 (by omega) hll d t).mono ?_)
  rintro e u4 ⟨A', c', E, rfl, ho4, hEl, hEw, hrd4, hon4⟩
  have hol4 := hol3.readI hon4 (by omega)
  have O4 := on_call hon4 HO3.out
  go_wp2
  refine bodyPost_ret (v := .tuple #[.slice A L.length c1, .int .i64 d, .int .i64 t, .slice A' E.length c']) (by simp [results, Try.results56, go_sem]) rfl ⟨A, A', c1, c', L, d, t, E, rfl, hol4.reads, hll, hd, ho4.reads, hEl, hEw, on_new O4 (Nat.le_refl _)⟩
theorem DrawOverfullLines_any (w : World) (a : Option Addr) (n c : Nat) (zs : List Int) (h : IsRow .u8 w a n c zs) :
    Calls Try.prog 58 #[.slice a n c] w fun e w' => ∃ (A A' : Option Addr) (c c' : Nat) (L : List It) (d : Int) (E : List Int), e = .returned (.tuple #[.slice A L.length c, .int .i64 d, .slice A' E.length c']) ∧ TL w' A L.length L ∧ L.length ≤ 23 ∧ (0 ≤ d ∧ d ≤ 10001) ∧ IL w' A' E.length E ∧ E.length ≤ 60 ∧ okW E ∧ Below w.heap.size w w' := by
  go_enter Try.func58, Try.ntmps58
  go_wp2_with fail; (with_reducible refine (newReader_any _ _ _ _ _ h).mono ?_); rintro e u0 ⟨rfl, hrd, hb⟩; have hgl : w.heap.size < u0.heap.size := hrd.lt; go_wp2_with fail; (with_reducible refine (anyItems_any _ _ _ _ hrd (by omega) (by omega)).mono ?_); rintro e u1 ⟨A, c1, L, rfl, hol, hll, hrd1, hon1⟩; have HO1 := hide (on_call hon1 (on_below hb (on_refl w (some w.heap.size)))); have hz1 := hon1.size; clear hon1 hb
  go_wp2_with fail; (with_reducible refine (someWidth_any _ _ _ _ hrd1 (by omega)).mono ?_); rintro e u2 ⟨d, hd, rfl, hrd2, hon2⟩; have hol2 := hol.readI hon2 (by omega); have HO2 := hide (on_call hon2 HO1.out); have hz2 := hon2.size; clear hon2
  go_wp2_with fail
  (with_reducible refine (someBreaks_any _ _ w.heap.size _ hrd2 (by omega) (by omega) A c1 _ L hol2 (by omega) hll 25 10000).mono ?_)
  rintro e u4 ⟨A', c', E, rfl, ho4, hEl, hEw, hrd4, hon4⟩
  have hol4 := hol2.readI hon4 (by omega)
  have O4 := on_call hon4 HO2.out
  go_wp2
  refine bodyPost_ret (v := .tuple #[.slice A L.length c1, .int .i64 d, .slice A' E.length c']) (by simp [results, Try.results58, go_sem]) rfl ⟨A, A', c1, c', L, d, E, rfl, hol4.reads, hll, hd, ho4.reads, hEl, hEw, on_new O4 (Nat.le_refl _)⟩
theorem DrawValidBreaks_any (w : World) (a : Option Addr) (n c : Nat) (zs : List Int) (h : IsRow .u8 w a n c zs) :
    Calls Try.prog 52 #[.slice a n c] w fun e w' => ∃ (A A' : Option Addr) (c c' : Nat) (L : List It) (E : List Int), e = .returned (.tuple #[.slice A L.length c, .slice A' E.length c']) ∧ TL w' A L.length L ∧ L.length ≤ 23 ∧ IL w' A' E.length E ∧ E.length ≤ 60 ∧ okW E ∧ Below w.heap.size w w' := by
  go_enter Try.func52, Try.ntmps52
  go_wp2_with fail; (with_reducible refine (newReader_any _ _ _ _ _ h).mono ?_); rintro e u0 ⟨rfl, hrd, hb⟩; have hgl : w.heap.size < u0.heap.size := hrd.lt; go_wp2_with fail; (with_reducible refine (anyItems_any _ _ _ _ hrd (by omega) (by omega)).mono ?_); rintro e u1 ⟨A, c1, L, rfl, hol, hll, hrd1, hon1⟩; have HO1 := hide (on_call hon1 (on_below hb (on_refl w (some w.heap.size)))); have hz1 := hon1.size; clear hon1 hb
  go_wp2_with fail
  (with_reducible refine (someBreaks_any _ _ w.heap.size _ hrd1 (by omega) (by omega) A c1 _ L hol (by omega) hll 25 10000).mono ?_)
  rintro e u4 ⟨A', c', E, rfl, ho4, hEl, hEw, hrd4, hon4⟩
  have hol4 := hol.readI hon4 (by omega)
  have O4 := on_call hon4 HO1.out
  go_wp2
  refine bodyPost_ret (v := .tuple #[.slice A L.length c1, .slice A' E.length c']) (by simp [results, Try.results52, go_sem]) rfl ⟨A, A', c1, c', L, E, rfl, hol4.reads, hll, ho4.reads, hEl, hEw, on_new O4 (Nat.le_refl _)⟩
end Go.Proofs.Ytafddofajfcffaa
