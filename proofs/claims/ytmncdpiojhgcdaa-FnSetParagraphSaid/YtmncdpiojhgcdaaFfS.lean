/- FirstFit in the model. -/
import Derived.Test.YtmncdpiojhgcdaaFfM
import Derived.Test.YtmncdpiojhgcdaaSd
import Derived.Test.YtmncdpiojhgcdaaFitL
namespace Go.Proofs.Ytmncdpiojhgcdaa
open Go.ChangeShapes Go.WideShapes Go.ChangeAt Go.RowKit
set_option linter.unusedVariables false
set_option linter.unusedSimpArgs false

/-- The three steps of a fitted line. -/
theorem fit3_s (A : Option Addr) (c : Nat) (L : List It) (hall : ∀ i, i < L.length → itOk (tg L i) = true) (hl : L.length ≤ 60) (a : Int) (p q : Nat) (hp : a + 1 = (p : Int)) (d : Int) (hln : hasL L a q = true) (hd : inB d 1 10000 = true) :
    ∃ z0 z1 z2 : Int, (∀ u, TL u A L.length L → Calls Try.prog 102 #[.slice A L.length c, .int .i64 a, .int .i64 q] u fun e w' => e = .returned (gv z0 z1 z2) ∧ Below u.heap.size u w') ∧
      (∀ u, Calls Try.prog 108 #[gv z0 z1 z2] u fun e w' => e = .returned (gv (cl z0) (cl z1) (cl z2)) ∧ Below u.heap.size u w') ∧
      (∀ u, Calls Try.prog 107 #[gv (cl z0) (cl z1) (cl z2), .int .i64 d] u fun e w' => e = .returned (.tuple #[.int .i64 (ftL L a q d).1, .int .i64 (ftL L a q d).2]) ∧ Below u.heap.size u w') := by
  obtain ⟨p', q', hp', hqq, hpq, hq, _, hme, hnf⟩ := hasL_of hln
  obtain rfl : p' = p := by omega
  obtain rfl : q' = q := by omega
  have E := ftL_yes (L := L) (a := a) (b := (q' : Int)) (d := d) (by rw [hln, hd]; rfl)
  obtain ⟨e1, e2, e3⟩ := lg_eqs (L := L) (q := q') hp
  obtain ⟨b1, b2, b3⟩ := lg_bd (p := p') hall hq (min (fBx L p') q') (Nat.min_le_right _ _)
  rw [e1, e2, e3] at E
  have LG := fun (u : World) (hu : TL u A L.length L) => lineGlue_s u A c L hu hall hl a p' q' hp hpq hq
  rw [stS_min hpq (by omega) hnf] at LG
  obtain ⟨z0, hz0⟩ : ∃ z, z = sW L q' - sW L (min (fBx L p') q') + atW (tg L q') := ⟨_, rfl⟩
  obtain ⟨z1, hz1⟩ : ∃ z, z = sT L q' - sT L (min (fBx L p') q') := ⟨_, rfl⟩
  obtain ⟨z2, hz2⟩ : ∃ z, z = sS L q' - sS L (min (fBx L p') q') := ⟨_, rfl⟩
  rw [← hz0, ← hz1, ← hz2] at E LG
  rw [← hz0] at b1
  rw [← hz1] at b2
  rw [← hz2] at b3
  have i1 := cl_in b1
  have i2 := cl_in b2
  have i3 := cl_in b3
  have hd' := inB_iff.1 hd
  have FG := fun (u : World) => fitGlue_s (cl z0) (cl z1) (cl z2) d u ⟨by omega, i1.2⟩ i2 i3 ⟨by omega, hd'.2⟩
  rw [← E] at FG
  exact ⟨z0, z1, z2, LG, fun u => clampGlue_s z0 z1 z2 u, FG⟩
set_option maxRecDepth 10000 in
set_option maxHeartbeats 4000000 in
theorem FirstFit_s (w : World) (A : Option Addr) (n c : Nat) (L : List It) (d : Int) (h : TL w A n L) (hn : n ≤ 1048576) :
    Calls Try.prog 126 #[.slice A n c, .int .i64 d] w (RetL w (ffO L d)) := by
  obtain ⟨i0, hi0, jz0, jz1, jz2⟩ := info_parts int_info
  obtain rfl : n = L.length := h.1
  have HI := hide h
  have VI := fun (u : World) (hu : TL u A L.length L) => validItems_s u A L.length c L hu (by omega)
  have H0 : Hid (OL (w.alloc (.cells #[] 3)) 3 w.heap.size (some ⟨w.heap.size, 0, none⟩) 0 []) := hide (by
    have := OL.lit (w := w) (e := 3) (B := w.heap.size) (Nat.le_refl _) [] (by simp)
    simpa using this)
  clear h
  cases hok : isOk L
  · have O := hide (ffO_no (L := L) (d := d) (by rw [hok]; rfl))
    rw [hok] at VI
    replace VI := hide VI
    clear hok
    go_enter Try.func126, Try.ntmps126
    go_wp2_with (go_at_call 60; (with_reducible refine (VI.out _ (HI.out.alloc _)).mono ?_); rintro e u1 ⟨rfl, hb⟩; have HB1 := hide (bl_call hb (bl_alloc (bl_refl w) (.cells #[] 3))); have H1 := hide (H0.out.below hb); clear hb)
    go_ret
    exact ⟨none, 0, by rw [O.out]; rfl, by rw [O.out]; exact OL.nil _ _ _, HB1.out⟩
  cases q1 : inB d 1 10000
  · have O := hide (ffO_no (L := L) (d := d) (by rw [q1]; simp))
    rw [hok] at VI
    replace VI := hide VI
    clear hok
    go_enter Try.func126, Try.ntmps126
    go_wp2_with (first | (go_at_call 60; (with_reducible refine (VI.out _ (HI.out.alloc _)).mono ?_); rintro e u1 ⟨rfl, hb⟩; have HB1 := hide (bl_call hb (bl_alloc (bl_refl w) (.cells #[] 3))); have H1 := hide (H0.out.below hb); clear hb) | (go_at_call 61; refine (validWidth_ss _ _).mono ?_; rintro e w' ⟨rfl, rfl⟩))
    go_ret
    exact ⟨none, 0, by rw [O.out]; rfl, by rw [O.out]; exact OL.nil _ _ _, HB1.out⟩
  have O := hide (ffO_yes (L := L) (d := d) (by rw [hok, q1]; rfl))
  have HOK := hide hok
  have HQ1 := hide q1
  have HK := isOk_iff.1 hok
  have HALL := hide HK.1
  have hl60 := HK.2.1
  rw [hok] at VI
  replace VI := hide VI
  rw [O.out]
  obtain ⟨F, hF⟩ : ∃ F, F = ffA L d (nFF L d) := ⟨_, rfl⟩
  rw [← hF]
  have HF := hide hF
  have wl1 : IntKind.i64.wrap ((L.length : Int) - 1) = (L.length : Int) - 1 := IntWalk.i64_in _ (by omega)
  clear hok HK O hF
  go_enter Try.func126, Try.ntmps126
  go_upto_region 4 with (first | (go_at_call 60; (with_reducible refine (VI.out _ (HI.out.alloc _)).mono ?_); rintro e u1 ⟨rfl, hb⟩; have HB1 := hide (bl_call hb (bl_alloc (bl_refl w) (.cells #[] 3))); have H1 := hide (H0.out.below hb); clear hb) | (go_at_call 61; refine (validWidth_ss _ _).mono ?_; rintro e w' ⟨rfl, rfl⟩) | fail)
  clear q1 H0 VI
  go_wp2
  go_loopw [5, 6] (fun v f u => ∃ (k : Nat) (A2 : Option Addr) (m cc : Nat) (a : Int), k ≤ nFF L d ∧ v = .slice A2 m cc ∧ f = .int .i64 a ∧ a = ((fpS L d k : Nat) : Int) - 1 ∧ m = (ffA L d k).length ∧ OL u 3 w.heap.size A2 cc (ffA L d k) ∧ Below w.heap.size w u) (fun _ i _ => ((L.length : Int) - 1 - intOf i).toNat)
  case atStart => exact ⟨0, _, 0, _, -1, Nat.zero_le _, rfl, rfl, rfl, rfl, H1.out, HB1.out⟩
  case round =>
    obtain ⟨k, A2, m, cc, a, hk, rfl, rfl, ha, hm, hol, hbl⟩ := hrel
    have HM := hide hm
    have hm60 : m ≤ 1000 := by rw [hm, ffA_len]; have := nFF_le (L := L) (d := d); omega
    have HO := hide hol
    have HB := hide hbl
    have HA := hide ha
    have FST := (fpS_step (d := d) HOK.out (k := k))
    have hf1 := FST.1.1
    have ha1 : -1 ≤ a := by omega
    have ha2 : a ≤ (L.length : Int) - 1 := by omega
    clear hm hol hbl H1 HB1
    by_cases hlt : k < nFF L d
    · have hfl := nFF_lt HOK.out hlt
      obtain ⟨q, q1, q2, q3, q4, q5⟩ := FST.2 hfl
      have NX := hide (show (q : Int) = ((fpS L d (k + 1) : Nat) : Int) - 1 by rw [q4]; omega)
      have SN := hide (show ffA L d (k + 1) = ffA L d k ++ [(q : Int)] by show ffA L d k ++ [_] = _; rw [← NX.out])
      obtain ⟨p, hp⟩ : ∃ p, p = fpS L d k := ⟨_, rfl⟩
      rw [← hp] at q1 ha hfl hf1 q2
      unfold ffN at q1
      have Q1 := hide q1
      have HA2 := hide ha
      have hap : a + 1 = (p : Int) := by omega
      have HAP := hide hap
      have wp : IntKind.i64.wrap (a + 1) = (p : Int) := by rw [hap]; exact IntWalk.i64_in _ (by omega)
      have hal : a < (L.length : Int) - 1 := by omega
      have haq : a < (q : Int) := by omega
      have hpl : p < L.length := hfl
      clear FST hf1 hfl q1 q4 q5 hp ha HA hap q2
      go_wp2
      go_loopw [7, 8] (fun f i u => ∃ (m' : Nat) (z t : Int), p + m' ≤ L.length ∧ i = .int .i64 t ∧ t = ((p + m' : Nat) : Int) ∧ f = .int .i64 z ∧ z = ffT L d p m' ∧ OL u 3 w.heap.size A2 cc (ffA L d k) ∧ Below w.heap.size w u) (fun _ i _ => L.length - (intOf i).toNat)
      case atStart => exact ⟨0, -1, (p : Int), by omega, rfl, rfl, rfl, rfl, HO.out, HB.out⟩
      case round =>
        obtain ⟨m', z, t, hm', rfl, ht, rfl, hz, hol, hbl⟩ := hrel
        have IN := ffT_in (L := L) (d := d) (p := p) (m := m')
        rw [← hz] at IN
        have hz1 : -1 ≤ z := by rcases IN with e | ⟨q, e, _⟩ <;> omega
        have HZ := hide hz
        have O2 := hide hol
        have B2 := hide hbl
        clear HO HB hol hbl IN hz
        by_cases hlt2 : p + m' < L.length
        · obtain ⟨t', ht'⟩ : ∃ t' : Nat, t' = p + m' := ⟨_, rfl⟩
          have HT' := hide ht'
          have e9 : t = (t' : Int) := by rw [ht, ht']
          clear ht
          subst e9
          have htl : t' < L.length := by omega
          have htp : p ≤ t' := by omega
          have htl2 : (t' : Int) < (L.length : Int) := by omega
          have VL := validLine_s wr A L.length c L (HI.out.below B2.out) hn a t' (by omega) (by omega)
          rw [okL_eq HOK.out] at VL
          have IB := hide (isBreak_s wr A c L (HI.out.below B2.out) t' htl hn)
          have FY := hide (fun h h2 => ffT_yes (L := L) (d := d) (p := p) (m := m') h h2)
          have FN := hide (fun h => ffT_no (L := L) (d := d) (p := p) (m := m') h)
          have FS := hide (fun h h2 => ffT_stay (L := L) (d := d) (p := p) (m := m') h h2)
          rw [← HZ.out, ← HA2.out, ← HT'.out] at FY FN FS
          have H5 := hide (fun (h : mayE L t' = false) => hasL_5 (L := L) (a := a) (q := t') h)
          have F3 := hide (fun (h : hasL L a t' = true) => fit3_s A c L HALL.out hl60.2 a p t' HAP.out d h HQ1.out)
          obtain ⟨hl, hhl⟩ : ∃ h, h = hasL L a t' := ⟨_, rfl⟩
          obtain ⟨mb, hmb⟩ : ∃ h, h = mayE L t' := ⟨_, rfl⟩
          obtain ⟨r1, hr1⟩ : ∃ h, h = (ftL L a t' d).1 := ⟨_, rfl⟩
          obtain ⟨r2, hr2⟩ : ∃ h, h = (ftL L a t' d).2 := ⟨_, rfl⟩
          rw [← hhl] at VL FY FN H5 F3
          rw [← hmb] at IB H5
          rw [← hr1] at FY FS F3
          rw [← hr2] at F3
          have HVL := hide VL
          clear hhl hmb hr1 hr2 VL ht'
          cases mb
          · have N := hide (FN.out (H5.out rfl))
            clear FY FN FS F3 HVL
            go_wp2_with fail
            (with_reducible refine IB.out.mono ?_)
            rintro e w' ⟨rfl, rfl⟩
            go_wp2
            go_roundw
            case rel => exact ⟨m' + 1, z, (t' : Int) + 1, by omega, by go_num, by have := HT'.out; omega, rfl, N.out.symm, O2.out, B2.out⟩
            case measure => simp [intOf]; omega
          · go_wp2_with fail
            (with_reducible refine IB.out.mono ?_)
            rintro e w' ⟨rfl, rfl⟩
            go_wp2_with fail
            (with_reducible refine HVL.out.mono ?_)
            rintro e u3 ⟨rfl, hb⟩
            have B3 := hide (bl_call hb B2.out)
            have O3 := hide (O2.out.below hb)
            clear hb
            cases hl
            · have N := hide (FN.out rfl)
              clear FY FN FS F3 H5
              go_wp2
              go_roundw
              case rel => exact ⟨m' + 1, z, (t' : Int) + 1, by omega, by go_num, by have := HT'.out; omega, rfl, N.out.symm, O3.out, B3.out⟩
              case measure => simp [intOf]; omega
            · have FY' := hide (FY.out rfl)
              obtain ⟨z0, z1, z2, C1, C2, C3⟩ := F3.out rfl; have HC1 := hide C1; have HC2 := hide C2; have HC3 := hide C3; clear C1 C2 C3
              clear FY FN H5 F3
              go_wp2_with fail; (with_reducible refine (HC1.out _ (HI.out.below B3.out)).mono ?_); rintro e u4 ⟨rfl, hb⟩; have B4 := hide (bl_call hb B3.out); have O4 := hide (O3.out.below hb); clear hb; go_wp2_with fail; (with_reducible refine (HC2.out _).mono ?_); rintro e u5 ⟨rfl, hb⟩; have B5 := hide (bl_call hb B4.out); have O5 := hide (O4.out.below hb); clear hb; go_wp2_with fail; (with_reducible refine (HC3.out _).mono ?_); rintro e u6 ⟨rfl, hb⟩; have B6 := hide (bl_call hb B5.out); have O6 := hide (O5.out.below hb); clear hb
              rcases (by omega : z < 0 ∨ 0 ≤ z ∧ r1 ≠ 4 ∨ 0 ≤ z ∧ r1 = 4) with g | ⟨g, g2⟩ | ⟨g, g2⟩
              · have N := hide (FY'.out (.inl g))
                clear FY' FS
                go_wp2
                go_roundw
                case rel => exact ⟨m' + 1, t', (t' : Int) + 1, by omega, by go_num, by have := HT'.out; omega, rfl, N.out.symm, O6.out, B6.out⟩
                case measure => simp [intOf]; omega
              · have N := hide (FY'.out (.inr g2))
                have k1 : (r1 != 4) = true := bne_iff_ne.2 g2
                have k2 : ¬ z < 0 := by omega
                clear FY' FS g2
                go_wp2
                go_roundw
                case rel => exact ⟨m' + 1, t', (t' : Int) + 1, by omega, by go_num, by have := HT'.out; omega, rfl, N.out.symm, O6.out, B6.out⟩
                case measure => simp [intOf]; omega
              · have N := hide (FS.out g g2)
                subst g2
                have k2 : ¬ z < 0 := by omega
                clear FY' FS
                go_wp2
                go_roundw
                case rel => exact ⟨m' + 1, z, (t' : Int) + 1, by omega, by go_num, by have := HT'.out; omega, rfl, N.out.symm, O6.out, B6.out⟩
                case measure => simp [intOf]; omega
        · have hml : m' = L.length - p := by omega
          have E := hide (show z = (q : Int) by rw [← Q1.out, HZ.out, hml])
          have htl : ¬ t < (L.length : Int) := by omega
          have hzr := B2.out.size
          obtain rfl := E.out
          clear hml ht hlt2 HZ hz1
          go_wp2_with (at_builtin; refine wpList_append_int rfl (.tmp 61) (.tmp 63) _ rfl 3 i0 Try.underlying30 hi0 jz0 jz1 jz2 (w.heap.size) A2 cc m (ffA L d k) rfl (HM.out) (O2.out.alloc _) wr.heap.size (q : Int) rfl (by simp) (by omega) (by simp; omega) ?_; intro A' c' w' hol' hb' hg')
          go_roundw
          case rel => exact ⟨k + 1, A', m + 1, c', q, by omega, rfl, by go_num, NX.out, by rw [SN.out, List.length_append, ← HM.out]; rfl, by rw [SN.out]; exact hol', (bl_alloc B2.out _).trans hb'⟩
          case measure => simp [intOf]; omega
    · have hkn : k = nFF L d := by omega
      have he := nFF_end (d := d) HOK.out
      have hal : ¬ a < (L.length : Int) - 1 := by rw [ha, hkn, he]; omega
      have HKN := hide hkn
      clear FST hf1 ha hlt he hkn
      go_wp2
      go_ret
      refine ⟨A2, cc, by rw [HF.out, HM.out, HKN.out]; rfl, ?_, HB.out⟩
      rw [HF.out, ← HKN.out]
      exact HO.out
end Go.Proofs.Ytmncdpiojhgcdaa
