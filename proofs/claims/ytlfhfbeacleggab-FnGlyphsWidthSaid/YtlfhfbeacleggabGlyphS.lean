/- glyphsOf of the model. -/
import Derived.Test.YtlfhfbeacleggabGlyphI
namespace Go.Proofs.Ytlfhfbeacleggab
open Go.ChangeShapes Go.WideShapes Go.ChangeAt Go.RowKit
set_option linter.unusedSimpArgs false
set_option linter.unusedVariables false
set_option maxRecDepth 4000

set_option maxHeartbeats 2000000 in
theorem glyphsOf_s (w : World) (v : Value) (f : Ft) (s : ByteArray) (h : FR w v f) (hf : fok f = true) (hw : okWord s = true) :
    Calls Try.prog 25 #[v, .string s] w fun e w' => ∃ A c, e = .returned (.slice A (glA f s).length c) ∧ OL w' 3 w.heap.size A c (glA f s) ∧ Below w.heap.size w w' := by
  have E := hide (glA_yes hf hw)
  have HLO := hide (LigOk.of (fok_iff.1 hf).2.2.2.2.2)
  clear hf
  obtain ⟨W, a, b, c, h, K, L⟩ := f
  obtain ⟨AW, cW, AK, cK, AL, cL, rfl, hW, hK, hL⟩ := h
  simp only at hL E HLO ⊢
  have HL := hide hL
  clear hW hK hL
  have hw := okWord_iff.1 hw
  have hsz := hw.1
  have HW := hide hw.2
  clear hw
  obtain ⟨s0, s1⟩ := hsz
  have hl20 := HLO.out.1
  obtain ⟨i0, hi0, jz0, jz1, jz2⟩ := info_parts int_info
  have H0 : Hid (OL ((w.alloc (.cells #[.slice AW W.length cW, .int .i64 a, .int .i64 b, .int .i64 c, .int .i64 h, .slice AK K.length cK, .slice AL L.length cL] 28)).alloc (.cells #[] 3)) 3 (w.heap.size + 1) (some ⟨w.heap.size + 1, 0, none⟩) 0 []) := hide (by
    have := OL.lit (w := w.alloc (.cells #[.slice AW W.length cW, .int .i64 a, .int .i64 b, .int .i64 c, .int .i64 h, .slice AK K.length cK, .slice AL L.length cL] 28)) (e := 3) (B := w.heap.size + 1) (by simp) [] (by simp)
    simpa using this)
  go_enter Try.func25, Try.ntmps25
  go_wp2
  go_loopw [5, 6] (fun t i u => ∃ (k : Nat) (A : Option Addr) (n cc : Nat), k ≤ s.size ∧ t = .slice A n cc ∧ i = .int .i64 k ∧ n = (gw L s k).length ∧ OL u 3 (w.heap.size + 1) A cc (gw L s k) ∧ AllG (gw L s k) ∧ Below (w.alloc (.cells #[.slice AW W.length cW, .int .i64 a, .int .i64 b, .int .i64 c, .int .i64 h, .slice AK K.length cK, .slice AL L.length cL] 28)).heap.size (w.alloc (.cells #[.slice AW W.length cW, .int .i64 a, .int .i64 b, .int .i64 c, .int .i64 h, .slice AK K.length cK, .slice AL L.length cL] 28)) u) (fun _ i _ => s.size - (intOf i).toNat)
  case atStart => exact ⟨0, _, 0, _, by omega, rfl, rfl, rfl, H0.out, fun j hj => by simp [gw] at hj, bl_alloc (bl_refl _) _⟩
  case round =>
    obtain ⟨k, A, n, cc, hk, rfl, rfl, hn, hol, hag, hbl⟩ := hrel
    have hnk : n ≤ k := by rw [hn]; exact gw_len L s k
    have HN := hide hn
    have HA := hide hag
    have HB := hide hbl
    have hz1 : w.heap.size + 1 ≤ wr.heap.size := by have := hbl.size; simpa using this
    clear hn hag
    by_cases hlt : k < s.size
    · have hlet := inB_iff.1 (HW.out k hlt hlt)
      obtain ⟨l1, l2⟩ := hlet
      obtain ⟨t, ht⟩ : ∃ t, t = gw L s k ++ [((s[k].toNat : Int) - 97)] := ⟨_, rfl⟩
      have hlen : t.length = n + 1 := by rw [ht, HN.out]; simp
      have M := hide (gw_step (L := L) hlt ht)
      have AG : AllG t := by rw [ht]; exact HA.out.snoc (by omega)
      have HT := hide ht
      have HAG := hide AG
      have HLEN := hide hlen
      clear hbl ht AG hlen
      go_wp2_with (at_builtin; refine wpList_append_int rfl (.tmp 16) (.tmp 22) _ rfl 3 i0 Try.underlying23 hi0 jz0 jz1 jz2 (w.heap.size + 1) A cc n (gw L s k) rfl (HN.out) (hol.alloc _) wr.heap.size ((s[k].toNat : Int) - 97) rfl (by simp) (by omega) (by simp; omega) ?_; intro A' c' w' hol' hb' hg')
      rw [← HT.out] at hol'
      have HO1 := hide hol'
      have HB1 : Hid (Below (w.alloc (.cells #[.slice AW W.length cW, .int .i64 a, .int .i64 b, .int .i64 c, .int .i64 h, .slice AK K.length cK, .slice AL L.length cL] 28)).heap.size (w.alloc (.cells #[.slice AW W.length cW, .int .i64 a, .int .i64 b, .int .i64 c, .int .i64 h, .slice AK K.length cK, .slice AL L.length cL] 28)) w') := hide ((bl_alloc HB.out _).trans (hb'.mono (by simp)))
      clear hol' hb' hg' hol
      go_loopw [5] (fun x u => ∃ (A2 : Option Addr) (m cc2 : Nat) (s' : List Int), x = .slice A2 m cc2 ∧ m = s'.length ∧ joinN L s'.length s' = joinN L t.length t ∧ OL u 3 (w.heap.size + 1) A2 cc2 s' ∧ AllG s' ∧ m ≤ n + 1 ∧ Below (w.alloc (.cells #[.slice AW W.length cW, .int .i64 a, .int .i64 b, .int .i64 c, .int .i64 h, .slice AK K.length cK, .slice AL L.length cL] 28)).heap.size (w.alloc (.cells #[.slice AW W.length cW, .int .i64 a, .int .i64 b, .int .i64 c, .int .i64 h, .slice AK K.length cK, .slice AL L.length cL] 28)) u) (fun x _ => lenOf x)
      case atStart => exact ⟨A', n + 1, c', t, rfl, HLEN.out.symm, rfl, HO1.out, HAG.out, Nat.le_refl _, HB1.out⟩
      case round =>
        obtain ⟨A2, m, cc2, s', rfl, hms, hj, hol, hag, hle, hbl⟩ := hrel
        have HM := hide hms
        have HJ := hide hj
        have HA2 := hide hag
        have HB2 := hide hbl
        have hz2 : w.heap.size + 1 ≤ wr.heap.size := by have := hbl.size; simpa using this
        have cb : wr.cell? ⟨w.heap.size, 6, none⟩ = some (.slice AL L.length cL) := (hbl.cell (p := ⟨w.heap.size, 6, none⟩) (by simp)).trans (by simp)
        clear hms hj hag hbl
        have DONE := hide (fun (x : s' = joinN L s'.length s') => show gw L s (k + 1) = s' by rw [M.out, ← HJ.out]; exact x.symm)
        rcases (by omega : m < 2 ∨ 2 ≤ m) with h2 | h2
        · have G := hide (DONE.out (joinN_short (L := L) s'.length (by rw [← HM.out]; omega)).symm)
          clear DONE
          go_wp2
          go_roundw
          case rel => exact ⟨k + 1, A2, m, cc2, by omega, rfl, by go_num, by rw [G.out]; exact HM.out, by rw [G.out]; exact hol, by rw [G.out]; exact HA2.out, HB2.out⟩
          case measure => simp [intOf]; omega
        · obtain ⟨g, rfl, hBg, hgz, hfz⟩ := hol.frozen (by rw [← HM.out]; omega)
          have hlc : m ≤ cc2 := by
            obtain ⟨_, _, _, _, h, _⟩ := hol.form (by rw [← HM.out]; omega)
            rw [HM.out]; exact h
          obtain ⟨q, hq⟩ : ∃ q, m = q + 2 := ⟨m - 2, by omega⟩
          obtain ⟨r, hr⟩ : ∃ r, r = q + 1 := ⟨_, rfl⟩
          have hrm : r < m := by omega
          have hqm : q < m := by omega
          have eq2 : (m : Int) - 2 = (q : Int) := by omega
          have er : (m : Int) - 1 = (r : Int) := by omega
          have hqc : q ≤ cc2 := by omega
          have hc0 : ¬ cc2 = 0 := by omega
          have hq1 : q ≤ 1000 := by omega
          have wq : IntKind.i64.wrap (q : Int) = (q : Int) := IntWalk.i64_in _ (by omega)
          have wr1 : IntKind.i64.wrap (r : Int) = (r : Int) := IntWalk.i64_in _ (by omega)
          obtain ⟨a1, ha1⟩ : ∃ a, a = ng s' q := ⟨_, rfl⟩
          obtain ⟨a2, ha2⟩ : ∃ a, a = ng s' r := ⟨_, rfl⟩
          obtain ⟨b', o', he, _, c1⟩ := hol.reads.at_ (i := q) (by rw [← HM.out]; omega)
          injection he with he
          injection he with e1 e2
          subst e1
          subst e2
          obtain ⟨b', o', he, _, c2⟩ := hol.reads.at_ (i := r) (by rw [← HM.out]; omega)
          injection he with he
          injection he with e1 e2
          subst e1
          subst e2
          rw [Nat.zero_add] at c1 c2
          rw [← ha1] at c1
          rw [← ha2] at c2
          have HX1 := hide (show ng s' (s'.length - 2) = a1 by rw [← HM.out, ha1, hq]; rfl)
          have HX2 := hide (show ng s' (s'.length - 1) = a2 by rw [← HM.out, ha2, hr, hq]; rfl)
          have H1 := hide (show s'.length = q + 2 by rw [← HM.out, hq])
          have H2 := hide hr
          have PV := fun (u : World) (h : TL u AL L.length L) => findPair_s u AL L.length cL L a1 a2 h (by omega)
          have HT := hide (HL.out.below (bl_call HB2.out (bl_alloc (bl_refl _) _)))
          have HO := hide hol
          cases hf : findP L a1 a2 with
          | none =>
            rw [hf] at PV
            simp only [Option.getD_none, Option.isSome_none] at PV
            have G := hide (DONE.out (joinN_stop (L := L) s'.length HX1.out HX2.out hf).symm)
            have HPV := hide PV
            clear PV hf hr hq ha1 ha2 hol DONE
            go_wp2_with fail
            go_region_with (go_at_call 41; (with_reducible refine (HPV.out _ (TL.drew HT.out)).mono ?_); rintro e w' ⟨rfl, rfl⟩)
            all_goals
              go_wp2
              go_roundw
              case rel => exact ⟨k + 1, some ⟨g, 0, none⟩, m, cc2, by omega, rfl, by go_num, by rw [G.out]; exact HM.out, by rw [G.out]; exact HO.out.drew, by rw [G.out]; exact HA2.out, bl_drew HB2.out⟩
              case measure => simp [intOf]; omega
          | some v =>
            rw [hf] at PV
            simp only [Option.getD_some, Option.isSome_some] at PV
            obtain ⟨i, hi, hv⟩ := findP_mem hf
            have hv2 := HLO.out.2.2 i hi
            rw [← hv] at hv2
            have ES := hide (joinN_step (L := L) (n := q + 1) (s := s') (by rw [H1.out]; omega) HX1.out HX2.out hf)
            have HPV := hide PV
            have HV := hide hv2
            have HK := hide ((hol.take (k := q) (by rw [H1.out]; omega) (by rw [H1.out]; omega)).drew)
            have tl : q = (s'.take q).length := by rw [take_len (by rw [H1.out]; omega)]
            have TLN := hide tl
            clear PV hf hr hq ha1 ha2 hol DONE hv hi hv2 tl
            go_wp2_with fail
            go_region_with (go_at_call 41; (with_reducible refine (HPV.out _ (TL.drew HT.out)).mono ?_); rintro e w' ⟨rfl, rfl⟩)
            all_goals
              have hk2 := HK.out
              go_wp2_with (at_builtin; refine wpList_append_int rfl (.tmp 51) (.tmp 53) _ rfl 3 i0 Try.underlying23 hi0 jz0 jz1 jz2 (w.heap.size + 1) (some ⟨g, 0, none⟩) cc2 q (s'.take q) rfl (TLN.out) (hk2.alloc _) wr.heap.size v rfl (by simp) (by omega) (by simp; omega) ?_; intro A' c' w' hol' hb' hg')
              go_roundw
              case rel =>
                refine ⟨A', q + 1, c', s'.take q ++ [v], rfl, by rw [List.length_append, ← TLN.out]; rfl, ?_, hol', HA2.out.take q (by have := HV.out; omega), by omega, (bl_alloc (bl_drew HB2.out) _).trans (hb'.mono (by simp))⟩
                rw [show (s'.take q ++ [v]).length = q + 1 from by rw [List.length_append, ← TLN.out]; rfl]
                have e1 := ES.out
                rw [show s'.length - 2 = q from by rw [H1.out]; rfl] at e1
                rw [← e1, show q + 1 + 1 = s'.length from H1.out.symm]
                exact HJ.out
              case measure => show q + 1 < m; omega
    · have hke : k = s.size := by omega
      have HE := hide hke
      clear hke
      go_wp2
      go_ret
      refine ⟨A, cc, by rw [E.out, HN.out, HE.out]; rfl, ?_, ?_⟩
      · rw [E.out, ← HE.out]
        exact hol.more (by omega)
      · exact bl_call HB.out (bl_alloc (bl_refl _) _)
end Go.Proofs.Ytlfhfbeacleggab
