/- GlyphsOf of impl. -/
import Derived.Test.YtlfhfbeacleggabGlyph
import Derived.Test.YtlfhfbeacleggabInts
namespace Go.Proofs.Ytlfhfbeacleggab
open Go.ChangeShapes Go.WideShapes Go.ChangeAt Go.RowKit
set_option linter.unusedSimpArgs false
set_option linter.unusedVariables false
set_option maxRecDepth 4000

def joinE (L : List Gp) (t : List Int) : List Int := joinN L t.length t
/-- The glyphs of the first k letters. -/
def gw (L : List Gp) (s : ByteArray) : Nat → List Int
  | 0 => []
  | k + 1 => joinE L (gw L s k ++ [((s.data.toList.getD k 0).toNat : Int) - 97])
theorem gw_step {L : List Gp} {s : ByteArray} {k : Nat} (h : k < s.size) {t : List Int} (ht : t = gw L s k ++ [((s[k].toNat : Int) - 97)]) : gw L s (k + 1) = joinN L t.length t := by
  have e : s.data.toList.getD k 0 = s[k] := by
    rw [List.getD_eq_getElem?_getD, List.getElem?_eq_getElem (by simpa using h)]
    rfl
  subst ht
  simp only [gw, e, joinE]
noncomputable def glA (f : Ft) (s : ByteArray) : List Int := if fok f = true ∧ okWord s = true then gw f.L s s.size else []
theorem glA_yes {f : Ft} {s : ByteArray} (h : fok f = true) (k : okWord s = true) : glA f s = gw f.L s s.size := if_pos ⟨h, k⟩
theorem glA_no {f : Ft} {s : ByteArray} (h : ¬ (fok f = true ∧ okWord s = true)) : glA f s = [] := if_neg h
theorem joinN_len (L : List Gp) (n : Nat) (s : List Int) : (joinN L n s).length ≤ s.length := by
  induction n generalizing s with
  | zero => exact Nat.le_refl _
  | succ n ih =>
    unfold joinN
    split
    · split
      · refine Nat.le_trans (ih _) ?_
        simp
        omega
      · exact Nat.le_refl _
    · exact Nat.le_refl _
theorem joinN_one (L : List Gp) (n : Nat) (s : List Int) (h : 0 < s.length) : 0 < (joinN L n s).length := by
  induction n generalizing s with
  | zero => exact h
  | succ n ih =>
    unfold joinN
    split
    · split
      · exact ih _ (by simp)
      · exact h
    · exact h
theorem joinN_all {L : List Gp} (hv : ∀ i, i < L.length → 26 ≤ (tg L i).v ∧ (tg L i).v ≤ 35) (n : Nat) (s : List Int) (h : AllG s) : AllG (joinN L n s) := by
  induction n generalizing s with
  | zero => exact h
  | succ n ih =>
    unfold joinN
    split
    · split
      · rename_i v hf
        obtain ⟨i, hi, e⟩ := findP_mem hf
        have := hv i hi
        exact ih _ (h.take _ (by omega))
      · exact h
    · exact h
theorem gw_len (L : List Gp) (s : ByteArray) (k : Nat) : (gw L s k).length ≤ k := by
  induction k with
  | zero => exact Nat.le_refl _
  | succ k ih =>
    refine Nat.le_trans (joinN_len _ _ _) ?_
    simp
    omega

theorem bl_call' {w u w' : World} {o o' : Obj} (hb : Below (w.heap.size + 1) (u.alloc o') w') (hz : w.heap.size + 1 ≤ u.heap.size) (h : Below (w.alloc o).heap.size (w.alloc o) u) : Below w.heap.size w w' :=
  (bl_alloc (bl_call h (bl_alloc (bl_refl w) o)) o').trans (hb.mono (Nat.le_succ _))
set_option maxHeartbeats 2000000 in
theorem GlyphsOf_i (w : World) (v : Value) (f : Ft) (s : ByteArray) (h : FR w v f) (h1 : f.W.length ≤ 4611686018427387904) (h2 : f.K.length ≤ 4611686018427387904) (h3 : f.L.length ≤ 4611686018427387904) (hs : s.size ≤ 1048576) :
    Calls Try.prog 8 #[v, .string s] w fun e w' => ∃ A c, e = .returned (.slice A (glA f s).length c) ∧ OL w' 3 w.heap.size A c (glA f s) ∧ Below w.heap.size w w' := by
  have HF := hide h
  obtain ⟨W, a, b, c, h, K, L⟩ := f
  obtain ⟨AW, cW, AK, cK, AL, cL, rfl, hW, hK, hL⟩ := h
  simp only at h1 h2 h3 hW hK hL ⊢
  have HL := hide hL
  clear hW hK hL
  replace HF : Hid (FR w (fv AW W.length cW a b c h AK K.length cK AL L.length cL) ⟨W, a, b, c, h, K, L⟩) := HF
  obtain ⟨ok, hok⟩ : ∃ ok, ok = fok ⟨W, a, b, c, h, K, L⟩ := ⟨_, rfl⟩
  have VF := fun (u : World) (hh : FR u (fv AW W.length cW a b c h AK K.length cK AL L.length cL) ⟨W, a, b, c, h, K, L⟩) => ValidFont_i u (fv AW W.length cW a b c h AK K.length cK AL L.length cL) ⟨W, a, b, c, h, K, L⟩ hh h1 h2 h3
  rw [← hok] at VF
  have HVF := hide VF
  have HOK := hide hok
  clear VF hok
  obtain ⟨i0, hi0, jz0, jz1, jz2⟩ := info_parts int_info
  cases ok
  · have E := hide (glA_no (f := ⟨W, a, b, c, h, K, L⟩) (s := s) (fun x => by rw [← HOK.out] at x; cases x.1))
    go_enter Try.func8, Try.ntmps8
    go_wp2_with (go_at_call 14; (with_reducible refine (HVF.out _ (HF.out.below (by (repeat' (first | with_reducible exact bl_refl _ | with_reducible assumption | with_reducible refine bl_alloc ?_ _ | with_reducible refine bl_set ?_ ?_ _ | with_reducible refine bl_drewN ?_ _ | with_reducible refine bl_drew ?_ | with_reducible refine bl_call (by assumption) ?_)); (all_goals (first | omega | (simp; done) | (simp; omega)))))).mono ?_); rintro e w' ⟨rfl, hb⟩; obtain ⟨hc, hf⟩ := bcell hb; have hz := bl_sz hb; (try simp at hz); (try (have z0 : w.heap.size < w'.heap.size := (by omega); have y0 := Nat.le_of_lt z0)); (try (have z1 : w.heap.size + 1 < w'.heap.size := (by omega); have y1 := Nat.le_of_lt z1)); (try (have z2 : w.heap.size + 1 + 1 < w'.heap.size := (by omega); have y2 := Nat.le_of_lt z2)); (try (have z3 : w.heap.size + 1 + 1 + 1 < w'.heap.size := (by omega); have y3 := Nat.le_of_lt z3)); (try (have z4 : u1.heap.size < w'.heap.size := (by omega); have y4 := Nat.le_of_lt z4)); (try (have z5 : u1.heap.size + 1 < w'.heap.size := (by omega); have y5 := Nat.le_of_lt z5)); (try (have z6 : u2.heap.size < w'.heap.size := (by omega); have y6 := Nat.le_of_lt z6)); (try (have z7 : u2.heap.size + 1 < w'.heap.size := (by omega); have y7 := Nat.le_of_lt z7)); (try (have z8 : u3.heap.size < w'.heap.size := (by omega); have y8 := Nat.le_of_lt z8)); (try (have z9 : u3.heap.size + 1 < w'.heap.size := (by omega); have y9 := Nat.le_of_lt z9)); (try (have z10 : u4.heap.size < w'.heap.size := (by omega); have y10 := Nat.le_of_lt z10)); (try (have z11 : u4.heap.size + 1 < w'.heap.size := (by omega); have y11 := Nat.le_of_lt z11)); (try (have z12 : u5.heap.size < w'.heap.size := (by omega); have y12 := Nat.le_of_lt z12)); (try (have z13 : u5.heap.size + 1 < w'.heap.size := (by omega); have y13 := Nat.le_of_lt z13)); (try (have z14 : u6.heap.size < w'.heap.size := (by omega); have y14 := Nat.le_of_lt z14)); (try (have z15 : u6.heap.size + 1 < w'.heap.size := (by omega); have y15 := Nat.le_of_lt z15)); (try (have zg : g < w'.heap.size := (by omega); have yg := Nat.le_of_lt zg)); (try (have zc : wc.heap.size < w'.heap.size := (by omega); have yc := Nat.le_of_lt zc)); (try (have zd : wc.heap.size + 1 < w'.heap.size := (by omega); have yd := Nat.le_of_lt zd)); (first | (have _k := u7; clear _k; rename World => u8) | (have _k := u6; clear _k; rename World => u7) | (have _k := u5; clear _k; rename World => u6) | (have _k := u4; clear _k; rename World => u5) | (have _k := u3; clear _k; rename World => u4) | (have _k := u2; clear _k; rename World => u3) | (have _k := u1; clear _k; rename World => u2) | (rename World => u1)))
    go_ret
    refine ⟨none, 0, by rw [E.out]; rfl, by rw [E.out]; exact OL.nil _ _ _, ?_⟩
    (repeat' (first | with_reducible exact bl_refl _ | with_reducible assumption | with_reducible refine bl_alloc ?_ _ | with_reducible refine bl_set ?_ ?_ _ | with_reducible refine bl_drewN ?_ _ | with_reducible refine bl_drew ?_ | with_reducible refine bl_call (by assumption) ?_))
  · cases q : okWord s
    · have E := hide (glA_no (f := ⟨W, a, b, c, h, K, L⟩) (s := s) (fun x => by rw [q] at x; cases x.2))
      go_enter Try.func8, Try.ntmps8
      go_wp2_with (first | (go_at_call 14; (with_reducible refine (HVF.out _ (HF.out.below (by (repeat' (first | with_reducible exact bl_refl _ | with_reducible assumption | with_reducible refine bl_alloc ?_ _ | with_reducible refine bl_set ?_ ?_ _ | with_reducible refine bl_drewN ?_ _ | with_reducible refine bl_drew ?_ | with_reducible refine bl_call (by assumption) ?_)); (all_goals (first | omega | (simp; done) | (simp; omega)))))).mono ?_); rintro e w' ⟨rfl, hb⟩; obtain ⟨hc, hf⟩ := bcell hb; have hz := bl_sz hb; (try simp at hz); (try (have z0 : w.heap.size < w'.heap.size := (by omega); have y0 := Nat.le_of_lt z0)); (try (have z1 : w.heap.size + 1 < w'.heap.size := (by omega); have y1 := Nat.le_of_lt z1)); (try (have z2 : w.heap.size + 1 + 1 < w'.heap.size := (by omega); have y2 := Nat.le_of_lt z2)); (try (have z3 : w.heap.size + 1 + 1 + 1 < w'.heap.size := (by omega); have y3 := Nat.le_of_lt z3)); (try (have z4 : u1.heap.size < w'.heap.size := (by omega); have y4 := Nat.le_of_lt z4)); (try (have z5 : u1.heap.size + 1 < w'.heap.size := (by omega); have y5 := Nat.le_of_lt z5)); (try (have z6 : u2.heap.size < w'.heap.size := (by omega); have y6 := Nat.le_of_lt z6)); (try (have z7 : u2.heap.size + 1 < w'.heap.size := (by omega); have y7 := Nat.le_of_lt z7)); (try (have z8 : u3.heap.size < w'.heap.size := (by omega); have y8 := Nat.le_of_lt z8)); (try (have z9 : u3.heap.size + 1 < w'.heap.size := (by omega); have y9 := Nat.le_of_lt z9)); (try (have z10 : u4.heap.size < w'.heap.size := (by omega); have y10 := Nat.le_of_lt z10)); (try (have z11 : u4.heap.size + 1 < w'.heap.size := (by omega); have y11 := Nat.le_of_lt z11)); (try (have z12 : u5.heap.size < w'.heap.size := (by omega); have y12 := Nat.le_of_lt z12)); (try (have z13 : u5.heap.size + 1 < w'.heap.size := (by omega); have y13 := Nat.le_of_lt z13)); (try (have z14 : u6.heap.size < w'.heap.size := (by omega); have y14 := Nat.le_of_lt z14)); (try (have z15 : u6.heap.size + 1 < w'.heap.size := (by omega); have y15 := Nat.le_of_lt z15)); (try (have zg : g < w'.heap.size := (by omega); have yg := Nat.le_of_lt zg)); (try (have zc : wc.heap.size < w'.heap.size := (by omega); have yc := Nat.le_of_lt zc)); (try (have zd : wc.heap.size + 1 < w'.heap.size := (by omega); have yd := Nat.le_of_lt zd)); (first | (have _k := u7; clear _k; rename World => u8) | (have _k := u6; clear _k; rename World => u7) | (have _k := u5; clear _k; rename World => u6) | (have _k := u4; clear _k; rename World => u5) | (have _k := u3; clear _k; rename World => u4) | (have _k := u2; clear _k; rename World => u3) | (have _k := u1; clear _k; rename World => u2) | (rename World => u1))) | (go_at_call 21; refine (validWord_i _ _ (by omega)).mono ?_; rintro e w' ⟨rfl, rfl⟩))
      go_ret
      refine ⟨none, 0, by rw [E.out]; rfl, by rw [E.out]; exact OL.nil _ _ _, ?_⟩
      (repeat' (first | with_reducible exact bl_refl _ | with_reducible assumption | with_reducible refine bl_alloc ?_ _ | with_reducible refine bl_set ?_ ?_ _ | with_reducible refine bl_drewN ?_ _ | with_reducible refine bl_drew ?_ | with_reducible refine bl_call (by assumption) ?_))
    · have E := hide (glA_yes HOK.out.symm q)
      have hw := okWord_iff.1 q
      have hsz := hw.1
      have HW := hide hw.2
      have HLO := hide (LigOk.of (fok_iff.1 HOK.out.symm).2.2.2.2.2)
      clear hw
      obtain ⟨s0, s1⟩ := hsz
      go_enter Try.func8, Try.ntmps8
      go_wp2_with (first | (go_at_call 14; (with_reducible refine (HVF.out _ (HF.out.below (by (repeat' (first | with_reducible exact bl_refl _ | with_reducible assumption | with_reducible refine bl_alloc ?_ _ | with_reducible refine bl_set ?_ ?_ _ | with_reducible refine bl_drewN ?_ _ | with_reducible refine bl_drew ?_ | with_reducible refine bl_call (by assumption) ?_)); (all_goals (first | omega | (simp; done) | (simp; omega)))))).mono ?_); rintro e w' ⟨rfl, hb⟩; obtain ⟨hc, hf⟩ := bcell hb; have hz := bl_sz hb; (try simp at hz); (try (have z0 : w.heap.size < w'.heap.size := (by omega); have y0 := Nat.le_of_lt z0)); (try (have z1 : w.heap.size + 1 < w'.heap.size := (by omega); have y1 := Nat.le_of_lt z1)); (try (have z2 : w.heap.size + 1 + 1 < w'.heap.size := (by omega); have y2 := Nat.le_of_lt z2)); (try (have z3 : w.heap.size + 1 + 1 + 1 < w'.heap.size := (by omega); have y3 := Nat.le_of_lt z3)); (try (have z4 : u1.heap.size < w'.heap.size := (by omega); have y4 := Nat.le_of_lt z4)); (try (have z5 : u1.heap.size + 1 < w'.heap.size := (by omega); have y5 := Nat.le_of_lt z5)); (try (have z6 : u2.heap.size < w'.heap.size := (by omega); have y6 := Nat.le_of_lt z6)); (try (have z7 : u2.heap.size + 1 < w'.heap.size := (by omega); have y7 := Nat.le_of_lt z7)); (try (have z8 : u3.heap.size < w'.heap.size := (by omega); have y8 := Nat.le_of_lt z8)); (try (have z9 : u3.heap.size + 1 < w'.heap.size := (by omega); have y9 := Nat.le_of_lt z9)); (try (have z10 : u4.heap.size < w'.heap.size := (by omega); have y10 := Nat.le_of_lt z10)); (try (have z11 : u4.heap.size + 1 < w'.heap.size := (by omega); have y11 := Nat.le_of_lt z11)); (try (have z12 : u5.heap.size < w'.heap.size := (by omega); have y12 := Nat.le_of_lt z12)); (try (have z13 : u5.heap.size + 1 < w'.heap.size := (by omega); have y13 := Nat.le_of_lt z13)); (try (have z14 : u6.heap.size < w'.heap.size := (by omega); have y14 := Nat.le_of_lt z14)); (try (have z15 : u6.heap.size + 1 < w'.heap.size := (by omega); have y15 := Nat.le_of_lt z15)); (try (have zg : g < w'.heap.size := (by omega); have yg := Nat.le_of_lt zg)); (try (have zc : wc.heap.size < w'.heap.size := (by omega); have yc := Nat.le_of_lt zc)); (try (have zd : wc.heap.size + 1 < w'.heap.size := (by omega); have yd := Nat.le_of_lt zd)); (first | (have _k := u7; clear _k; rename World => u8) | (have _k := u6; clear _k; rename World => u7) | (have _k := u5; clear _k; rename World => u6) | (have _k := u4; clear _k; rename World => u5) | (have _k := u3; clear _k; rename World => u4) | (have _k := u2; clear _k; rename World => u3) | (have _k := u1; clear _k; rename World => u2) | (rename World => u1))) | (go_at_call 21; refine (validWord_i _ _ (by omega)).mono ?_; rintro e w' ⟨rfl, rfl⟩) | (refine wpList_make_own _ rfl _ _ _ rfl (w.heap.size + 1) 3 i0 _ 1 Try.underlying23 hi0 jz0 jz1 .i64 .i64 _ s.size rfl rfl rfl (by rw [jz2]; omega) (by unfold maxLen; omega) (by omega) ?_; intro w1 hown hgr))
      have H0 : Hid (OL w1 3 (w.heap.size + 1) (some ⟨u1.heap.size, 0, none⟩) s.size []) := hide hown
      have HB1 : Hid (Below (w.alloc (.cells #[.slice AW W.length cW, .int .i64 a, .int .i64 b, .int .i64 c, .int .i64 h, .slice AK K.length cK, .slice AL L.length cL] 28)).heap.size (w.alloc (.cells #[.slice AW W.length cW, .int .i64 a, .int .i64 b, .int .i64 c, .int .i64 h, .slice AK K.length cK, .slice AL L.length cL] 28)) w1) := hide (bl_call (below_new hgr) hb)
      have HLW : Hid (0 < L.length → ∀ b o, AL = some ⟨b, o, none⟩ → b < w.heap.size + 1) := hide (fun h0 b o e => by
        obtain ⟨b', o', e', hb', _⟩ := HL.out.2 h0
        rw [e] at e'
        injection e' with e'
        injection e' with e1
        omega)
      clear hown hgr hb hc hf
      go_wp2
      go_loopw [5, 20] (fun t i u => ∃ (k : Nat) (A : Option Addr) (n cc : Nat), k ≤ s.size ∧ t = .slice A n cc ∧ i = .int .i64 k ∧ n = (gw L s k).length ∧ OL u 3 (w.heap.size + 1) A cc (gw L s k) ∧ AllG (gw L s k) ∧ Below (w.alloc (.cells #[.slice AW W.length cW, .int .i64 a, .int .i64 b, .int .i64 c, .int .i64 h, .slice AK K.length cK, .slice AL L.length cL] 28)).heap.size (w.alloc (.cells #[.slice AW W.length cW, .int .i64 a, .int .i64 b, .int .i64 c, .int .i64 h, .slice AK K.length cK, .slice AL L.length cL] 28)) u) (fun _ i _ => s.size - (intOf i).toNat)
      case atStart => exact ⟨0, _, 0, _, by omega, rfl, rfl, rfl, H0.out, fun j hj => by simp [gw] at hj, HB1.out⟩
      case round =>
        obtain ⟨k, A, n, cc, hk, rfl, rfl, hn, hol, hag, hbl⟩ := hrel
        have hnk : n ≤ k := by rw [hn]; exact gw_len L s k
        have HN := hide hn
        have HA := hide hag
        have HB := hide hbl
        have hz1 : w.heap.size + 1 ≤ wr.heap.size := by have := hbl.size; simpa using this
        clear hn hag
        by_cases hlt : k < s.size
        · have hlet := inB_iff.1 (HW.out k hlt hlt)
          obtain ⟨l1, l2⟩ := hlet
          have cb : wr.cell? ⟨w.heap.size, 6, none⟩ = some (.slice AL L.length cL) := (hbl.cell (p := ⟨w.heap.size, 6, none⟩) (by simp)).trans (by simp)
          obtain ⟨t, ht⟩ : ∃ t, t = gw L s k ++ [((s[k].toNat : Int) - 97)] := ⟨_, rfl⟩
          have hlen : t.length = n + 1 := by rw [ht, HN.out]; simp
          have M := hide (gw_step (L := L) hlt ht)
          have AG : AllG t := by rw [ht]; exact HA.out.snoc (by omega)
          have HT := hide ht
          have HAG := hide AG
          have HLEN := hide hlen
          clear hbl ht AG hlen
          go_wp2_with ((at_builtin; refine wpList_append_int rfl (.tmp 23) (.tmp 29) _ rfl 3 i0 Try.underlying23 hi0 jz0 jz1 jz2 (w.heap.size + 1) A cc n (gw L s k) rfl (HN.out) (hol.alloc _) wr.heap.size ((s[k].toNat : Int) - 97) rfl (by simp) (by omega) (by simp; omega) ?_; intro A' c' w' hol' hb' hg'); have cb' := (hb'.cell (p := ⟨w.heap.size, 6, none⟩) (by simp)).trans (keep_alloc cb _))
          rw [← HT.out] at hol'
          have hbw : Below w.heap.size w w' := bl_call' hb' hz1 HB.out
          have J := joinEnd_i w' (w.heap.size + 1) c' cL A' AL t L hol' (HL.out.below hbw) HLW.out HLO.out HAG.out (by rw [HLEN.out]; omega) (by have := hb'.size; simp at this; omega)
          rw [HLEN.out] at J
          (with_reducible refine J.mono ?_)
          rintro e w'' ⟨s', rfl, hs', ho', hag', hle', hbj⟩
          have GW := hide (show gw L s (k + 1) = s' by rw [M.out, HLEN.out]; exact hs'.symm)
          have HO' := hide ho'
          have HAG' := hide hag'
          clear hs' ho' hag'
          go_wp2
          go_roundw
          case rel =>
            refine ⟨k + 1, A', s'.length, c', by omega, rfl, by go_num, by rw [GW.out], by rw [GW.out]; exact HO'.out, by rw [GW.out]; exact HAG'.out, ?_⟩
            have b1 : Below (w.alloc (.cells #[.slice AW W.length cW, .int .i64 a, .int .i64 b, .int .i64 c, .int .i64 h, .slice AK K.length cK, .slice AL L.length cL] 28)).heap.size (w.alloc (.cells #[.slice AW W.length cW, .int .i64 a, .int .i64 b, .int .i64 c, .int .i64 h, .slice AK K.length cK, .slice AL L.length cL] 28)) (wr.alloc (.cells #[.int .i64 ((s[k].toNat : Int) - 97)] 3)) := bl_alloc HB.out _
            have b2 := b1.trans (hb'.mono (by simp))
            exact b2.trans (hbj.mono (by simp))
          case measure => simp [intOf]; omega
        · have hke : k = s.size := by omega
          have HE := hide hke
          clear hke
          go_wp2
          go_ret
          refine ⟨A, cc, by rw [E.out, HN.out, HE.out]; rfl, ?_, ?_⟩
          · rw [E.out, ← HE.out]
            exact hol.more (by omega)
          · exact bl_call HB.out (bl_alloc (bl_refl _) _)
end Go.Proofs.Ytlfhfbeacleggab
