/- Widths of glyphs, in the model. -/
import Derived.Test.YtlfhfbeacleggabGWid
namespace Go.Proofs.Ytlfhfbeacleggab
open Go.ChangeShapes Go.WideShapes Go.ChangeAt Go.RowKit
set_option linter.unusedSimpArgs false
set_option linter.unusedVariables false
set_option maxRecDepth 4000

set_option maxHeartbeats 2000000 in
theorem glyphsWidth_s (w : World) (v : Value) (f : Ft) (AI : Option Addr) (n cI : Nat) (l : List Int) (h : FR w v f) (ha : IL w AI n l) (hfk : fok f = true) (hl : l.length ≤ 20) (hga : GTo l l.length) :
    Calls Try.prog 31 #[v, .slice AI n cI] w fun e w' => e = .returned (.int .i64 (wsum f l l.length)) ∧ Below w.heap.size w w' := by
  obtain rfl : n = l.length := ha.1
  obtain ⟨ff, hff⟩ : ∃ ff, ff = f := ⟨_, rfl⟩
  rw [← hff] at hfk ⊢
  have HFF := hide hff
  obtain ⟨W, a, b, c, h, K, L⟩ := f
  obtain ⟨AW, cW, AK, cK, AL, cL, rfl, hW, hK, hL⟩ := h
  simp only at hW hK hL ⊢
  have HW := hide hW
  have HK := hide hK
  have HI := hide ha
  have HGA := hide hga
  have h36 : W.length = 36 := by have := (fok_iff.1 hfk).1; rw [hff] at this; exact this
  have HKO := hide (show KerOk K from by have := KerOk.of hfk; rw [hff] at this; exact this)
  have EW := hide (show ff.W = W by rw [hff])
  have EK := hide (show ff.K = K by rw [hff])
  have HFK := hide hfk
  have H36 := hide h36
  clear hW hK hL ha hga hfk h36 hff
  go_enter Try.func31, Try.ntmps31
  go_wp2
  go_loopw [5, 6] (fun t i u => ∃ k : Nat, k ≤ l.length ∧ t = .int .i64 (wsum ff l k) ∧ i = .int .i64 k ∧ Below (w.alloc (.cells #[.slice AW W.length cW, .int .i64 a, .int .i64 b, .int .i64 c, .int .i64 h, .slice AK K.length cK, .slice AL L.length cL] 28)).heap.size (w.alloc (.cells #[.slice AW W.length cW, .int .i64 a, .int .i64 b, .int .i64 c, .int .i64 h, .slice AK K.length cK, .slice AL L.length cL] 28)) u) (fun _ i _ => l.length - (intOf i).toNat)
  case atStart => exact ⟨0, by omega, rfl, rfl, bl_refl _⟩
  case round =>
    obtain ⟨k, hk, rfl, rfl, hbl⟩ := hrel
    have HB := hide hbl
    have hbd := wsum_bd HFK.out (l := l) (k := k) (fun j hj => HGA.out j (by omega))
    by_cases hlt : k < l.length
    · obtain ⟨s0, hs0⟩ : ∃ s, s = wsum ff l k := ⟨_, rfl⟩
      rw [← hs0] at hbd ⊢
      have HS0 := hide hs0
      have hwu : Below w.heap.size w wr := bl_call HB.out (bl_alloc (bl_refl _) _)
      have k0 : wr.cell? ⟨w.heap.size, 0, none⟩ = some (.slice AW W.length cW) := (hbl.cell (p := ⟨w.heap.size, 0, none⟩) (by simp)).trans (by simp)
      have k5 : wr.cell? ⟨w.heap.size, 5, none⟩ = some (.slice AK K.length cK) := (hbl.cell (p := ⟨w.heap.size, 5, none⟩) (by simp)).trans (by simp)
      obtain ⟨bI, oI, rfl, _, c1⟩ := (HI.out.below hwu).at_ hlt
      obtain ⟨z, hz⟩ : ∃ z, z = ng l k := ⟨_, rfl⟩
      rw [← hz] at c1
      have hzb := HGA.out k hlt
      rw [← hz] at hzb
      have HZ := hide hz
      clear hz hbl hs0
      obtain ⟨g, rfl⟩ := Int.eq_ofNat_of_zero_le hzb.1
      have hg35 : g ≤ 35 := by omega
      have hgW : g < W.length := by rw [H36.out]; omega
      obtain ⟨bW, oW, hAW, _, c2⟩ := (HW.out.below hwu).at_ hgW
      obtain ⟨y, hy⟩ : ∃ y, y = ng W g := ⟨_, rfl⟩
      rw [← hy] at c2
      have hyb := wid_bd HFK.out hg35
      rw [EW.out, ← hy] at hyb
      have HY := hide hy
      clear hy hzb
      have ST : Hid (wsum ff l (k + 1) = s0 + y + (if 0 < k then kern ff l k else 0)) := hide (by
        simp only [wsum]
        rw [← HS0.out, ← HZ.out, EW.out, HY.out]
        rfl)
      have ws : IntKind.i64.wrap (s0 + y) = s0 + y := IntWalk.i64_in _ (by omega)
      subst hAW
      rcases Nat.eq_zero_or_pos k with hk0 | hk0
      · subst hk0
        have c1' : wr.cell? ⟨bI, oI, none⟩ = some (.int .i64 g) := by simpa using c1
        have M := hide (show wsum ff l (0 + 1) = s0 + y by rw [ST.out]; simp)
        go_wp2
        go_quiet (fail)
        go_wp2
        go_roundw
        case rel => exact ⟨1, by omega, by rw [← M.out], by go_num, bl_drewN HB.out _⟩
        case measure => simp [intOf]; omega
      · obtain ⟨m, hm⟩ : ∃ m, m = k - 1 := ⟨_, rfl⟩
        have em : (k : Int) - 1 = (m : Int) := by omega
        have wm : IntKind.i64.wrap (m : Int) = (m : Int) := IntWalk.i64_in _ (by omega)
        have hml : m < l.length := by omega
        obtain ⟨b', o', he, _, c3⟩ := (HI.out.below hwu).at_ hml
        injection he with he
        injection he with e1 e2
        subst e1
        subst e2
        obtain ⟨x, hx⟩ : ∃ x, x = ng l m := ⟨_, rfl⟩
        rw [← hx] at c3
        have hkb := kern_bd HFK.out l k
        have M := hide (show wsum ff l (k + 1) = s0 + y + kern ff l k by rw [ST.out, if_pos hk0])
        have PV := fun (u : World) (h : TL u AK K.length K) => findPair_s u AK K.length cK K x g h (by have := HKO.out.1; omega)
        have ek : (findP K x (g : Int)).getD 0 = kern ff l k := by unfold kern; rw [EK.out, ← hm, ← hx, ← HZ.out]
        rw [ek] at PV
        obtain ⟨kv, hkv⟩ : ∃ kv, kv = kern ff l k := ⟨_, rfl⟩
        rw [← hkv] at PV hkb M
        obtain ⟨fl, hfl⟩ : ∃ fl, fl = (findP K x (g : Int)).isSome := ⟨_, rfl⟩
        rw [← hfl] at PV
        have HPV := hide PV
        have HT := hide (HK.out.below hwu)
        clear PV ek hkv hfl hx hm
        go_wp2
        go_quiet (fail)
        go_wp2_with fail
        go_region_with (go_at_call 41; (with_reducible refine (HPV.out _ (by first | exact HT.out | exact TL.drew HT.out | exact TL.drewN HT.out _ | exact TL.drew (TL.drewN HT.out _))).mono ?_); rintro e w' ⟨rfl, rfl⟩)
        all_goals
          go_wp2
          go_roundw
          case rel =>
            refine ⟨k + 1, by omega, by rw [← M.out], by go_num, ?_⟩
            first | exact bl_drewN HB.out _ | exact bl_drew (bl_drewN HB.out _)
          case measure => simp [intOf]; omega
    · have hke : k = l.length := by omega
      have HKE := hide hke
      clear hke hbd
      go_wp2
      go_ret
      exact ⟨int_ret (by rw [HKE.out]), bl_call HB.out (bl_alloc (bl_refl _) _)⟩

set_option maxHeartbeats 2000000 in
theorem GlyphsWidth_s (w : World) (v : Value) (f : Ft) (AI : Option Addr) (n cI : Nat) (l : List Int) (h : FR w v f) (ha : IL w AI n l) (h1 : f.W.length ≤ 4611686018427387904) (h2 : f.K.length ≤ 4611686018427387904) (h3 : f.L.length ≤ 4611686018427387904) (hn : n ≤ 4611686018427387904) :
    Calls Try.prog 13 #[v, .slice AI n cI] w fun e w' => e = .returned (.int .i64 (gwid f l)) ∧ Below w.heap.size w w' := by
  obtain rfl : n = l.length := ha.1
  have HF := hide h
  have HI := hide ha
  obtain ⟨AW, cW, AK, cK, AL, cL, rfl, hW, hK, hL⟩ := h
  clear hW hK hL ha
  obtain ⟨ok, hok⟩ : ∃ ok, ok = fok f := ⟨_, rfl⟩
  have VF := fun (u : World) (hh : FR u (fv AW f.W.length cW f.a f.b f.c f.h AK f.K.length cK AL f.L.length cL) f) => validFont_s u (fv AW f.W.length cW f.a f.b f.c f.h AK f.K.length cK AL f.L.length cL) f hh h1 h2 h3
  rw [← hok] at VF
  have HVF := hide VF
  have HOK := hide hok
  clear VF hok
  cases ok
  · have E := hide (gwid_no (f := f) (l := l) (fun x => by rw [← HOK.out] at x; cases x.1))
    rw [E.out]
    go_enter Try.func13, Try.ntmps13
    go_wp2_with (go_at_call 23; (with_reducible refine (HVF.out _ (HF.out.below (by (repeat' (first | with_reducible exact bl_refl _ | with_reducible assumption | with_reducible refine bl_alloc ?_ _ | with_reducible refine bl_set ?_ ?_ _ | with_reducible refine bl_drewN ?_ _ | with_reducible refine bl_drew ?_ | with_reducible refine bl_call (by assumption) ?_)); (all_goals (first | omega | (simp; done) | (simp; omega)))))).mono ?_); rintro e w' ⟨rfl, hb⟩; obtain ⟨hc, hf⟩ := bcell hb; have hz := bl_sz hb; (try simp at hz); (try (have z0 : w.heap.size < w'.heap.size := (by omega); have y0 := Nat.le_of_lt z0)); (try (have z1 : w.heap.size + 1 < w'.heap.size := (by omega); have y1 := Nat.le_of_lt z1)); (try (have z2 : w.heap.size + 1 + 1 < w'.heap.size := (by omega); have y2 := Nat.le_of_lt z2)); (try (have z3 : w.heap.size + 1 + 1 + 1 < w'.heap.size := (by omega); have y3 := Nat.le_of_lt z3)); (try (have z4 : u1.heap.size < w'.heap.size := (by omega); have y4 := Nat.le_of_lt z4)); (try (have z5 : u1.heap.size + 1 < w'.heap.size := (by omega); have y5 := Nat.le_of_lt z5)); (try (have z6 : u2.heap.size < w'.heap.size := (by omega); have y6 := Nat.le_of_lt z6)); (try (have z7 : u2.heap.size + 1 < w'.heap.size := (by omega); have y7 := Nat.le_of_lt z7)); (try (have z8 : u3.heap.size < w'.heap.size := (by omega); have y8 := Nat.le_of_lt z8)); (try (have z9 : u3.heap.size + 1 < w'.heap.size := (by omega); have y9 := Nat.le_of_lt z9)); (try (have z10 : u4.heap.size < w'.heap.size := (by omega); have y10 := Nat.le_of_lt z10)); (try (have z11 : u4.heap.size + 1 < w'.heap.size := (by omega); have y11 := Nat.le_of_lt z11)); (try (have z12 : u5.heap.size < w'.heap.size := (by omega); have y12 := Nat.le_of_lt z12)); (try (have z13 : u5.heap.size + 1 < w'.heap.size := (by omega); have y13 := Nat.le_of_lt z13)); (try (have z14 : u6.heap.size < w'.heap.size := (by omega); have y14 := Nat.le_of_lt z14)); (try (have z15 : u6.heap.size + 1 < w'.heap.size := (by omega); have y15 := Nat.le_of_lt z15)); (try (have zg : g < w'.heap.size := (by omega); have yg := Nat.le_of_lt zg)); (try (have zc : wc.heap.size < w'.heap.size := (by omega); have yc := Nat.le_of_lt zc)); (try (have zd : wc.heap.size + 1 < w'.heap.size := (by omega); have yd := Nat.le_of_lt zd)); (first | (have _k := u7; clear _k; rename World => u8) | (have _k := u6; clear _k; rename World => u7) | (have _k := u5; clear _k; rename World => u6) | (have _k := u4; clear _k; rename World => u5) | (have _k := u3; clear _k; rename World => u4) | (have _k := u2; clear _k; rename World => u3) | (have _k := u1; clear _k; rename World => u2) | (rename World => u1)))
    go_ret
    refine ⟨rfl, ?_⟩
    (repeat' (first | with_reducible exact bl_refl _ | with_reducible assumption | with_reducible refine bl_alloc ?_ _ | with_reducible refine bl_set ?_ ?_ _ | with_reducible refine bl_drewN ?_ _ | with_reducible refine bl_drew ?_ | with_reducible refine bl_call (by assumption) ?_))
  rcases (by omega : 20 < l.length ∨ l.length ≤ 20) with hl | hl
  · have E := hide (gwid_no (f := f) (l := l) (fun x => by have := x.2.1; omega))
    rw [E.out]
    go_enter Try.func13, Try.ntmps13
    go_wp2_with (go_at_call 23; (with_reducible refine (HVF.out _ (HF.out.below (by (repeat' (first | with_reducible exact bl_refl _ | with_reducible assumption | with_reducible refine bl_alloc ?_ _ | with_reducible refine bl_set ?_ ?_ _ | with_reducible refine bl_drewN ?_ _ | with_reducible refine bl_drew ?_ | with_reducible refine bl_call (by assumption) ?_)); (all_goals (first | omega | (simp; done) | (simp; omega)))))).mono ?_); rintro e w' ⟨rfl, hb⟩; obtain ⟨hc, hf⟩ := bcell hb; have hz := bl_sz hb; (try simp at hz); (try (have z0 : w.heap.size < w'.heap.size := (by omega); have y0 := Nat.le_of_lt z0)); (try (have z1 : w.heap.size + 1 < w'.heap.size := (by omega); have y1 := Nat.le_of_lt z1)); (try (have z2 : w.heap.size + 1 + 1 < w'.heap.size := (by omega); have y2 := Nat.le_of_lt z2)); (try (have z3 : w.heap.size + 1 + 1 + 1 < w'.heap.size := (by omega); have y3 := Nat.le_of_lt z3)); (try (have z4 : u1.heap.size < w'.heap.size := (by omega); have y4 := Nat.le_of_lt z4)); (try (have z5 : u1.heap.size + 1 < w'.heap.size := (by omega); have y5 := Nat.le_of_lt z5)); (try (have z6 : u2.heap.size < w'.heap.size := (by omega); have y6 := Nat.le_of_lt z6)); (try (have z7 : u2.heap.size + 1 < w'.heap.size := (by omega); have y7 := Nat.le_of_lt z7)); (try (have z8 : u3.heap.size < w'.heap.size := (by omega); have y8 := Nat.le_of_lt z8)); (try (have z9 : u3.heap.size + 1 < w'.heap.size := (by omega); have y9 := Nat.le_of_lt z9)); (try (have z10 : u4.heap.size < w'.heap.size := (by omega); have y10 := Nat.le_of_lt z10)); (try (have z11 : u4.heap.size + 1 < w'.heap.size := (by omega); have y11 := Nat.le_of_lt z11)); (try (have z12 : u5.heap.size < w'.heap.size := (by omega); have y12 := Nat.le_of_lt z12)); (try (have z13 : u5.heap.size + 1 < w'.heap.size := (by omega); have y13 := Nat.le_of_lt z13)); (try (have z14 : u6.heap.size < w'.heap.size := (by omega); have y14 := Nat.le_of_lt z14)); (try (have z15 : u6.heap.size + 1 < w'.heap.size := (by omega); have y15 := Nat.le_of_lt z15)); (try (have zg : g < w'.heap.size := (by omega); have yg := Nat.le_of_lt zg)); (try (have zc : wc.heap.size < w'.heap.size := (by omega); have yc := Nat.le_of_lt zc)); (try (have zd : wc.heap.size + 1 < w'.heap.size := (by omega); have yd := Nat.le_of_lt zd)); (first | (have _k := u7; clear _k; rename World => u8) | (have _k := u6; clear _k; rename World => u7) | (have _k := u5; clear _k; rename World => u6) | (have _k := u4; clear _k; rename World => u5) | (have _k := u3; clear _k; rename World => u4) | (have _k := u2; clear _k; rename World => u3) | (have _k := u1; clear _k; rename World => u2) | (rename World => u1)))
    go_ret
    refine ⟨rfl, ?_⟩
    (repeat' (first | with_reducible exact bl_refl _ | with_reducible assumption | with_reducible refine bl_alloc ?_ _ | with_reducible refine bl_set ?_ ?_ _ | with_reducible refine bl_drewN ?_ _ | with_reducible refine bl_drew ?_ | with_reducible refine bl_call (by assumption) ?_))
  go_enter Try.func13, Try.ntmps13
  go_wp2_with (go_at_call 23; (with_reducible refine (HVF.out _ (HF.out.below (by (repeat' (first | with_reducible exact bl_refl _ | with_reducible assumption | with_reducible refine bl_alloc ?_ _ | with_reducible refine bl_set ?_ ?_ _ | with_reducible refine bl_drewN ?_ _ | with_reducible refine bl_drew ?_ | with_reducible refine bl_call (by assumption) ?_)); (all_goals (first | omega | (simp; done) | (simp; omega)))))).mono ?_); rintro e w' ⟨rfl, hb⟩; obtain ⟨hc, hf⟩ := bcell hb; have hz := bl_sz hb; (try simp at hz); (try (have z0 : w.heap.size < w'.heap.size := (by omega); have y0 := Nat.le_of_lt z0)); (try (have z1 : w.heap.size + 1 < w'.heap.size := (by omega); have y1 := Nat.le_of_lt z1)); (try (have z2 : w.heap.size + 1 + 1 < w'.heap.size := (by omega); have y2 := Nat.le_of_lt z2)); (try (have z3 : w.heap.size + 1 + 1 + 1 < w'.heap.size := (by omega); have y3 := Nat.le_of_lt z3)); (try (have z4 : u1.heap.size < w'.heap.size := (by omega); have y4 := Nat.le_of_lt z4)); (try (have z5 : u1.heap.size + 1 < w'.heap.size := (by omega); have y5 := Nat.le_of_lt z5)); (try (have z6 : u2.heap.size < w'.heap.size := (by omega); have y6 := Nat.le_of_lt z6)); (try (have z7 : u2.heap.size + 1 < w'.heap.size := (by omega); have y7 := Nat.le_of_lt z7)); (try (have z8 : u3.heap.size < w'.heap.size := (by omega); have y8 := Nat.le_of_lt z8)); (try (have z9 : u3.heap.size + 1 < w'.heap.size := (by omega); have y9 := Nat.le_of_lt z9)); (try (have z10 : u4.heap.size < w'.heap.size := (by omega); have y10 := Nat.le_of_lt z10)); (try (have z11 : u4.heap.size + 1 < w'.heap.size := (by omega); have y11 := Nat.le_of_lt z11)); (try (have z12 : u5.heap.size < w'.heap.size := (by omega); have y12 := Nat.le_of_lt z12)); (try (have z13 : u5.heap.size + 1 < w'.heap.size := (by omega); have y13 := Nat.le_of_lt z13)); (try (have z14 : u6.heap.size < w'.heap.size := (by omega); have y14 := Nat.le_of_lt z14)); (try (have z15 : u6.heap.size + 1 < w'.heap.size := (by omega); have y15 := Nat.le_of_lt z15)); (try (have zg : g < w'.heap.size := (by omega); have yg := Nat.le_of_lt zg)); (try (have zc : wc.heap.size < w'.heap.size := (by omega); have yc := Nat.le_of_lt zc)); (try (have zd : wc.heap.size + 1 < w'.heap.size := (by omega); have yd := Nat.le_of_lt zd)); (first | (have _k := u7; clear _k; rename World => u8) | (have _k := u6; clear _k; rename World => u7) | (have _k := u5; clear _k; rename World => u6) | (have _k := u4; clear _k; rename World => u5) | (have _k := u3; clear _k; rename World => u4) | (have _k := u2; clear _k; rename World => u3) | (have _k := u1; clear _k; rename World => u2) | (rename World => u1)))
  have hb1 : Below w.heap.size w u1 := (by (repeat' (first | with_reducible exact bl_refl _ | with_reducible assumption | with_reducible refine bl_alloc ?_ _ | with_reducible refine bl_set ?_ ?_ _ | with_reducible refine bl_drewN ?_ _ | with_reducible refine bl_drew ?_ | with_reducible refine bl_call (by assumption) ?_)); (all_goals (first | omega | (simp; done) | (simp; omega))))
  have HB1 := hide hb1
  have HIu := hide (HI.out.below hb1)
  have m0 : u1.cell? ⟨w.heap.size, 0, none⟩ = some (.slice AW f.W.length cW) := by simp [go_sem, *]
  have m1 : u1.cell? ⟨w.heap.size, 1, none⟩ = some (.int .i64 f.a) := by simp [go_sem, *]
  have m2 : u1.cell? ⟨w.heap.size, 2, none⟩ = some (.int .i64 f.b) := by simp [go_sem, *]
  have m3 : u1.cell? ⟨w.heap.size, 3, none⟩ = some (.int .i64 f.c) := by simp [go_sem, *]
  have m4 : u1.cell? ⟨w.heap.size, 4, none⟩ = some (.int .i64 f.h) := by simp [go_sem, *]
  have m5 : u1.cell? ⟨w.heap.size, 5, none⟩ = some (.slice AK f.K.length cK) := by simp [go_sem, *]
  have m6 : u1.cell? ⟨w.heap.size, 6, none⟩ = some (.slice AL f.L.length cL) := by simp [go_sem, *]
  clear hc hf hb hb1
  go_loop [5] (fun i => ∃ k : Nat, k ≤ l.length ∧ i = .int .i64 k ∧ GTo l k) (fun i => l.length - (intOf i).toNat)
  case atStart => exact ⟨0, by omega, rfl, GTo.zero _⟩
  case round =>
    obtain ⟨k, hk, rfl, hg⟩ := hrel
    have HG := hide hg
    clear hg
    by_cases hlt : k < l.length
    · obtain ⟨bI, oI, rfl, _, c1⟩ := HIu.out.at_ hlt
      obtain ⟨z, hz⟩ : ∃ z, z = ng l k := ⟨_, rfl⟩
      rw [← hz] at c1
      have HZ := hide hz
      clear hz
      cases q : inB z 0 35
      · have E := hide (gwid_no (f := f) (l := l) (fun x => by have := x.2.2 k hlt; rw [← HZ.out] at this; rw [inB_yes this.1 this.2] at q; cases q))
        go_wp2_with (go_at_call 30; refine (inRange_any _ _ _ _).mono ?_; rintro e w' ⟨rfl, rfl⟩)
        go_ret
        exact ⟨int_ret E.out.symm, HB1.out⟩
      · have M := hide (HG.out.step (by rw [← HZ.out]; exact inB_iff.1 q))
        go_wp2_with (go_at_call 30; refine (inRange_any _ _ _ _).mono ?_; rintro e w' ⟨rfl, rfl⟩)
        go_round
        case rel => exact ⟨k + 1, by omega, by go_num, M.out⟩
        case measure => simp [intOf]; omega
    · have hall : GTo l l.length := by rw [show l.length = k from by omega]; exact HG.out
      have E := hide (gwid_yes (f := f) (l := l) ⟨HOK.out.symm, hl, hall⟩)
      have HALL := hide hall
      clear hall
      go_wp2_with fail
      (with_reducible refine (glyphsWidth_s _ _ f _ _ _ l (HF.out.below HB1.out) HIu.out HOK.out.symm hl HALL.out).mono ?_)
      rintro e u2 ⟨rfl, hb2⟩
      go_wp2
      go_ret
      exact ⟨int_ret E.out.symm, bl_call hb2 HB1.out⟩
end Go.Proofs.Ytlfhfbeacleggab
