/- Widths of glyphs, on both sides. -/
import Derived.Test.YtlfhfbeacleggabGlyph
import Derived.Test.YtlfhfbeacleggabValFontS
namespace Go.Proofs.Ytlfhfbeacleggab
open Go.ChangeShapes Go.WideShapes Go.ChangeAt Go.RowKit
set_option linter.unusedSimpArgs false
set_option linter.unusedVariables false

def kern (f : Ft) (l : List Int) (k : Nat) : Int := (findP f.K (ng l (k - 1)) (ng l k)).getD 0
/-- The width of the first k glyphs. -/
def wsum (f : Ft) (l : List Int) : Nat → Int
  | 0 => 0
  | k + 1 => wsum f l k + ng f.W (ng l k).toNat + (if 0 < k then kern f l k else 0)
def GTo (l : List Int) (k : Nat) : Prop := ∀ j, j < k → 0 ≤ ng l j ∧ ng l j ≤ 35
theorem GTo.zero (l : List Int) : GTo l 0 := fun j h => by omega
theorem GTo.step {l : List Int} {k : Nat} (h : GTo l k) (hk : 0 ≤ ng l k ∧ ng l k ≤ 35) : GTo l (k + 1) := fun i hi => by
  rcases (by omega : i < k ∨ i = k) with e | e
  · exact h i e
  · rw [e]; exact hk
open Classical in
noncomputable def gwid (f : Ft) (l : List Int) : Int := if fok f = true ∧ l.length ≤ 20 ∧ GTo l l.length then wsum f l l.length else 0
theorem gwid_yes {f : Ft} {l : List Int} (h : fok f = true ∧ l.length ≤ 20 ∧ GTo l l.length) : gwid f l = wsum f l l.length := if_pos h
theorem gwid_no {f : Ft} {l : List Int} (h : ¬ (fok f = true ∧ l.length ≤ 20 ∧ GTo l l.length)) : gwid f l = 0 := if_neg h
theorem wid_bd {f : Ft} (h : fok f = true) {z : Nat} (hz : z ≤ 35) : 0 ≤ ng f.W z ∧ ng f.W z ≤ 100 := by
  have h1 := fok_iff.1 h
  have hw := h1.2.1
  simp only [wok, List.all_eq_true] at hw
  exact inB_iff.1 (hw _ (ng_mem (by omega)))
theorem kern_bd {f : Ft} (h : fok f = true) (l : List Int) (k : Nat) : -100 ≤ kern f l k ∧ kern f l k ≤ 100 := by
  unfold kern
  cases hf : findP f.K (ng l (k - 1)) (ng l k) with
  | none => simp
  | some v =>
    obtain ⟨i, hi, e⟩ := findP_mem hf
    have := ((pok_iff.1 (fok_iff.1 h).2.2.2.2.1).2 i hi).2.1
    simp
    omega
theorem wsum_bd {f : Ft} (h : fok f = true) {l : List Int} {k : Nat} (hg : GTo l k) : -(200 * (k : Int)) ≤ wsum f l k ∧ wsum f l k ≤ 200 * (k : Int) := by
  induction k with
  | zero => simp [wsum]
  | succ k ih =>
    have i1 := ih (fun j hj => hg j (by omega))
    have g := hg k (by omega)
    have w1 := wid_bd h (z := (ng l k).toNat) (by omega)
    have k1 := kern_bd h l k
    simp only [wsum]
    split <;> omega
def KerOk (L : List Gp) : Prop := L.length ≤ 20 ∧ PairsOk L
theorem KerOk.of {f : Ft} (h : fok f = true) : KerOk f.K := by
  have h := pok_iff.1 (fok_iff.1 h).2.2.2.2.1
  exact ⟨h.1, PairsOk.of h⟩

set_option maxHeartbeats 2000000 in
theorem GlyphsWidth_i (w : World) (v : Value) (f : Ft) (AI : Option Addr) (n cI : Nat) (l : List Int) (h : FR w v f) (ha : IL w AI n l) (h1 : f.W.length ≤ 4611686018427387904) (h2 : f.K.length ≤ 4611686018427387904) (h3 : f.L.length ≤ 4611686018427387904) (hn : n ≤ 4611686018427387904) :
    Calls Try.prog 12 #[v, .slice AI n cI] w fun e w' => e = .returned (.int .i64 (gwid f l)) ∧ Below w.heap.size w w' := by
  obtain rfl : n = l.length := ha.1
  have HF := hide h
  obtain ⟨ff, hff⟩ : ∃ ff, ff = f := ⟨_, rfl⟩
  have HFF := hide hff
  obtain ⟨W, a, b, c, h, K, L⟩ := f
  obtain ⟨AW, cW, AK, cK, AL, cL, rfl, hW, hK, hL⟩ := h
  simp only at h1 h2 h3 hW hK hL ⊢
  have HW := hide hW
  have HK := hide hK
  have HI := hide ha
  clear hW hK hL ha
  replace HF : Hid (FR w (fv AW W.length cW a b c h AK K.length cK AL L.length cL) ⟨W, a, b, c, h, K, L⟩) := HF
  obtain ⟨ok, hok⟩ : ∃ ok, ok = fok ⟨W, a, b, c, h, K, L⟩ := ⟨_, rfl⟩
  have VF := fun (u : World) (hh : FR u (fv AW W.length cW a b c h AK K.length cK AL L.length cL) ⟨W, a, b, c, h, K, L⟩) => ValidFont_i u (fv AW W.length cW a b c h AK K.length cK AL L.length cL) ⟨W, a, b, c, h, K, L⟩ hh h1 h2 h3
  rw [← hok] at VF
  rw [← hff]
  have HVF := hide VF
  have HOK := hide hok
  clear VF hok hff
  cases ok
  · have E := hide (gwid_no (f := ff) (l := l) (fun x => by rw [HFF.out, ← HOK.out] at x; cases x.1))
    rw [E.out]
    go_enter Try.func12, Try.ntmps12
    go_wp2_with (go_at_call 14; (with_reducible refine (HVF.out _ (HF.out.below (by (repeat' (first | with_reducible exact bl_refl _ | with_reducible assumption | with_reducible refine bl_alloc ?_ _ | with_reducible refine bl_set ?_ ?_ _ | with_reducible refine bl_drewN ?_ _ | with_reducible refine bl_drew ?_ | with_reducible refine bl_call (by assumption) ?_)); (all_goals (first | omega | (simp; done) | (simp; omega)))))).mono ?_); rintro e w' ⟨rfl, hb⟩; obtain ⟨hc, hf⟩ := bcell hb; have hz := bl_sz hb; (try simp at hz); (try (have z0 : w.heap.size < w'.heap.size := (by omega); have y0 := Nat.le_of_lt z0)); (try (have z1 : w.heap.size + 1 < w'.heap.size := (by omega); have y1 := Nat.le_of_lt z1)); (try (have z2 : w.heap.size + 1 + 1 < w'.heap.size := (by omega); have y2 := Nat.le_of_lt z2)); (try (have z3 : w.heap.size + 1 + 1 + 1 < w'.heap.size := (by omega); have y3 := Nat.le_of_lt z3)); (try (have z4 : u1.heap.size < w'.heap.size := (by omega); have y4 := Nat.le_of_lt z4)); (try (have z5 : u1.heap.size + 1 < w'.heap.size := (by omega); have y5 := Nat.le_of_lt z5)); (try (have z6 : u2.heap.size < w'.heap.size := (by omega); have y6 := Nat.le_of_lt z6)); (try (have z7 : u2.heap.size + 1 < w'.heap.size := (by omega); have y7 := Nat.le_of_lt z7)); (try (have z8 : u3.heap.size < w'.heap.size := (by omega); have y8 := Nat.le_of_lt z8)); (try (have z9 : u3.heap.size + 1 < w'.heap.size := (by omega); have y9 := Nat.le_of_lt z9)); (try (have z10 : u4.heap.size < w'.heap.size := (by omega); have y10 := Nat.le_of_lt z10)); (try (have z11 : u4.heap.size + 1 < w'.heap.size := (by omega); have y11 := Nat.le_of_lt z11)); (try (have z12 : u5.heap.size < w'.heap.size := (by omega); have y12 := Nat.le_of_lt z12)); (try (have z13 : u5.heap.size + 1 < w'.heap.size := (by omega); have y13 := Nat.le_of_lt z13)); (try (have z14 : u6.heap.size < w'.heap.size := (by omega); have y14 := Nat.le_of_lt z14)); (try (have z15 : u6.heap.size + 1 < w'.heap.size := (by omega); have y15 := Nat.le_of_lt z15)); (try (have zg : g < w'.heap.size := (by omega); have yg := Nat.le_of_lt zg)); (try (have zc : wc.heap.size < w'.heap.size := (by omega); have yc := Nat.le_of_lt zc)); (try (have zd : wc.heap.size + 1 < w'.heap.size := (by omega); have yd := Nat.le_of_lt zd)); (first | (have _k := u7; clear _k; rename World => u8) | (have _k := u6; clear _k; rename World => u7) | (have _k := u5; clear _k; rename World => u6) | (have _k := u4; clear _k; rename World => u5) | (have _k := u3; clear _k; rename World => u4) | (have _k := u2; clear _k; rename World => u3) | (have _k := u1; clear _k; rename World => u2) | (rename World => u1)))
    go_ret
    refine ⟨rfl, ?_⟩
    (repeat' (first | with_reducible exact bl_refl _ | with_reducible assumption | with_reducible refine bl_alloc ?_ _ | with_reducible refine bl_set ?_ ?_ _ | with_reducible refine bl_drewN ?_ _ | with_reducible refine bl_drew ?_ | with_reducible refine bl_call (by assumption) ?_))
  rcases (by omega : 20 < l.length ∨ l.length ≤ 20) with hl | hl
  · have E := hide (gwid_no (f := ff) (l := l) (fun x => by have := x.2.1; omega))
    rw [E.out]
    go_enter Try.func12, Try.ntmps12
    go_wp2_with (go_at_call 14; (with_reducible refine (HVF.out _ (HF.out.below (by (repeat' (first | with_reducible exact bl_refl _ | with_reducible assumption | with_reducible refine bl_alloc ?_ _ | with_reducible refine bl_set ?_ ?_ _ | with_reducible refine bl_drewN ?_ _ | with_reducible refine bl_drew ?_ | with_reducible refine bl_call (by assumption) ?_)); (all_goals (first | omega | (simp; done) | (simp; omega)))))).mono ?_); rintro e w' ⟨rfl, hb⟩; obtain ⟨hc, hf⟩ := bcell hb; have hz := bl_sz hb; (try simp at hz); (try (have z0 : w.heap.size < w'.heap.size := (by omega); have y0 := Nat.le_of_lt z0)); (try (have z1 : w.heap.size + 1 < w'.heap.size := (by omega); have y1 := Nat.le_of_lt z1)); (try (have z2 : w.heap.size + 1 + 1 < w'.heap.size := (by omega); have y2 := Nat.le_of_lt z2)); (try (have z3 : w.heap.size + 1 + 1 + 1 < w'.heap.size := (by omega); have y3 := Nat.le_of_lt z3)); (try (have z4 : u1.heap.size < w'.heap.size := (by omega); have y4 := Nat.le_of_lt z4)); (try (have z5 : u1.heap.size + 1 < w'.heap.size := (by omega); have y5 := Nat.le_of_lt z5)); (try (have z6 : u2.heap.size < w'.heap.size := (by omega); have y6 := Nat.le_of_lt z6)); (try (have z7 : u2.heap.size + 1 < w'.heap.size := (by omega); have y7 := Nat.le_of_lt z7)); (try (have z8 : u3.heap.size < w'.heap.size := (by omega); have y8 := Nat.le_of_lt z8)); (try (have z9 : u3.heap.size + 1 < w'.heap.size := (by omega); have y9 := Nat.le_of_lt z9)); (try (have z10 : u4.heap.size < w'.heap.size := (by omega); have y10 := Nat.le_of_lt z10)); (try (have z11 : u4.heap.size + 1 < w'.heap.size := (by omega); have y11 := Nat.le_of_lt z11)); (try (have z12 : u5.heap.size < w'.heap.size := (by omega); have y12 := Nat.le_of_lt z12)); (try (have z13 : u5.heap.size + 1 < w'.heap.size := (by omega); have y13 := Nat.le_of_lt z13)); (try (have z14 : u6.heap.size < w'.heap.size := (by omega); have y14 := Nat.le_of_lt z14)); (try (have z15 : u6.heap.size + 1 < w'.heap.size := (by omega); have y15 := Nat.le_of_lt z15)); (try (have zg : g < w'.heap.size := (by omega); have yg := Nat.le_of_lt zg)); (try (have zc : wc.heap.size < w'.heap.size := (by omega); have yc := Nat.le_of_lt zc)); (try (have zd : wc.heap.size + 1 < w'.heap.size := (by omega); have yd := Nat.le_of_lt zd)); (first | (have _k := u7; clear _k; rename World => u8) | (have _k := u6; clear _k; rename World => u7) | (have _k := u5; clear _k; rename World => u6) | (have _k := u4; clear _k; rename World => u5) | (have _k := u3; clear _k; rename World => u4) | (have _k := u2; clear _k; rename World => u3) | (have _k := u1; clear _k; rename World => u2) | (rename World => u1)))
    go_ret
    refine ⟨rfl, ?_⟩
    (repeat' (first | with_reducible exact bl_refl _ | with_reducible assumption | with_reducible refine bl_alloc ?_ _ | with_reducible refine bl_set ?_ ?_ _ | with_reducible refine bl_drewN ?_ _ | with_reducible refine bl_drew ?_ | with_reducible refine bl_call (by assumption) ?_))
  have hfk : fok ff = true := by rw [HFF.out]; exact HOK.out.symm
  have h36 : W.length = 36 := (fok_iff.1 HOK.out.symm).1
  have HFK := hide hfk
  have H36 := hide h36
  have HKO := hide (show KerOk K from KerOk.of HOK.out.symm)
  have EW := hide (show ff.W = W by rw [HFF.out])
  have EK := hide (show ff.K = K by rw [HFF.out])
  clear hfk h36
  go_enter Try.func12, Try.ntmps12
  go_wp2_with (go_at_call 14; (with_reducible refine (HVF.out _ (HF.out.below (by (repeat' (first | with_reducible exact bl_refl _ | with_reducible assumption | with_reducible refine bl_alloc ?_ _ | with_reducible refine bl_set ?_ ?_ _ | with_reducible refine bl_drewN ?_ _ | with_reducible refine bl_drew ?_ | with_reducible refine bl_call (by assumption) ?_)); (all_goals (first | omega | (simp; done) | (simp; omega)))))).mono ?_); rintro e w' ⟨rfl, hb⟩; obtain ⟨hc, hf⟩ := bcell hb; have hz := bl_sz hb; (try simp at hz); (try (have z0 : w.heap.size < w'.heap.size := (by omega); have y0 := Nat.le_of_lt z0)); (try (have z1 : w.heap.size + 1 < w'.heap.size := (by omega); have y1 := Nat.le_of_lt z1)); (try (have z2 : w.heap.size + 1 + 1 < w'.heap.size := (by omega); have y2 := Nat.le_of_lt z2)); (try (have z3 : w.heap.size + 1 + 1 + 1 < w'.heap.size := (by omega); have y3 := Nat.le_of_lt z3)); (try (have z4 : u1.heap.size < w'.heap.size := (by omega); have y4 := Nat.le_of_lt z4)); (try (have z5 : u1.heap.size + 1 < w'.heap.size := (by omega); have y5 := Nat.le_of_lt z5)); (try (have z6 : u2.heap.size < w'.heap.size := (by omega); have y6 := Nat.le_of_lt z6)); (try (have z7 : u2.heap.size + 1 < w'.heap.size := (by omega); have y7 := Nat.le_of_lt z7)); (try (have z8 : u3.heap.size < w'.heap.size := (by omega); have y8 := Nat.le_of_lt z8)); (try (have z9 : u3.heap.size + 1 < w'.heap.size := (by omega); have y9 := Nat.le_of_lt z9)); (try (have z10 : u4.heap.size < w'.heap.size := (by omega); have y10 := Nat.le_of_lt z10)); (try (have z11 : u4.heap.size + 1 < w'.heap.size := (by omega); have y11 := Nat.le_of_lt z11)); (try (have z12 : u5.heap.size < w'.heap.size := (by omega); have y12 := Nat.le_of_lt z12)); (try (have z13 : u5.heap.size + 1 < w'.heap.size := (by omega); have y13 := Nat.le_of_lt z13)); (try (have z14 : u6.heap.size < w'.heap.size := (by omega); have y14 := Nat.le_of_lt z14)); (try (have z15 : u6.heap.size + 1 < w'.heap.size := (by omega); have y15 := Nat.le_of_lt z15)); (try (have zg : g < w'.heap.size := (by omega); have yg := Nat.le_of_lt zg)); (try (have zc : wc.heap.size < w'.heap.size := (by omega); have yc := Nat.le_of_lt zc)); (try (have zd : wc.heap.size + 1 < w'.heap.size := (by omega); have yd := Nat.le_of_lt zd)); (first | (have _k := u7; clear _k; rename World => u8) | (have _k := u6; clear _k; rename World => u7) | (have _k := u5; clear _k; rename World => u6) | (have _k := u4; clear _k; rename World => u5) | (have _k := u3; clear _k; rename World => u4) | (have _k := u2; clear _k; rename World => u3) | (have _k := u1; clear _k; rename World => u2) | (rename World => u1)))
  have HB1 : Hid (Below (w.alloc (.cells #[.slice AW W.length cW, .int .i64 a, .int .i64 b, .int .i64 c, .int .i64 h, .slice AK K.length cK, .slice AL L.length cL] 28)).heap.size (w.alloc (.cells #[.slice AW W.length cW, .int .i64 a, .int .i64 b, .int .i64 c, .int .i64 h, .slice AK K.length cK, .slice AL L.length cL] 28)) u1) := hide hb
  clear hc hf hb
  go_loopw [5, 20] (fun t i u => ∃ k : Nat, k ≤ l.length ∧ t = .int .i64 (wsum ff l k) ∧ i = .int .i64 k ∧ GTo l k ∧ Below (w.alloc (.cells #[.slice AW W.length cW, .int .i64 a, .int .i64 b, .int .i64 c, .int .i64 h, .slice AK K.length cK, .slice AL L.length cL] 28)).heap.size (w.alloc (.cells #[.slice AW W.length cW, .int .i64 a, .int .i64 b, .int .i64 c, .int .i64 h, .slice AK K.length cK, .slice AL L.length cL] 28)) u) (fun _ i _ => l.length - (intOf i).toNat)
  case atStart => exact ⟨0, by omega, rfl, rfl, GTo.zero _, HB1.out⟩
  case round =>
    obtain ⟨k, hk, rfl, rfl, hg, hbl⟩ := hrel
    have HG := hide hg
    have HB := hide hbl
    have hbd := wsum_bd HFK.out hg
    clear hg
    by_cases hlt : k < l.length
    · obtain ⟨s0, hs0⟩ : ∃ s, s = wsum ff l k := ⟨_, rfl⟩
      rw [← hs0] at hbd ⊢
      have HS0 := hide hs0
      have hwu : Below w.heap.size w wr := bl_call HB.out (bl_alloc (bl_refl _) _)
      have k0 : wr.cell? ⟨w.heap.size, 0, none⟩ = some (.slice AW W.length cW) := (hbl.cell (p := ⟨w.heap.size, 0, none⟩) (by simp)).trans (by simp)
      have k5 : wr.cell? ⟨w.heap.size, 5, none⟩ = some (.slice AK K.length cK) := (hbl.cell (p := ⟨w.heap.size, 5, none⟩) (by simp)).trans (by simp)
      obtain ⟨bI, oI, rfl, _, c1⟩ := (HI.out.below hwu).at_ hlt
      obtain ⟨z, hz⟩ : ∃ z, z = ng l k := ⟨_, rfl⟩
      rw [← hz] at c1
      have HZ := hide hz
      clear hz hbl hs0
      cases q : inB z 0 35
      · have E := hide (gwid_no (f := ff) (l := l) (fun x => by have := x.2.2 k hlt; rw [← HZ.out] at this; rw [inB_yes this.1 this.2] at q; cases q))
        go_wp2_with (go_at_call 28; refine (validGlyph_i _ _).mono ?_; rintro e w' ⟨rfl, rfl⟩)
        go_ret
        exact ⟨int_ret E.out.symm, hwu⟩
      · have hzb := inB_iff.1 q
        have NX := hide (HG.out.step (by rw [← HZ.out]; exact hzb))
        obtain ⟨g, rfl⟩ := Int.eq_ofNat_of_zero_le hzb.1
        have hg35 : g ≤ 35 := by omega
        have hgW : g < W.length := by rw [H36.out]; omega
        obtain ⟨bW, oW, hAW, _, c2⟩ := (HW.out.below hwu).at_ hgW
        obtain ⟨y, hy⟩ : ∃ y, y = ng W g := ⟨_, rfl⟩
        rw [← hy] at c2
        have hyb := wid_bd HFK.out hg35
        rw [EW.out, ← hy] at hyb
        have HY := hide hy
        clear hy hzb
        have ST : Hid (wsum ff l (k + 1) = s0 + y + (if 0 < k then kern ff l k else 0)) := hide (by
          simp only [wsum]
          rw [← HS0.out, ← HZ.out, EW.out, HY.out]
          rfl)
        subst hAW
        rcases Nat.eq_zero_or_pos k with hk0 | hk0
        · subst hk0
          have c1' : wr.cell? ⟨bI, oI, none⟩ = some (.int .i64 g) := by simpa using c1
          have M := hide (show wsum ff l (0 + 1) = s0 + y by rw [ST.out]; simp)
          go_wp2_with (go_at_call 28; refine (validGlyph_i _ _).mono ?_; rintro e w' ⟨rfl, rfl⟩)
          go_roundw
          case rel => exact ⟨1, by omega, by rw [← M.out], by go_num, NX.out, HB.out⟩
          case measure => simp [intOf]; omega
        · obtain ⟨m, hm⟩ : ∃ m, m = k - 1 := ⟨_, rfl⟩
          have em : (k : Int) - 1 = (m : Int) := by omega
          have wm : IntKind.i64.wrap (m : Int) = (m : Int) := IntWalk.i64_in _ (by omega)
          have hml : m < l.length := by omega
          obtain ⟨b', o', he, _, c3⟩ := (HI.out.below hwu).at_ hml
          injection he with he
          injection he with e1 e2
          subst e1
          subst e2
          obtain ⟨x, hx⟩ : ∃ x, x = ng l m := ⟨_, rfl⟩
          rw [← hx] at c3
          have hxb := HG.out m (by omega)
          rw [← hx] at hxb
          have hkb := kern_bd HFK.out l k
          have M := hide (show wsum ff l (k + 1) = s0 + y + kern ff l k by rw [ST.out, if_pos hk0])
          have PV := fun (u : World) (h : TL u AK K.length K) => pairValue_i u AK K.length cK K x g h (by have := HKO.out.1; omega) HKO.out.2 hxb ⟨by omega, by omega⟩
          have ek : (findP K x (g : Int)).getD 0 = kern ff l k := by unfold kern; rw [EK.out, ← hm, ← hx, ← HZ.out]
          rw [ek] at PV
          obtain ⟨kv, hkv⟩ : ∃ kv, kv = kern ff l k := ⟨_, rfl⟩
          rw [← hkv] at PV hkb M
          obtain ⟨fl, hfl⟩ : ∃ fl, fl = (findP K x (g : Int)).isSome := ⟨_, rfl⟩
          rw [← hfl] at PV
          have HPV := hide PV
          have HT := hide (HK.out.below hwu)
          clear PV ek hkv hfl hx hm
          go_wp2_with (go_at_call 28; refine (validGlyph_i _ _).mono ?_; rintro e w' ⟨rfl, rfl⟩)
          go_region_with (go_at_call 29; (with_reducible refine (HPV.out _ (TL.drew HT.out)).mono ?_); rintro e w' ⟨rfl, hb⟩)
          all_goals
            replace hb := bl_undrew hb
            go_wp2
            go_roundw
            case rel => exact ⟨k + 1, by omega, by rw [← M.out], by go_num, NX.out, HB.out.trans (hb.mono HB.out.size)⟩
            case measure => simp [intOf]; omega
    · have hke : k = l.length := by omega
      have E := hide (gwid_yes (f := ff) (l := l) ⟨HFK.out, hl, by rw [← hke]; exact HG.out⟩)
      have HKE := hide hke
      clear hke hbd
      go_wp2
      go_ret
      exact ⟨int_ret (by rw [E.out, HKE.out]), bl_call HB.out (bl_alloc (bl_refl _) _)⟩
end Go.Proofs.Ytlfhfbeacleggab
