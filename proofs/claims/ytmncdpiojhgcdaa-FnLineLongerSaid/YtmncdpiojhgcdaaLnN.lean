/- The law that longer lines are wider holds for every code. No condition. -/
import Derived.Test.YtmncdpiojhgcdaaSa
import Derived.Test.YtmncdpiojhgcdaaLnP
import Derived.Test.YtmncdpiojhgcdaaSg
namespace Go.Proofs.Ytmncdpiojhgcdaa
open Go.ChangeShapes Go.WideShapes Go.ChangeAt Go.RowKit
set_option linter.unusedVariables false
open Classical

theorem sWS_mono {L : List It} (hall : OTo L L.length) {a : Nat} : ∀ {k : Nat}, a ≤ k → k ≤ L.length → sW L a - sS L a ≤ sW L k - sS L k
  | 0, ha, _ => by rw [show a = 0 by omega]; exact Int.le_refl _
  | k + 1, ha, hk => by
    rcases (by omega : a = k + 1 ∨ a ≤ k) with rfl | h1
    · exact Int.le_refl _
    · have h2 := sWS_mono hall (k := k) h1 (by omega)
      have h3 : inS (tg L k) ≤ inW (tg L k) := by
        have := iok_iff.1 (hall k (by omega))
        unfold inW inS
        rcases this with h | h | h <;> (split <;> split <;> omega)
      simp only [sW, sS]
      omega
theorem line_longer {L : List It} {f : Int} {p t q : Nat} (hall : OTo L L.length) (hp : f + 1 = (p : Int)) (h1 : hasL L f t = true) (h2 : hasL L f q = true) (hg : (tg L t).k = 2) (hlt : t < q) :
    sW L t - sW L (min (fBx L p) t) + atW (tg L t) ≤ sW L q - sW L (min (fBx L p) q) + atW (tg L q) ∧
    (sW L t - sW L (min (fBx L p) t) + atW (tg L t)) - (sS L t - sS L (min (fBx L p) t)) ≤ (sW L q - sW L (min (fBx L p) q) + atW (tg L q)) - (sS L q - sS L (min (fBx L p) q)) := by
  obtain ⟨p1, t1, e1, e2, e3, e4, e5, e6, _⟩ := hasL_of h1
  obtain rfl : p1 = p := by omega
  obtain rfl : t1 = t := by omega
  obtain ⟨p2, q1, _, g2, _, g4, _⟩ := hasL_of h2
  obtain rfl : q1 = q := by omega
  have hb : 0 < t1 ∧ isB (tg L (t1 - 1)) = true := by
    unfold mayE at e6
    rw [if_pos hg, Bool.and_eq_true] at e6
    exact ⟨of_decide_eq_true e6.1, e6.2⟩
  have hp1 : p1 ≤ t1 - 1 := by
    rcases (by omega : p1 ≤ t1 - 1 ∨ p1 = t1) with h | h
    · exact h
    · exfalso
      rcases e5 with h5 | h5
      · omega
      · rw [show f.toNat = t1 - 1 by omega] at h5
        have hk := of_decide_eq_true hb.2
        unfold mayE at h5
        rw [if_neg (by omega), if_neg (by omega)] at h5
        cases h5
  have hf : fBx L p1 ≤ t1 - 1 := by
    rcases (by omega : fBx L p1 ≤ t1 - 1 ∨ t1 - 1 < fBx L p1) with h | h
    · exact h
    · have := fBx_no (L := L) (i := p1) (by omega) hp1 h
      rw [hb.2] at this; cases this
  rw [show min (fBx L p1) t1 = fBx L p1 by omega, show min (fBx L p1) q1 = fBx L p1 by omega]
  have m1 := s_mono hall (a := t1) (k := q1) (by omega) (by omega)
  have m2 := sWS_mono hall (a := t1) (k := q1) (by omega) (by omega)
  have a0 : atW (tg L t1) = 0 := by unfold atW; rw [if_neg (by omega)]
  have a1 : 0 ≤ atW (tg L q1) := by
    rcases iok_iff.1 (hall q1 g4) with h | h | h <;> (unfold atW; split <;> omega)
  omega
/-- A line's lengths are small. -/
theorem line_bd {L : List It} {p q : Nat} (hok : isOk L = true) (hq : q < L.length) :
    (0 ≤ sW L q - sW L (min (fBx L p) q) + atW (tg L q) ∧ sW L q - sW L (min (fBx L p) q) + atW (tg L q) ≤ 100000) ∧ (0 ≤ sS L q - sS L (min (fBx L p) q) ∧ sS L q - sS L (min (fBx L p) q) ≤ 100000) := by
  obtain ⟨hall, ⟨_, hl⟩, _⟩ := isOk_iff.1 hok
  have sm := s_mono hall (a := min (fBx L p) q) (k := q) (Nat.min_le_right _ _) (by omega)
  have sb := s_bd hall (k := q) (by omega)
  have s0 := s_bd hall (k := min (fBx L p) q) (by have := Nat.min_le_right (fBx L p) q; omega)
  have ab : 0 ≤ atW (tg L q) ∧ atW (tg L q) ≤ 1000 := by
    rcases iok_iff.1 (hall q hq) with h | h | h <;> (unfold atW; split <;> omega)
  omega
theorem brO_at1 {L : List It} {k : Nat} (hok : isOk L = true) (hk : k < (brO L).length) : ∃ i : Nat, ng (brO L) k = (i : Int) ∧ i < L.length := by
  rw [brO_yes hok] at hk ⊢
  obtain ⟨i, a, b, _, _⟩ := brTo_get hk
  exact ⟨i, b, a⟩
set_option maxRecDepth 8000 in
set_option maxHeartbeats 4000000 in
theorem walk_FnLineLonger (a : Option Addr) (n c : Nat) (zs : List Int) (w : World) (hr : IsRow .u8 w a n c zs) :
    Calls Try.prog 16 #[.slice a n c] w fun e w' => e = .returned (.bool true) ∧ Below w.heap.size w w' := by
  have hm := small_rown hr
  unfold maxLen at hm
  rcases (by omega : 1048576 < n ∨ n ≤ 1048576) with hn | hn
  · go_enter Try.func16, Try.ntmps16
    go_wp2
    go_ret
    exact ⟨rfl, bl_refl _⟩
  go_enter Try.func16, Try.ntmps16
  go_wp2_with fail
  (with_reducible refine (DrawLineGlue_any _ _ _ _ _ hr).mono ?_)
  rintro e u0 ⟨A, c0, L, f, t, rfl, hol, hll, hf, ht, hb⟩
  clear hr
  have HR := hide hol.reads
  have HB := hide hb
  clear hol hb
  have GI := fun (u : World) (h : TL u A L.length L) => LineGlue_i u A L.length c0 L h (by omega) f t (by omega) (by omega)
  have GS := fun (u : World) (h : TL u A L.length L) => LineGlue_s u A L.length c0 L h (by omega) f t (by omega) (by omega)
  cases hok : okL L f t
  · rw [lgO_no hok] at GI GS
    have HGI := hide GI
    have HGS := hide GS
    clear GI GS hok
    go_wp2_with fail; (with_reducible refine (HGI.out _ HR.out).mono ?_); rintro e u1 ⟨rfl, hb1⟩; have HB1 := hide (bl_alloc (bl_call hb1 HB.out) (.cells #[.int .i64 0, .int .i64 0, .int .i64 0] 43)); have HR1 := hide ((HR.out.below hb1).alloc (.cells #[.int .i64 0, .int .i64 0, .int .i64 0] 43)); have k0 : (u1.alloc (.cells #[.int .i64 0, .int .i64 0, .int .i64 0] 43)).cell? ⟨u1.heap.size, 0, none⟩ = some (.int .i64 0) := (by simp [go_sem]); have k1 : (u1.alloc (.cells #[.int .i64 0, .int .i64 0, .int .i64 0] 43)).cell? ⟨u1.heap.size, 1, none⟩ = some (.int .i64 0) := (by simp [go_sem]); have k2 : (u1.alloc (.cells #[.int .i64 0, .int .i64 0, .int .i64 0] 43)).cell? ⟨u1.heap.size, 2, none⟩ = some (.int .i64 0) := (by simp [go_sem]); clear hb1; go_wp2_with fail; (with_reducible refine (HGS.out _ HR1.out).mono ?_); rintro e u2 ⟨rfl, hb2⟩; have HB2 := hide (bl_alloc (bl_call hb2 HB1.out) (.cells #[.int .i64 0, .int .i64 0, .int .i64 0] 43)); have HR2 := hide ((HR1.out.below hb2).alloc (.cells #[.int .i64 0, .int .i64 0, .int .i64 0] 43)); have k0 := keep_alloc (keep_cell hb2 k0) (.cells #[.int .i64 0, .int .i64 0, .int .i64 0] 43); have k1 := keep_alloc (keep_cell hb2 k1) (.cells #[.int .i64 0, .int .i64 0, .int .i64 0] 43); have k2 := keep_alloc (keep_cell hb2 k2) (.cells #[.int .i64 0, .int .i64 0, .int .i64 0] 43); clear hb2
    go_wp2
    go_ret
    exact ⟨by simp, HB2.out⟩
  · have hok' := hok
    simp only [okL, Bool.and_eq_true] at hok'
    obtain ⟨p, q, hp, rfl, hpq, hq, _⟩ := hasL_of hok'.2
    have HALL := hide (isOk_iff.1 hok'.1).1
    have HOK := hide hok'.1
    have HHL := hide hok'.2
    have HP := hide hp
    have gb := line_bd (p := p) hok'.1 hq
    rw [lgO_yes hok hp rfl] at GI GS
    obtain ⟨x, hx⟩ : ∃ x, x = sW L q - sW L (min (fBx L p) q) + atW (tg L q) := ⟨_, rfl⟩
    obtain ⟨y, hy⟩ : ∃ x, x = sT L q - sT L (min (fBx L p) q) := ⟨_, rfl⟩
    obtain ⟨z, hz⟩ : ∃ x, x = sS L q - sS L (min (fBx L p) q) := ⟨_, rfl⟩
    rw [← hx, ← hy, ← hz] at GI GS
    rw [← hx, ← hz] at gb
    have HGI := hide GI
    have HGS := hide GS
    have HX := hide hx
    have HZ := hide hz
    clear GI GS hok hok' hx hy hz hp
    have hql : (q : Int) < (L.length : Int) := by omega
    go_wp2_with fail; (with_reducible refine (HGI.out _ HR.out).mono ?_); rintro e u1 ⟨rfl, hb1⟩; have HB1 := hide (bl_alloc (bl_call hb1 HB.out) (.cells #[.int .i64 x, .int .i64 y, .int .i64 z] 43)); have HR1 := hide ((HR.out.below hb1).alloc (.cells #[.int .i64 x, .int .i64 y, .int .i64 z] 43)); have k0 : (u1.alloc (.cells #[.int .i64 x, .int .i64 y, .int .i64 z] 43)).cell? ⟨u1.heap.size, 0, none⟩ = some (.int .i64 x) := (by simp [go_sem]); have k1 : (u1.alloc (.cells #[.int .i64 x, .int .i64 y, .int .i64 z] 43)).cell? ⟨u1.heap.size, 1, none⟩ = some (.int .i64 y) := (by simp [go_sem]); have k2 : (u1.alloc (.cells #[.int .i64 x, .int .i64 y, .int .i64 z] 43)).cell? ⟨u1.heap.size, 2, none⟩ = some (.int .i64 z) := (by simp [go_sem]); clear hb1; go_wp2_with fail; (with_reducible refine (HGS.out _ HR1.out).mono ?_); rintro e u2 ⟨rfl, hb2⟩; have HB2 := hide (bl_alloc (bl_call hb2 HB1.out) (.cells #[.int .i64 x, .int .i64 y, .int .i64 z] 43)); have HR2 := hide ((HR1.out.below hb2).alloc (.cells #[.int .i64 x, .int .i64 y, .int .i64 z] 43)); have k0 := keep_alloc (keep_cell hb2 k0) (.cells #[.int .i64 x, .int .i64 y, .int .i64 z] 43); have k1 := keep_alloc (keep_cell hb2 k1) (.cells #[.int .i64 x, .int .i64 y, .int .i64 z] 43); have k2 := keep_alloc (keep_cell hb2 k2) (.cells #[.int .i64 x, .int .i64 y, .int .i64 z] 43); clear hb2
    obtain ⟨b, o, rfl, hb0, d0, d1, d2, d3, d4, d5⟩ := HR2.out.at6 hq
    clear d1 d2 d3 d4 d5
    rcases (by omega : (tg L q).k ≠ 2 ∨ (tg L q).k = 2) with hk | hk
    · obtain ⟨kk, hkk⟩ : ∃ kk, kk = (tg L q).k := ⟨_, rfl⟩
      rw [← hkk] at d0 hk
      have hk' : (kk == 2) = false := beq_eq_false_iff_ne.2 hk
      clear hkk
      go_wp2
      go_ret
      exact ⟨by simp, HB2.out⟩
    · rw [hk] at d0
      have BI := fun (u : World) (h : TL u (some ⟨b, o, none⟩) L.length L) => BreaksOf_i u (some ⟨b, o, none⟩) L.length c0 L h (by omega)
      have BL := brO_len L
      have BIN := hide (fun k hk => brO_at1 (L := L) (k := k) HOK.out hk)
      unfold RetL at BI
      obtain ⟨R, hR⟩ : ∃ R, R = brO L := ⟨_, rfl⟩
      rw [← hR] at BI BL BIN
      have HBI := hide BI
      have LN := hide (fun (y : Nat) (h : okL L f y = true) (hy : q < y) => line_longer HALL.out HP.out HHL.out (by have := h; simp only [okL, Bool.and_eq_true] at this; exact this.2) hk hy)
      have GY := hide (fun (u : World) (h : TL u (some ⟨b, o, none⟩) L.length L) (y : Nat) (hy : y < L.length) => LineGlue_i u (some ⟨b, o, none⟩) L.length c0 L h (by omega) f y (by omega) (by omega))
      have LB := hide (fun (y : Nat) (hy : y < L.length) => line_bd (p := p) (q := y) HOK.out hy)
      have LX := hide (fun (y : Nat) (h : okL L f y = true) => lgO_yes h HP.out rfl)
      clear BI hR hk
      go_wp2_with fail
      (with_reducible refine (HBI.out _ HR2.out).mono ?_)
      rintro e u3 ⟨A3, c3, rfl, ho3, hb3⟩
      have HB3 := hide (bl_call hb3 HB2.out)
      have HR3 := hide (HR2.out.below hb3)
      have HRD := hide ho3.reads
      have k0 := keep_cell hb3 k0
      have k1 := keep_cell hb3 k1
      have k2 := keep_cell hb3 k2
      clear hb3 ho3 d0 HBI HB2 HR2 HB1 HR1 HGI HGS HR HB
      go_wp2
      go_loopw [11] (fun i u => ∃ k : Nat, k ≤ R.length ∧ i = .int .i64 k ∧ Below u3.heap.size u3 u) (fun i _ => R.length - (intOf i).toNat)
      case atStart => exact ⟨0, Nat.zero_le _, rfl, bl_refl _⟩
      case round =>
        obtain ⟨k, hk, rfl, hbl⟩ := hrel
        have HBL := hide hbl
        have HRW := hide (HR3.out.below hbl)
        have k0 := keep_cell hbl k0
        have k1 := keep_cell hbl k1
        have k2 := keep_cell hbl k2
        by_cases hlt : k < R.length
        · obtain ⟨b', o', rfl, hb0', c0'⟩ := (HRD.out.below hbl).at_ hlt
          obtain ⟨m, hm1, hm2⟩ := BIN.out k hlt
          rw [hm1] at c0'
          clear hm1 hbl
          have hml : (m : Int) < (L.length : Int) := by omega
          have G := GY.out wr HRW.out m hm2
          have mb := LB.out m hm2
          have MN := LN.out m
          have MX := LX.out m
          obtain ⟨x', hx'⟩ : ∃ x, x = sW L m - sW L (min (fBx L p) m) + atW (tg L m) := ⟨_, rfl⟩
          obtain ⟨y', hy'⟩ : ∃ x, x = sT L m - sT L (min (fBx L p) m) := ⟨_, rfl⟩
          obtain ⟨z', hz'⟩ : ∃ x, x = sS L m - sS L (min (fBx L p) m) := ⟨_, rfl⟩
          rw [← hx', ← hy', ← hz'] at MX
          rw [← hx', ← hz'] at mb MN
          rw [← HX.out, ← HZ.out] at MN
          clear hx' hy' hz'
          cases ho : okL L f m
          · rw [lgO_no ho] at G
            have HG := hide G
            clear G MN MX ho
            go_wp2_with fail
            (with_reducible refine HG.out.mono ?_)
            rintro e u4 ⟨rfl, hb4⟩
            have HB4 := hide (bl_alloc (bl_call hb4 HBL.out) (.cells #[.int .i64 0, .int .i64 0, .int .i64 0] 43))
            clear hb4
            go_wp2
            go_roundw
            case rel => exact ⟨k + 1, by omega, by go_num, HB4.out⟩
            case measure => simp [intOf]; omega
          · rw [MX ho] at G
            have HG := hide G
            have N := hide (MN ho)
            clear G MN MX ho
            rcases (by omega : ¬ (q : Int) < (m : Int) ∨ (q : Int) < (m : Int)) with g | g
            · clear N
              go_wp2_with fail
              (with_reducible refine HG.out.mono ?_)
              rintro e u4 ⟨rfl, hb4⟩
              have HB4 := hide (bl_alloc (bl_call hb4 HBL.out) (.cells #[.int .i64 x', .int .i64 y', .int .i64 z'] 43))
              have c0' := keep_alloc (keep_cell hb4 c0') (.cells #[.int .i64 x', .int .i64 y', .int .i64 z'] 43)
              clear hb4
              go_wp2
              go_roundw
              case rel => exact ⟨k + 1, by omega, by go_num, HB4.out⟩
              case measure => simp [intOf]; omega
            · obtain ⟨n1, n2⟩ := N.out (by omega)
              have g1 : ¬ x' < x := by omega
              have g2 : ¬ x' - z' < x - z := by omega
              have w1 : IntKind.i64.wrap (x' - z') = x' - z' := IntWalk.i64_in _ (by omega)
              have w2 : IntKind.i64.wrap (x - z) = x - z := IntWalk.i64_in _ (by omega)
              clear N n1 n2
              go_wp2_with fail
              (with_reducible refine HG.out.mono ?_)
              rintro e u4 ⟨rfl, hb4⟩
              have HB4 := hide (bl_alloc (bl_call hb4 HBL.out) (.cells #[.int .i64 x', .int .i64 y', .int .i64 z'] 43))
              have c0' := keep_alloc (keep_cell hb4 c0') (.cells #[.int .i64 x', .int .i64 y', .int .i64 z'] 43)
              have k0 := keep_alloc (keep_cell hb4 k0) (.cells #[.int .i64 x', .int .i64 y', .int .i64 z'] 43)
              have k1 := keep_alloc (keep_cell hb4 k1) (.cells #[.int .i64 x', .int .i64 y', .int .i64 z'] 43)
              have k2 := keep_alloc (keep_cell hb4 k2) (.cells #[.int .i64 x', .int .i64 y', .int .i64 z'] 43)
              have j0 : (u4.alloc (.cells #[.int .i64 x', .int .i64 y', .int .i64 z'] 43)).cell? ⟨u4.heap.size, 0, none⟩ = some (.int .i64 x') := by simp [go_sem]
              have j2 : (u4.alloc (.cells #[.int .i64 x', .int .i64 y', .int .i64 z'] 43)).cell? ⟨u4.heap.size, 2, none⟩ = some (.int .i64 z') := by simp [go_sem]
              clear hb4
              go_wp2
              go_roundw
              case rel => exact ⟨k + 1, by omega, by go_num, HB4.out⟩
              case measure => simp [intOf]; omega
        · go_wp2
          go_ret
          exact ⟨rfl, bl_call HBL.out HB3.out⟩
set_option maxRecDepth 100000 in
theorem lifted_FnLineLonger (os : Os) (started : os.Started) (H : Type) (enc : TypeId × Value → H) :
    ReturnsInHanded {} Try.checked os 16 .any (Rows.fnLineLongerSpec.pre6 enc Try.prog Try.f16 Rows.fnLineLongerRow.domain false) (Rows.fnLineLongerSpec.post enc Try.prog Try.f16 false true false false) := by
  refine returnsInHanded_of_change (C := Try.checked) own_knob started (by kernel_rfl) Try.func16
    (ChangeSpec.witness6 (enc := enc) (C := Try.checked) false ⟨#[], #[.slice none 0 0], []⟩ 8 (by kernel_rfl) (by kernel_rfl) (by kernel_rfl) (by kernel_rfl)) ?_
  intro W base args ds gs before hval0 hW hcnd _
  have hval : ∀ (j : Nat) t v, Try.f16.params[j]? = some t → args[j]? = some v → Value.okWide Try.prog W .any base t v := hval0
  have hW' := hW
  obtain ⟨p, q, hA0, hV, rfl, hfz, hnd⟩ := hW
  have hA : DataW.TrodAll enc Try.prog W 0 (fun _ => true) true Try.f16.params.toList args.toList ds p := hA0
  rw [Try.params16] at hA hval
  obtain ⟨v0, vs0, d0, ds0, p0, q0, hargs, rfl, rfl, zh0, r0⟩ := trodAll_cons hA
  obtain ⟨rfl, rfl, rfl⟩ := trodAll_nil r0
  obtain rfl : args = #[v0] := by cases args; simp_all
  obtain ⟨rfl, rfl⟩ := trodVars_none hV
  have zk0 := zh0
  have zl0 : ∀ x ∈ p0, x.block < W.heap.size := by obtain ⟨m, hm⟩ := zk0; exact DataW.trod_lt m _ _ _ hm
  clear hA0 hval0
  obtain ⟨a_code, n_code, c_code, rfl⟩ := okWide_slice Try.underlying29 (hval 0 29 v0 rfl rfl)
  obtain ⟨code, w_code⟩ := isRow_of Try.underlying29 Try.underlying5 (by kernel_rfl) zh0
  refine (walk_FnLineLonger a_code n_code c_code code W w_code).mono fun e W' ⟨he, bel⟩ => ?_
  subst he
  exact ⟨_, rfl, _, _, _, [], _, [], hW', trodAll_mk1 (shut_bool Try.underlying4 _), (trodAll_cons_mk (Below.trod laid_out (by kernel_rfl) (of_decide_eq_true (by kernel_rfl)) zk0 bel zl0) trodAll_mk0), rfl, bel.frame _, fun h => by cases h⟩

/-- The statement. -/
theorem FnLineLonger_holds : Rows.FnLineLongerSaid :=
  OpenClaim.holds_of_wide 16 Try.f16 rfl rfl rfl rfl rfl rfl rfl ⟨rfl, rfl, rfl, rfl, rfl⟩ rfl rfl rfl rfl rfl (by kernel_rfl) Try.func16 (by unfold joinedFacts; rw [may_enter, lifts_final, make_cut]; kernel_rfl)
    (of_decide_eq_true (by kernel_rfl)) (by unfold Func.isWrapper; first | (rw [if_pos (by decide +kernel)]; kernel_rfl) | (rw [if_neg (by decide +kernel)]; exact ⟨rfl, rfl⟩))
    (fun os started H enc _ => lifted_FnLineLonger os started H enc)
end Go.Proofs.Ytmncdpiojhgcdaa
