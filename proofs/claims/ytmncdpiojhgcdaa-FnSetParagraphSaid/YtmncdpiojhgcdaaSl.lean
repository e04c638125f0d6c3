/- SetLine in the program. -/
import Derived.Test.YtmncdpiojhgcdaaSlC
import Derived.Test.YtmncdpiojhgcdaaSf
namespace Go.Proofs.Ytmncdpiojhgcdaa
open Go.ChangeShapes Go.WideShapes Go.ChangeAt Go.RowKit
set_option linter.unusedVariables false
set_option linter.unusedSimpArgs false

theorem part_kind5 (x : It) (hx : KOk x) : ∃ T y, part x = .iface T y ∧ ((T = 166 ∧ y = bpv (inW x) ∧ inT x = 0 ∧ inS x = 0 ∧ isB x = true) ∨ (T = 171 ∧ y = gpv (inW x) (inT x) (inS x) ∧ isB x = false) ∨ (T = 134 ∧ (∃ a p f, y = ppv a p f) ∧ inW x = 0 ∧ inT x = 0 ∧ inS x = 0 ∧ isB x = false)) := by
  obtain ⟨k, b, c, d, e, f⟩ := x
  rcases hx with h | h | h
  · simp only at h
    subst h
    exact ⟨166, bpv b, by simp [part], .inl ⟨rfl, by simp [inW], by simp [inT], by simp [inS], by simp [isB]⟩⟩
  · simp only at h
    subst h
    exact ⟨171, gpv b c d, by simp [part], .inr (.inl ⟨rfl, by simp [inW, inT, inS], by simp [isB]⟩)⟩
  · simp only at h
    subst h
    exact ⟨134, ppv b e f, by simp [part], .inr (.inr ⟨rfl, ⟨_, _, _, rfl⟩, by simp [inW], by simp [inT], by simp [inS], by simp [isB]⟩)⟩
theorem cu_made (u : World) (W T S c : Int) : CU (u.alloc (.cells #[.int .i64 W, .int .i64 T, .int .i64 S, .int .i64 0, .int .i64 0, .int .i64 0, .int .i64 c] 162)) u.heap.size W T S 0 0 0 c := by
  constructor <;> simp [go_sem]
theorem position_b (w : World) {b : Nat} {W T S pw pt ps c : Int} (h : CU w b W T S pw pt ps c) (hT : 0 ≤ T ∧ T ≤ 1000000) (hS : 0 ≤ S ∧ S ≤ 1000000) (hw : 0 ≤ pw ∧ pw ≤ 1000000) (ht : 0 ≤ pt ∧ pt ≤ T) (hs : 0 ≤ ps ∧ ps ≤ S) (hc : -1000000 ≤ c ∧ c ≤ 1000000) :
    Calls Try.prog 140 #[.pointer (some ⟨b, 0, none⟩)] w fun e w' => e = .returned (.int .i64 (posn c T S pw pt ps)) ∧ Below w.heap.size w w' :=
  (position_i w h hT hS hw ht hs hc).mono fun _ _ ⟨a, j, b⟩ => ⟨a, b ▸ bl_drewN (bl_refl _) j⟩
set_option maxRecDepth 8000 in
set_option maxHeartbeats 8000000 in
theorem set_i (w : World) {B gp g c1 gs gf gb : Nat} (L : List It) (hps : PS w B gp g c1 gs gf gb L) (hall : ∀ i, i < L.length → itOk (tg L i) = true) (h1 : 1 ≤ L.length ∧ L.length ≤ 60) (a : Int) (p q : Nat) (hp : a + 1 = (p : Int)) (hpl : p ≤ q) (hq : q < L.length) (d : Int) (hd1 : 1 ≤ d) (hd2 : d ≤ 10000) :
    Calls Try.prog 94 #[.agg #[.slice (some ⟨g, 0, none⟩) L.length c1, .slice (some ⟨gs, 0, none⟩) (L.length + 1) (L.length + 1), .slice (some ⟨gf, 0, none⟩) (L.length + 1) (L.length + 1), .slice (some ⟨gb, 0, none⟩) (L.length + 1) (L.length + 1)], .int .i64 a, .int .i64 q, .int .i64 d] w (RetL w (setL L a d q)) := by
  have hmb : ∀ (v : Value) (W : World), (method 292 166 v "loop.example/typesetting/impl.inside").run Try.prog W = .ok (178, v) W := fun _ _ => by kernel_rfl
  have hmg : ∀ (v : Value) (W : World), (method 292 171 v "loop.example/typesetting/impl.inside").run Try.prog W = .ok (184, v) W := fun _ _ => by kernel_rfl
  have hmp : ∀ (v : Value) (W : World), (method 292 134 v "loop.example/typesetting/impl.inside").run Try.prog W = .ok (172, v) W := fun _ _ => by kernel_rfl
  have heb : ∀ (v : Value) (W : World), (method 292 166 v "loop.example/typesetting/impl.atEnd").run Try.prog W = .ok (176, v) W := fun _ _ => by kernel_rfl
  have heg : ∀ (v : Value) (W : World), (method 292 171 v "loop.example/typesetting/impl.atEnd").run Try.prog W = .ok (182, v) W := fun _ _ => by kernel_rfl
  have hep : ∀ (v : Value) (W : World), (method 292 134 v "loop.example/typesetting/impl.atEnd").run Try.prog W = .ok (170, v) W := fun _ _ => by kernel_rfl
  obtain ⟨i0, hi0, jz0, jz1, jz2⟩ := info_parts int_info
  have HPS := hide (ps_made hps.row hps.pr)
  have HB0 := hide (bl_alloc (bl_refl w) (.cells #[.slice (some ⟨g, 0, none⟩) L.length c1, .slice (some ⟨gs, 0, none⟩) (L.length + 1) (L.length + 1), .slice (some ⟨gf, 0, none⟩) (L.length + 1) (L.length + 1), .slice (some ⟨gb, 0, none⟩) (L.length + 1) (L.length + 1)] 82))
  have HST := hide (fun (u : World) (hu : PS u B w.heap.size g c1 gs gf gb L) => hu.start h1 a p q hp (by omega) (by omega))
  have HLG := HPS.out.lineGlue hall h1 a p q hp (by omega) hq
  have hsq : min (fBx L p) q ≤ q := Nat.min_le_right _ _
  obtain ⟨e1, e2, e3⟩ := lg_eqs (L := L) (q := q) hp
  have SA : stA L a q = min (fBx L p) q := by unfold stA; rw [hp]; rfl
  obtain ⟨F, HEQ⟩ : ∃ F, F = setL L a d q := ⟨_, rfl⟩
  rw [← HEQ]
  unfold setL at HEQ
  rw [SA, e1, e2, e3] at HEQ
  obtain ⟨s, hs⟩ : ∃ s, s = min (fBx L p) q := ⟨_, rfl⟩
  rw [← hs] at HST HLG HEQ hsq
  have bq := s_bd hall (k := q) (by omega)
  have bs := s_bd hall (k := s) (by omega)
  have bsq := s_mono hall (a := s) (k := q) hsq (by omega)
  have ab : 0 ≤ atW (tg L q) ∧ atW (tg L q) ≤ 1000 := by
    rcases iok_iff.1 (hall q hq) with h | h | h <;> (unfold atW; split <;> omega)
  obtain ⟨z, hz⟩ : ∃ x, x = atW (tg L q) := ⟨_, rfl⟩
  rw [← hz] at HEQ HLG ab
  obtain ⟨W, hW⟩ : ∃ x, x = sW L q - sW L s + z := ⟨_, rfl⟩
  obtain ⟨T, hT⟩ : ∃ x, x = sT L q - sT L s := ⟨_, rfl⟩
  obtain ⟨S, hS⟩ : ∃ x, x = sS L q - sS L s := ⟨_, rfl⟩
  rw [← hW, ← hT, ← hS] at HLG HEQ
  have bW : 0 ≤ W ∧ W ≤ 61000 := by omega
  have bT : 0 ≤ T ∧ T ≤ 60000 := by omega
  have bS : 0 ≤ S ∧ S ≤ 60000 := by omega
  have HLGH := hide HLG
  obtain ⟨c, hc⟩ : ∃ c, c = d - W := ⟨_, rfl⟩
  rw [← hc] at HEQ
  have bc0 : -61000 ≤ c ∧ c ≤ 10000 := by omega
  have wc : IntKind.i64.wrap (d - W) = c := by rw [hc]; exact IntWalk.i64_in _ (by omega)
  have wc' : d - W = c := hc.symm
  have HALL := hide hall
  have HZ := hide hz
  have HW := hide hW
  have HT := hide hT
  have HS := hide hS
  have AB := hide ab
  have MB := hide (fun k (hk1 : s ≤ k) (hk2 : k ≤ q) => show (0 ≤ sW L k - sW L s ∧ sW L k - sW L s ≤ 60000) ∧ (0 ≤ sT L k - sT L s ∧ sT L k - sT L s ≤ T) ∧ (0 ≤ sS L k - sS L s ∧ sS L k - sS L s ≤ S) from by
    have a1 := s_mono hall (a := s) (k := k) hk1 (by omega)
    have a2 := s_mono hall (a := k) (k := q) hk2 (by omega)
    have a3 := s_bd hall (k := k) (by omega)
    omega)
  have k0 := HPS.out.k0
  have k1 := HPS.out.k1
  have k2 := HPS.out.k2
  have k3 := HPS.out.k3
  have HEQ' := hide HEQ
  clear HEQ hps hall hs hz hW hT hS hc SA e1 e2 e3 bq bs bsq ab HLG hp
  go_enter Try.func94, Try.ntmps94
  go_wp2_with fail
  (with_reducible refine HLGH.out.mono ?_)
  rintro e u1 ⟨rfl, hb⟩
  have HB1 := hide (bl_call hb HB0.out)
  have HP1 := hide (HPS.out.below hb)
  have k0 := HP1.out.k0
  have k1 := HP1.out.k1
  have k2 := HP1.out.k2
  have k3 := HP1.out.k3
  have z0 : w.heap.size < u1.heap.size := World.block_lt_of_cell? u1 _ HP1.out.k0
  have zg : g < u1.heap.size := (World.ownsRow.lt HP1.out.row g rfl).2
  have y0 := Nat.le_of_lt z0
  clear hb HLGH HPS HB0
  have HPC := hide (HP1.out.below (bl_alloc (bl_alloc (bl_refl u1) (.cells #[.int .i64 W, .int .i64 T, .int .i64 S] 43)) (.cells #[.int .i64 W, .int .i64 T, .int .i64 S, .int .i64 0, .int .i64 0, .int .i64 0, .int .i64 c] 162)))
  have HBC := hide (bl_alloc (bl_alloc (bl_refl u1) (.cells #[.int .i64 W, .int .i64 T, .int .i64 S] 43)) (.cells #[.int .i64 W, .int .i64 T, .int .i64 S, .int .i64 0, .int .i64 0, .int .i64 0, .int .i64 c] 162))
  have hcu := cu_made (u1.alloc (.cells #[.int .i64 W, .int .i64 T, .int .i64 S] 43)) W T S c
  rw [show (u1.alloc (.cells #[.int .i64 W, .int .i64 T, .int .i64 S] 43)).heap.size = u1.heap.size + 1 from by simp] at hcu
  have HCU := hide hcu
  clear hcu
  go_wp2_with fail
  (with_reducible refine (HST.out _ HPC.out).mono ?_)
  rintro e u2 ⟨rfl, hb⟩
  have HC2 := hide (HCU.out.below hb)
  have HB12 := hide (bl_call hb HBC.out)
  have hz2 : u1.heap.size + 1 + 1 ≤ u2.heap.size := by have := hb.size; simp at this; omega
  clear hb HST HCU HBC HPC k0 k1 k2 k3
  go_wp2
  go_loopw [11, 12] (fun t i u => ∃ (k : Nat) (A2 : Option Addr) (m cc : Nat), s ≤ k ∧ k ≤ q ∧ t = .slice A2 m cc ∧ i = .int .i64 k ∧ m = (stN L c T S s (k - s)).length ∧ CU u (u1.heap.size + 1) W T S (sW L k - sW L s) (sT L k - sT L s) (sS L k - sS L s) c ∧ OL u 3 (u1.heap.size + 1 + 1) A2 cc (stN L c T S s (k - s)) ∧ Below (u1.heap.size + 1) u2 u) (fun _ i _ => q - (intOf i).toNat)
  case atStart => exact ⟨s, none, 0, 0, by omega, hsq, rfl, rfl, by rw [Nat.sub_self]; rfl, by simp only [Int.sub_self]; exact HC2.out, by rw [Nat.sub_self]; exact OL.nil _ _ _, Below.refl _ _⟩
  case round =>
    obtain ⟨k, A2, m, cc, hsk, hk, rfl, rfl, hm, hcu, hol, hbl⟩ := hrel
    have hmk : m ≤ k - s := by rw [hm]; exact stN_len L c T S s (k - s)
    have HM := hide hm
    have HBL := hide hbl
    have hzr : u1.heap.size + 1 + 1 ≤ wr.heap.size := by have := hbl.size; omega
    have HPW := hide (HP1.out.below (HB12.out.trans (hbl.mono (by omega))))
    obtain ⟨⟨w1, w2⟩, ⟨t1, t2⟩, ⟨x1, x2⟩⟩ := MB.out k hsk hk
    have HCU := hide hcu
    have HOL := hide hol
    have d0 := HPW.out.k0
    clear hm hbl hcu hol
    have hkl : k < L.length := by omega
    have hkl2 : (k : Int) < (L.length : Int) := by omega
    have d1 := World.ownsRow.cellAt HPW.out.row k (by omega)
    rw [List.getElem?_map, tg_get hkl, Option.map_some] at d1
    by_cases hlt : k < q
    · obtain ⟨pt, py, hpv, hkd⟩ := part_kind5 (tg L k) (KOk.of (HALL.out k hkl))
      have IB := fun (u : World) => isBox_i (tg L k) (KOk.of (HALL.out k hkl)) u
      have ib : (0 ≤ inW (tg L k) ∧ inW (tg L k) ≤ 1000) ∧ (0 ≤ inT (tg L k) ∧ inT (tg L k) ≤ 1000) ∧ (0 ≤ inS (tg L k) ∧ inS (tg L k) ≤ 1000) := in_bd HALL.out hkl
      have HNW := hide (show sW L (k + 1) - sW L s = sW L k - sW L s + inW (tg L k) from by simp only [sW]; omega)
      have HNT := hide (show sT L (k + 1) - sT L s = sT L k - sT L s + inT (tg L k) from by simp only [sT]; omega)
      have HNS := hide (show sS L (k + 1) - sS L s = sS L k - sS L s + inS (tg L k) from by simp only [sS]; omega)
      have STY := hide (fun h : isB (tg L k) = true => show stN L c T S s (k + 1 - s) = stN L c T S s (k - s) ++ [posn c T S (sW L k - sW L s) (sT L k - sT L s) (sS L k - sS L s)] from by
        have e1 : s + (k - s) = k := by omega
        have e2 := stN_yes (L := L) (c := c) (T := T) (S := S) (s := s) (d := k - s) (by rw [e1]; exact h)
        rw [e1] at e2
        rw [show k + 1 - s = k - s + 1 from by omega]
        exact e2)
      have STN := hide (fun h : isB (tg L k) = false => show stN L c T S s (k + 1 - s) = stN L c T S s (k - s) from by
        have e1 : s + (k - s) = k := by omega
        rw [show k + 1 - s = k - s + 1 from by omega]
        exact stN_no (by rw [e1]; exact h))
      rw [hpv] at d1 IB
      have HIB := hide IB
      have HKD := hide hkd
      obtain ⟨iw, hiw⟩ : ∃ x, x = inW (tg L k) := ⟨_, rfl⟩
      obtain ⟨it, hit⟩ : ∃ x, x = inT (tg L k) := ⟨_, rfl⟩
      obtain ⟨is, his⟩ : ∃ x, x = inS (tg L k) := ⟨_, rfl⟩
      obtain ⟨fb, hfb⟩ : ∃ x, x = isB (tg L k) := ⟨_, rfl⟩
      obtain ⟨pw, hpw⟩ : ∃ x, x = sW L k - sW L s := ⟨_, rfl⟩
      obtain ⟨qt, hqt⟩ : ∃ x, x = sT L k - sT L s := ⟨_, rfl⟩
      obtain ⟨ps, hps⟩ : ∃ x, x = sS L k - sS L s := ⟨_, rfl⟩
      rw [← hiw, ← hit, ← his] at ib HKD
      rw [← hpw, ← hqt, ← hps] at HCU STY
      rw [← hpw] at w1 w2 HNW
      rw [← hqt] at t1 t2 HNT
      rw [← hps] at x1 x2 HNS
      rw [← hiw] at HNW
      rw [← hit] at HNT
      rw [← his] at HNS
      rw [← hfb] at HKD STY STN HIB
      clear IB hkd hpv hiw hit his hfb hpw hqt hps
      obtain ⟨⟨a1, a2⟩, ⟨a3, a4⟩, ⟨a5, a6⟩⟩ := ib
      rcases HKD.out with ⟨rfl, rfl, rfl, rfl, rfl⟩ | ⟨rfl, rfl, rfl⟩ | ⟨rfl, ⟨a', p', f', rfl⟩, rfl, rfl, rfl, rfl⟩
      · have ST1 := hide (STY.out rfl)
        clear HKD STN STY
        go_wp2_with fail
        (with_reducible refine (HIB.out _).mono ?_); rintro e u4 ⟨rfl, hb⟩; have HC4 := hide (HCU.out.below hb); have HO4 := hide (HOL.out.below hb); have z4 := Nat.le_trans hzr hb.size; have HB4 := hide (HBL.out.trans (hb.mono (by omega))); have d0 := keep_cell hb d0; have d1 := keep_cell hb d1; clear hb HCU HOL HBL
        go_wp2_with (first | (go_at_call 140; (with_reducible refine (position_b _ (by first | exact HC4.out | exact HC4.out.drew) ⟨by omega, by omega⟩ ⟨by omega, by omega⟩ ⟨by omega, by omega⟩ ⟨by omega, by omega⟩ ⟨by omega, by omega⟩ ⟨by omega, by omega⟩).mono ?_); rintro e u5 ⟨rfl, hb5⟩; (try (with_reducible have hb5 := bl_undrew hb5)); have HC5 := hide (HC4.out.below hb5); have HO5 := hide (HO4.out.below hb5); have z5 := Nat.le_trans z4 hb5.size; have HB5 := hide (HB4.out.trans (hb5.mono (by omega))); have d0 := keep_cell hb5 d0; have d1 := keep_cell hb5 d1; clear hb5) | (at_builtin; go_loud (refine wpList_append_int rfl (.tmp 38) (.tmp 40) _ rfl 3 i0 Try.underlying30 hi0 jz0 jz1 jz2 (u1.heap.size + 1 + 1) A2 cc m (stN L c T S s (k - s)) rfl HM.out (HO5.out.alloc _) u5.heap.size (posn c T S pw qt ps) rfl (by simp) (by omega) (by simp; omega) ?_); intro A' c' w' hol' hb' hg'; go_loud (have HC6 := hide ((HC5.out.below (bl_alloc (bl_refl _) _)).kept hg' (fun e => by have := (HO5.out.own_lt _ (by rw [← HM.out]; exact e)).1; omega)); have HO6 := hide hol'; have hb6 := ((bl_alloc (bl_refl u5) _).mono z5).trans hb'; have HB6 := hide (HB5.out.trans (hb6.mono (by omega))); have z6 := Nat.le_trans z5 hb6.size; have d0 := (hb6.cell (p := ⟨w.heap.size, 0, none⟩) (show w.heap.size < u1.heap.size + 1 + 1 from by omega)).trans d0; have d1 := (hb6.cell (show g < u1.heap.size + 1 + 1 from by omega)).trans d1; clear hol' hb' hg' hb6)) | (go_at_call 178; (with_reducible refine (box_inside _ _).mono ?_); rintro e u7 ⟨rfl, hb7⟩; (try (with_reducible have hb7 := bl_undrew hb7)); have HC7 := hide (HC6.out.below hb7); have HO7 := hide (HO6.out.below hb7); have z7 := Nat.le_trans z6 hb7.size; have HB7 := hide (HB6.out.trans (hb7.mono (by omega))); clear hb7) | (go_at_call 141; (with_reducible refine (pass_i _ (by first | exact HC7.out | exact HC7.out.drew) _ _ _ ⟨by omega, by omega⟩ ⟨by omega, by omega⟩ ⟨by omega, by omega⟩ ⟨by omega, by omega⟩ ⟨by omega, by omega⟩ ⟨by omega, by omega⟩).mono ?_); rintro e u8 ⟨⟨v8, rfl⟩, hc8, hg8⟩; have HC8 := hide hc8; have HO8 := hide (HO7.out.kept hg8 (fun k hk e => by have := (HO7.out.own_lt _ hk).1; injection e with e; omega)); have HB8 := hide (HB7.out.grown hg8 (by omega) (fun k hk => by injection hk with hk; omega)); have z8 := Nat.le_trans z7 hg8.size; clear hc8 hg8))
        all_goals go_roundw
        case' measure => (simp [intOf]; omega)
        all_goals exact ⟨k + 1, A', m + 1, c', by omega, by omega, rfl, by go_num, by rw [ST1.out, List.length_append, ← HM.out]; rfl, by rw [HNW.out, HNT.out, HNS.out]; exact HC8.out, by rw [ST1.out]; exact HO8.out, HB8.out⟩
      · have ST1 := hide (STN.out rfl)
        clear HKD STN STY
        go_wp2_with fail
        (with_reducible refine (HIB.out _).mono ?_); rintro e u4 ⟨rfl, hb⟩; have HC4 := hide (HCU.out.below hb); have HO4 := hide (HOL.out.below hb); have z4 := Nat.le_trans hzr hb.size; have HB4 := hide (HBL.out.trans (hb.mono (by omega))); have d0 := keep_cell hb d0; have d1 := keep_cell hb d1; clear hb HCU HOL HBL
        have HC6 := HC4
        have HO6 := HO4
        have HB6 := HB4
        have z6 := z4
        go_wp2_with (first | (go_at_call 184; (with_reducible refine (glue_inside _ _ _ _).mono ?_); rintro e u7 ⟨rfl, hb7⟩; (try (with_reducible have hb7 := bl_undrew hb7)); have HC7 := hide (HC6.out.below hb7); have HO7 := hide (HO6.out.below hb7); have z7 := Nat.le_trans z6 hb7.size; have HB7 := hide (HB6.out.trans (hb7.mono (by omega))); clear hb7) | (go_at_call 141; (with_reducible refine (pass_i _ (by first | exact HC7.out | exact HC7.out.drew) _ _ _ ⟨by omega, by omega⟩ ⟨by omega, by omega⟩ ⟨by omega, by omega⟩ ⟨by omega, by omega⟩ ⟨by omega, by omega⟩ ⟨by omega, by omega⟩).mono ?_); rintro e u8 ⟨⟨v8, rfl⟩, hc8, hg8⟩; have HC8 := hide hc8; have HO8 := hide (HO7.out.kept hg8 (fun k hk e => by have := (HO7.out.own_lt _ hk).1; injection e with e; omega)); have HB8 := hide (HB7.out.grown hg8 (by omega) (fun k hk => by injection hk with hk; omega)); have z8 := Nat.le_trans z7 hg8.size; clear hc8 hg8))
        all_goals go_roundw
        case' measure => (simp [intOf]; omega)
        all_goals exact ⟨k + 1, A2, m, cc, by omega, by omega, rfl, by go_num, by rw [ST1.out]; exact HM.out, by rw [HNW.out, HNT.out, HNS.out]; exact HC8.out, by rw [ST1.out]; exact HO8.out, HB8.out⟩
      · have ST1 := hide (STN.out rfl)
        clear HKD STN STY
        go_wp2_with fail
        (with_reducible refine (HIB.out _).mono ?_); rintro e u4 ⟨rfl, hb⟩; have HC4 := hide (HCU.out.below hb); have HO4 := hide (HOL.out.below hb); have z4 := Nat.le_trans hzr hb.size; have HB4 := hide (HBL.out.trans (hb.mono (by omega))); have d0 := keep_cell hb d0; have d1 := keep_cell hb d1; clear hb HCU HOL HBL
        have HC6 := HC4
        have HO6 := HO4
        have HB6 := HB4
        have z6 := z4
        go_wp2_with (first | (go_at_call 172; (with_reducible refine (pen_inside _ _ _ _).mono ?_); rintro e u7 ⟨rfl, hb7⟩; (try (with_reducible have hb7 := bl_undrew hb7)); have HC7 := hide (HC6.out.below hb7); have HO7 := hide (HO6.out.below hb7); have z7 := Nat.le_trans z6 hb7.size; have HB7 := hide (HB6.out.trans (hb7.mono (by omega))); clear hb7) | (go_at_call 141; (with_reducible refine (pass_i _ (by first | exact HC7.out | exact HC7.out.drew) _ _ _ ⟨by omega, by omega⟩ ⟨by omega, by omega⟩ ⟨by omega, by omega⟩ ⟨by omega, by omega⟩ ⟨by omega, by omega⟩ ⟨by omega, by omega⟩).mono ?_); rintro e u8 ⟨⟨v8, rfl⟩, hc8, hg8⟩; have HC8 := hide hc8; have HO8 := hide (HO7.out.kept hg8 (fun k hk e => by have := (HO7.out.own_lt _ hk).1; injection e with e; omega)); have HB8 := hide (HB7.out.grown hg8 (by omega) (fun k hk => by injection hk with hk; omega)); have z8 := Nat.le_trans z7 hg8.size; clear hc8 hg8))
        all_goals go_roundw
        case' measure => (simp [intOf]; omega)
        all_goals exact ⟨k + 1, A2, m, cc, by omega, by omega, rfl, by go_num, by rw [ST1.out]; exact HM.out, by rw [HNW.out, HNT.out, HNS.out]; exact HC8.out, by rw [ST1.out]; exact HO8.out, HB8.out⟩
    · have e : k = q := by omega
      have HKQ := hide e
      have HMq := HM.out
      rw [e] at HCU HOL HMq d1
      have HM := hide HMq
      have hW := HW.out
      have hT := HT.out
      have hS := HS.out
      obtain ⟨pt, py, hpv, hkd⟩ := part_kind3 (tg L q) (KOk.of (HALL.out q hq))
      rw [← HZ.out] at hkd
      rw [hpv] at d1
      rw [← hT, ← hS] at HCU
      have HKD := hide hkd
      have b7 := (MB.out q hsq (Nat.le_refl _)).1
      obtain ⟨pw, hpw⟩ : ∃ x, x = sW L q - sW L s := ⟨_, rfl⟩
      rw [← hpw] at HCU hW b7
      obtain ⟨b8, b9⟩ := b7
      obtain ⟨b10, b11⟩ := AB.out
      have HHW := hide hW.symm
      have HE2 := HEQ'.out
      clear hkd hpv hpw hW hT hS HW HT HS HZ HMq w1 w2 t1 t2 x1 x2 e
      have HC6 := HCU
      have HO6 := HOL
      have HB6 := HBL
      have z6 := hzr
      have HF := hide HE2
      clear HE2 HEQ'
      rcases HKD.out with ⟨rfl, ⟨a', rfl⟩, hz'⟩ | ⟨rfl, ⟨a', b', c', rfl⟩, hz'⟩ | ⟨rfl, a', p', f', rfl, hz'⟩
      all_goals
        have hw' := HHW.out
        rw [hz'] at hw' b10 b11
        have HZZ := hide hw'
        clear hw' hz' HKD
      · go_wp2_with (first | (go_at_call 176; (with_reducible refine (box_atEnd _ _).mono ?_); rintro e u7 ⟨rfl, hb7⟩; (try (with_reducible have hb7 := bl_undrew hb7)); have HC7 := hide (HC6.out.below hb7); have HO7 := hide (HO6.out.below hb7); have z7 := Nat.le_trans z6 hb7.size; have HB7 := hide (HB6.out.trans (hb7.mono (by omega))); clear hb7) | (go_at_call 141; (with_reducible refine (pass_i _ (by first | exact HC7.out | exact HC7.out.drew) _ _ _ ⟨by omega, by omega⟩ ⟨by omega, by omega⟩ ⟨by omega, by omega⟩ ⟨by omega, by omega⟩ ⟨by omega, by omega⟩ ⟨by omega, by omega⟩).mono ?_); rintro e u8 ⟨⟨v8, rfl⟩, hc8, hg8⟩; rw [HZZ.out, Int.add_zero, Int.add_zero] at hc8; have HC8 := hide hc8; have HO8 := hide (HO7.out.kept hg8 (fun k hk e => by have := (HO7.out.own_lt _ hk).1; injection e with e; omega)); have HB8 := hide (HB7.out.grown hg8 (by omega) (fun k hk => by injection hk with hk; omega)); have z8 := Nat.le_trans z7 hg8.size; clear hc8 hg8) | (go_at_call 140; (with_reducible refine (position_b _ (by first | exact HC8.out | exact HC8.out.drew) ⟨by omega, by omega⟩ ⟨by omega, by omega⟩ ⟨by omega, by omega⟩ ⟨by omega, by omega⟩ ⟨by omega, by omega⟩ ⟨by omega, by omega⟩).mono ?_); rintro e u5 ⟨rfl, hb5⟩; (try (with_reducible have hb5 := bl_undrew hb5)); have HC5 := hide (HC8.out.below hb5); have HO5 := hide (HO8.out.below hb5); have z5 := Nat.le_trans z8 hb5.size; have HB5 := hide (HB8.out.trans (hb5.mono (by omega))); clear hb5) | (at_builtin; go_loud (refine wpList_append_int rfl (.tmp 56) (.tmp 58) _ rfl 3 i0 Try.underlying30 hi0 jz0 jz1 jz2 (u1.heap.size + 1 + 1) A2 cc m (stN L c T S s (q - s)) rfl HM.out (HO5.out.alloc _) u5.heap.size (posn c T S W T S) rfl (by simp) (by omega) (by simp; omega) ?_); intro A' c' w' hol' hb' hg'; go_loud (have HC6 := hide ((HC5.out.below (bl_alloc (bl_refl _) _)).kept hg' (fun e => by have := (HO5.out.own_lt _ (by rw [← HM.out]; exact e)).1; omega)); have HO6 := hide hol'; have hb6 := ((bl_alloc (bl_refl u5) _).mono z5).trans hb'; have HB6 := hide (HB5.out.trans (hb6.mono (by omega))); have z6 := Nat.le_trans z5 hb6.size; clear hol' hb' hg' hb6)))
        all_goals go_ret
        all_goals exact ⟨A', c', by rw [HF.out, List.length_append, ← HM.out]; rfl, by rw [HF.out]; exact World.ownsRow.mono HO6.out (by omega), bl_call (HB12.out.trans (HB6.out.mono (by omega))) HB1.out⟩
      · go_wp2_with (first | (go_at_call 182; (with_reducible refine (glue_atEnd _ _ _ _).mono ?_); rintro e u7 ⟨rfl, hb7⟩; (try (with_reducible have hb7 := bl_undrew hb7)); have HC7 := hide (HC6.out.below hb7); have HO7 := hide (HO6.out.below hb7); have z7 := Nat.le_trans z6 hb7.size; have HB7 := hide (HB6.out.trans (hb7.mono (by omega))); clear hb7) | (go_at_call 141; (with_reducible refine (pass_i _ (by first | exact HC7.out | exact HC7.out.drew) _ _ _ ⟨by omega, by omega⟩ ⟨by omega, by omega⟩ ⟨by omega, by omega⟩ ⟨by omega, by omega⟩ ⟨by omega, by omega⟩ ⟨by omega, by omega⟩).mono ?_); rintro e u8 ⟨⟨v8, rfl⟩, hc8, hg8⟩; rw [HZZ.out, Int.add_zero, Int.add_zero] at hc8; have HC8 := hide hc8; have HO8 := hide (HO7.out.kept hg8 (fun k hk e => by have := (HO7.out.own_lt _ hk).1; injection e with e; omega)); have HB8 := hide (HB7.out.grown hg8 (by omega) (fun k hk => by injection hk with hk; omega)); have z8 := Nat.le_trans z7 hg8.size; clear hc8 hg8) | (go_at_call 140; (with_reducible refine (position_b _ (by first | exact HC8.out | exact HC8.out.drew) ⟨by omega, by omega⟩ ⟨by omega, by omega⟩ ⟨by omega, by omega⟩ ⟨by omega, by omega⟩ ⟨by omega, by omega⟩ ⟨by omega, by omega⟩).mono ?_); rintro e u5 ⟨rfl, hb5⟩; (try (with_reducible have hb5 := bl_undrew hb5)); have HC5 := hide (HC8.out.below hb5); have HO5 := hide (HO8.out.below hb5); have z5 := Nat.le_trans z8 hb5.size; have HB5 := hide (HB8.out.trans (hb5.mono (by omega))); clear hb5) | (at_builtin; go_loud (refine wpList_append_int rfl (.tmp 56) (.tmp 58) _ rfl 3 i0 Try.underlying30 hi0 jz0 jz1 jz2 (u1.heap.size + 1 + 1) A2 cc m (stN L c T S s (q - s)) rfl HM.out (HO5.out.alloc _) u5.heap.size (posn c T S W T S) rfl (by simp) (by omega) (by simp; omega) ?_); intro A' c' w' hol' hb' hg'; go_loud (have HC6 := hide ((HC5.out.below (bl_alloc (bl_refl _) _)).kept hg' (fun e => by have := (HO5.out.own_lt _ (by rw [← HM.out]; exact e)).1; omega)); have HO6 := hide hol'; have hb6 := ((bl_alloc (bl_refl u5) _).mono z5).trans hb'; have HB6 := hide (HB5.out.trans (hb6.mono (by omega))); have z6 := Nat.le_trans z5 hb6.size; clear hol' hb' hg' hb6)))
        all_goals go_ret
        all_goals exact ⟨A', c', by rw [HF.out, List.length_append, ← HM.out]; rfl, by rw [HF.out]; exact World.ownsRow.mono HO6.out (by omega), bl_call (HB12.out.trans (HB6.out.mono (by omega))) HB1.out⟩
      · go_wp2_with (first | (go_at_call 170; (with_reducible refine (pen_atEnd _ _ _ _).mono ?_); rintro e u7 ⟨rfl, hb7⟩; (try (with_reducible have hb7 := bl_undrew hb7)); have HC7 := hide (HC6.out.below hb7); have HO7 := hide (HO6.out.below hb7); have z7 := Nat.le_trans z6 hb7.size; have HB7 := hide (HB6.out.trans (hb7.mono (by omega))); clear hb7) | (go_at_call 141; (with_reducible refine (pass_i _ (by first | exact HC7.out | exact HC7.out.drew) _ _ _ ⟨by omega, by omega⟩ ⟨by omega, by omega⟩ ⟨by omega, by omega⟩ ⟨by omega, by omega⟩ ⟨by omega, by omega⟩ ⟨by omega, by omega⟩).mono ?_); rintro e u8 ⟨⟨v8, rfl⟩, hc8, hg8⟩; rw [HZZ.out, Int.add_zero, Int.add_zero] at hc8; have HC8 := hide hc8; have HO8 := hide (HO7.out.kept hg8 (fun k hk e => by have := (HO7.out.own_lt _ hk).1; injection e with e; omega)); have HB8 := hide (HB7.out.grown hg8 (by omega) (fun k hk => by injection hk with hk; omega)); have z8 := Nat.le_trans z7 hg8.size; clear hc8 hg8) | (go_at_call 140; (with_reducible refine (position_b _ (by first | exact HC8.out | exact HC8.out.drew) ⟨by omega, by omega⟩ ⟨by omega, by omega⟩ ⟨by omega, by omega⟩ ⟨by omega, by omega⟩ ⟨by omega, by omega⟩ ⟨by omega, by omega⟩).mono ?_); rintro e u5 ⟨rfl, hb5⟩; (try (with_reducible have hb5 := bl_undrew hb5)); have HC5 := hide (HC8.out.below hb5); have HO5 := hide (HO8.out.below hb5); have z5 := Nat.le_trans z8 hb5.size; have HB5 := hide (HB8.out.trans (hb5.mono (by omega))); clear hb5) | (at_builtin; go_loud (refine wpList_append_int rfl (.tmp 56) (.tmp 58) _ rfl 3 i0 Try.underlying30 hi0 jz0 jz1 jz2 (u1.heap.size + 1 + 1) A2 cc m (stN L c T S s (q - s)) rfl HM.out (HO5.out.alloc _) u5.heap.size (posn c T S W T S) rfl (by simp) (by omega) (by simp; omega) ?_); intro A' c' w' hol' hb' hg'; go_loud (have HC6 := hide ((HC5.out.below (bl_alloc (bl_refl _) _)).kept hg' (fun e => by have := (HO5.out.own_lt _ (by rw [← HM.out]; exact e)).1; omega)); have HO6 := hide hol'; have hb6 := ((bl_alloc (bl_refl u5) _).mono z5).trans hb'; have HB6 := hide (HB5.out.trans (hb6.mono (by omega))); have z6 := Nat.le_trans z5 hb6.size; clear hol' hb' hg' hb6)))
        all_goals go_ret
        all_goals exact ⟨A', c', by rw [HF.out, List.length_append, ← HM.out]; rfl, by rw [HF.out]; exact World.ownsRow.mono HO6.out (by omega), bl_call (HB12.out.trans (HB6.out.mono (by omega))) HB1.out⟩
set_option maxRecDepth 8000 in
set_option maxHeartbeats 4000000 in
theorem SetLine_i (w : World) (A : Option Addr) (n c : Nat) (L : List It) (h : TL w A n L) (hn : n ≤ 1048576) (a b d : Int) (wa : -9223372036854775808 ≤ a ∧ a ≤ 9223372036854775807) (wb : -9223372036854775808 ≤ b ∧ b ≤ 9223372036854775807) :
    Calls Try.prog 44 #[.slice A n c, .int .i64 a, .int .i64 b, .int .i64 d] w (RetL w (setO L a b d)) := by
  have ME := hide (measure_i w A n c L h (by omega))
  obtain rfl : n = L.length := h.1
  clear h
  cases hok : isOk L
  · have E := hide (setO_no (L := L) (a := a) (b := b) (d := d) (by simp [okL, hok]))
    rw [hok] at ME
    clear hok wa wb
    go_enter Try.func44, Try.ntmps44
    go_wp2_with fail
    (with_reducible refine ME.out.mono ?_)
    rintro e u1 ⟨v, rfl, hv, hv0, hb⟩
    obtain rfl := hv0 (by trivial)
    have HB1 := hide hb
    clear hv hv0 hb
    go_wp2
    go_ret
    exact ⟨none, 0, by rw [E.out]; rfl, by rw [E.out]; exact OL.nil _ _ _, bl_alloc HB1.out _⟩
  · have HK := isOk_iff.1 hok
    have HALL := hide HK.1
    have hl60 := HK.2.1
    rw [hok] at ME
    cases q1 : inB d 1 10000
    · have E := hide (setO_no (L := L) (a := a) (b := b) (d := d) (by simp [q1]))
      clear HK hok wa wb
      go_enter Try.func44, Try.ntmps44
      go_wp2_with fail
      (with_reducible refine ME.out.mono ?_)
      rintro e u1 ⟨v, rfl, hv, hv0, hb⟩
      obtain ⟨g, c1, gs, gf, gb, rfl, hrow, hpr⟩ := hv (by trivial)
      have HB1 := hide hb
      clear hv hv0 hb hrow hpr
      go_wp2_with (go_at_call 91; refine (validWidth_ii _ _).mono ?_; rintro e w' ⟨rfl, rfl⟩)
      go_ret
      exact ⟨none, 0, by rw [E.out]; rfl, by rw [E.out]; exact OL.nil _ _ _, bl_alloc HB1.out _⟩
    · have hd := inB_iff.1 q1
      cases hh : hasL L a b
      · have E := hide (setO_no (L := L) (a := a) (b := b) (d := d) (by simp [okL, hh]))
        clear HK hok
        go_enter Try.func44, Try.ntmps44
        go_wp2_with fail
        (with_reducible refine ME.out.mono ?_)
        rintro e u1 ⟨v, rfl, hv, hv0, hb⟩
        obtain ⟨g, c1, gs, gf, gb, rfl, hrow, hpr⟩ := hv (by trivial)
        have HPS := hide (ps_made hrow hpr)
        have HB1 := hide (bl_alloc hb (.cells #[.slice (some ⟨g, 0, none⟩) L.length c1, .slice (some ⟨gs, 0, none⟩) (L.length + 1) (L.length + 1), .slice (some ⟨gf, 0, none⟩) (L.length + 1) (L.length + 1), .slice (some ⟨gb, 0, none⟩) (L.length + 1) (L.length + 1)] 82))
        have PH := HPS.out.hasLine HALL.out hl60 a b wa wb
        rw [hh] at PH
        have HPH := hide PH
        clear hv hv0 hb hrow hpr hh PH wa wb
        have k0 := HPS.out.k0
        have k1 := HPS.out.k1
        have k2 := HPS.out.k2
        have k3 := HPS.out.k3
        go_wp2_with (go_at_call 91; refine (validWidth_ii _ _).mono ?_; rintro e w' ⟨rfl, rfl⟩)
        (with_reducible refine HPH.out.mono ?_)
        rintro e u2 ⟨rfl, hb⟩
        have HB2 := hide (bl_call hb HB1.out)
        clear hb k0 k1 k2 k3
        go_wp2
        go_ret
        exact ⟨none, 0, by rw [E.out]; rfl, by rw [E.out]; exact OL.nil _ _ _, HB2.out⟩
      · have hh2 := hh
        obtain ⟨p, q, hp, rfl, hpq, hq, _⟩ := hasL_of hh
        have E := hide (setO_yes (L := L) (a := a) (q := q) (d := d) (by simp [okL, hok, hh2, q1]))
        clear HK hok hh2
        go_enter Try.func44, Try.ntmps44
        go_wp2_with fail
        (with_reducible refine ME.out.mono ?_)
        rintro e u1 ⟨v, rfl, hv, hv0, hb⟩
        obtain ⟨g, c1, gs, gf, gb, rfl, hrow, hpr⟩ := hv (by trivial)
        have HPS := hide (ps_made hrow hpr)
        have HB1 := hide (bl_alloc hb (.cells #[.slice (some ⟨g, 0, none⟩) L.length c1, .slice (some ⟨gs, 0, none⟩) (L.length + 1) (L.length + 1), .slice (some ⟨gf, 0, none⟩) (L.length + 1) (L.length + 1), .slice (some ⟨gb, 0, none⟩) (L.length + 1) (L.length + 1)] 82))
        have PH := HPS.out.hasLine HALL.out hl60 a q wa wb
        rw [hh] at PH
        have HPH := hide PH
        have HSE := hide (fun (u : World) (hu : PS u w.heap.size u1.heap.size g c1 gs gf gb L) => set_i u L hu HALL.out hl60 a p q hp hpq hq d hd.1 hd.2)
        clear hv hv0 hb hrow hpr hh PH wa wb hp
        have k0 := HPS.out.k0
        have k1 := HPS.out.k1
        have k2 := HPS.out.k2
        have k3 := HPS.out.k3
        go_wp2_with (go_at_call 91; refine (validWidth_ii _ _).mono ?_; rintro e w' ⟨rfl, rfl⟩)
        (with_reducible refine HPH.out.mono ?_)
        rintro e u2 ⟨rfl, hb⟩
        have HB2 := hide (bl_call hb HB1.out)
        have HP2 := hide (HPS.out.below hb)
        have k0 := HP2.out.k0
        have k1 := HP2.out.k1
        have k2 := HP2.out.k2
        have k3 := HP2.out.k3
        clear hb
        go_wp2_with fail
        (with_reducible refine (HSE.out _ HP2.out).mono ?_)
        rintro e u3 ⟨A3, c3, rfl, ho, hb⟩
        have HB3 := hide (bl_call hb HB2.out)
        have HO := hide (World.ownsRow.mono ho HB2.out.size)
        clear hb ho k0 k1 k2 k3
        go_wp2
        go_ret
        exact ⟨A3, c3, by rw [E.out]; first | done | rfl, by rw [E.out]; exact HO.out, HB3.out⟩
end Go.Proofs.Ytmncdpiojhgcdaa
