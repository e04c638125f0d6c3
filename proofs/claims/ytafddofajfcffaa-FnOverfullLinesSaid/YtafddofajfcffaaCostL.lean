/- The exact law on LineCost holds at every input: it answers as its model does and writes into no argument. No condition. -/
import Derived.Test.YtafddofajfcffaaJn
import Derived.Test.YtafddofajfcffaaCost
import Derived.Test.YtafddofajfcffaaTk2
namespace Go.Proofs.Ytafddofajfcffaa
open Go.ChangeShapes Go.WideShapes Go.ChangeAt Go.RowKit
set_option linter.unusedVariables false
set_option linter.unusedSimpArgs false

/-- What LineCost answers. -/
noncomputable def coO (L : List It) (a b d t : Int) : Int × Bool := if isOk L then coL L a b d t else (0, false)
theorem coO_no {L : List It} {a b d t : Int} (h : isOk L = false) : coO L a b d t = (0, false) := by simp [coO, h]
theorem coO_yes {L : List It} {a b d t : Int} (h : isOk L = true) : coO L a b d t = coL L a b d t := by simp [coO, h]
theorem coO_non {L : List It} {a b d t : Int} (h : (okL L a b && inB d 1 10000 && inB t 0 10000) = false) : coO L a b d t = (0, false) := by
  cases q : isOk L
  · exact coO_no q
  · rw [coO_yes q]
    refine coL_no ?_
    have h' : (hasL L a b && inB d 1 10000 && inB t 0 10000) = false := by simpa [okL, q] using h
    rw [h']; rfl
set_option maxRecDepth 8000 in
set_option maxHeartbeats 4000000 in
theorem LineCost_i (w : World) (A : Option Addr) (n c : Nat) (L : List It) (h : TL w A n L) (hn : n ≤ 1048576) (a b d t : Int) (wa : -9223372036854775808 ≤ a ∧ a ≤ 9223372036854775807) (wb : -9223372036854775808 ≤ b ∧ b ≤ 9223372036854775807) :
    Calls Try.prog 57 #[.slice A n c, .int .i64 a, .int .i64 b, .int .i64 d, .int .i64 t] w fun e w' => e = .returned (.tuple #[.int .i64 (coO L a b d t).1, .bool (coO L a b d t).2]) ∧ Below w.heap.size w w' := by
  have ME := hide (measure_i w A n c L h (by omega))
  obtain rfl : n = L.length := h.1
  clear h
  cases hok : isOk L
  · have E := hide (coO_no (L := L) (a := a) (b := b) (d := d) (t := t) hok)
    rw [hok] at ME
    clear hok wa wb
    go_enter Try.func57, Try.ntmps57
    go_wp2_with fail
    (with_reducible refine ME.out.mono ?_)
    rintro e u1 ⟨v, rfl, hv, hv0, hb⟩
    obtain rfl := hv0 (by trivial)
    have HB1 := hide hb
    clear hv hv0 hb
    go_wp2
    go_ret2
    exact ⟨by rw [E.out]; rfl, bl_alloc HB1.out _⟩
  · have HK := isOk_iff.1 hok
    have HALL := hide HK.1
    have hl60 := HK.2.1
    rw [hok] at ME
    rw [coO_yes hok]
    clear HK hok
    go_enter Try.func57, Try.ntmps57
    go_wp2_with fail
    (with_reducible refine ME.out.mono ?_)
    rintro e u1 ⟨v, rfl, hv, hv0, hb⟩
    obtain ⟨g, c1, gs, gf, gb, rfl, hrow, hpr⟩ := hv (by trivial)
    have HPS := hide (ps_made hrow hpr)
    have HB1 := hide (bl_alloc hb (.cells #[.slice (some ⟨g, 0, none⟩) L.length c1, .slice (some ⟨gs, 0, none⟩) (L.length + 1) (L.length + 1), .slice (some ⟨gf, 0, none⟩) (L.length + 1) (L.length + 1), .slice (some ⟨gb, 0, none⟩) (L.length + 1) (L.length + 1)] 92))
    have HF := hide (cost_i _ L HPS.out HALL.out hl60 a b d t wa wb)
    clear hv hv0 hb hrow hpr wa wb
    have k0 := HPS.out.k0
    have k1 := HPS.out.k1
    have k2 := HPS.out.k2
    have k3 := HPS.out.k3
    go_wp2_with fail
    (with_reducible refine HF.out.mono ?_)
    rintro e u2 ⟨rfl, hb⟩
    have HB2 := hide (bl_call hb HB1.out)
    clear hb k0 k1 k2 k3
    go_wp2
    go_ret2
    exact ⟨rfl, HB2.out⟩
set_option maxRecDepth 8000 in
set_option maxHeartbeats 8000000 in
theorem lineCost_s (w : World) (A : Option Addr) (c : Nat) (L : List It) (h : TL w A L.length L) (hall : ∀ i, i < L.length → itOk (tg L i) = true) (hl : L.length ≤ 60) (a : Int) (p q : Nat) (hp : a + 1 = (p : Int)) (d t : Int) (hln : hasL L a q = true) (hd : inB d 1 10000 = true) (ht : inB t 0 10000 = true) :
    Calls Try.prog 100 #[.slice A L.length c, .int .i64 a, .int .i64 q, .int .i64 d, .int .i64 t] w fun e w' => e = .returned (.tuple #[.int .i64 (coL L a q d t).1, .bool (coL L a q d t).2]) ∧ Below w.heap.size w w' := by
  have HI := hide h
  obtain ⟨p', q', hp', hqq, hpq, hq, _, hme, hnf⟩ := hasL_of hln
  obtain rfl : p' = p := by omega
  obtain rfl : q' = q := by omega
  have q0 : (hasL L a q' && inB d 1 10000) = true := by rw [hln, hd]; rfl
  have hp9 := mayE_p hall hq hme
  have ZB := ftL_bad hall q0
  have E := ftL_yes (L := L) (a := a) (b := (q' : Int)) (d := d) q0
  obtain ⟨e1, e2, e3⟩ := lg_eqs (L := L) (q := q') hp
  obtain ⟨b1, b2, b3⟩ := lg_bd (p := p') hall hq (min (fBx L p') q') (Nat.min_le_right _ _)
  rw [e1, e2, e3] at E
  have LG := fun (u : World) (hu : TL u A L.length L) => lineGlue_s u A c L hu hall hl a p' q' hp hpq hq
  rw [stS_min hpq (by omega) hnf] at LG
  obtain ⟨z0, hz0⟩ : ∃ z, z = sW L q' - sW L (min (fBx L p') q') + atW (tg L q') := ⟨_, rfl⟩
  obtain ⟨z1, hz1⟩ : ∃ z, z = sT L q' - sT L (min (fBx L p') q') := ⟨_, rfl⟩
  obtain ⟨z2, hz2⟩ : ∃ z, z = sS L q' - sS L (min (fBx L p') q') := ⟨_, rfl⟩
  rw [← hz0, ← hz1, ← hz2] at E LG
  rw [← hz0] at b1
  rw [← hz1] at b2
  rw [← hz2] at b3
  have HLG := hide LG
  have i1 := cl_in b1
  have i2 := cl_in b2
  have i3 := cl_in b3
  have hd' := inB_iff.1 hd
  have ht' := inB_iff.1 ht
  have FG := fun (u : World) => fitGlue_s (cl z0) (cl z1) (cl z2) d u ⟨by omega, i1.2⟩ i2 i3 ⟨by omega, hd'.2⟩
  rw [← E] at FG
  have CO := fun h => coL_no (L := L) (a := a) (b := (q' : Int)) (d := d) (t := t) h
  have CY := fun h => coL_yes (L := L) (a := a) (b := (q' : Int)) (d := d) (t := t) h
  rw [q0, ht] at CO CY
  obtain ⟨F1, hF1⟩ : ∃ F, F = (ftL L a q' d).1 := ⟨_, rfl⟩
  obtain ⟨F2, hF2⟩ : ∃ F, F = (ftL L a q' d).2 := ⟨_, rfl⟩
  rw [← hF1, ← hF2] at FG CO CY
  rw [← hF2] at ZB
  have HFG := hide FG
  have H0 := HI.out.at6 hq
  clear h E e1 e2 e3 LG hz0 hz1 hz2 FG i1 i2 i3 hd hd' q0 hF1 hF2 hln hme hnf hp'
  rcases (by omega : F1 = 4 ∨ F1 ≠ 4) with h4 | h4
  · subst h4
    have E := hide (CO (by simp))
    clear CO CY H0
    go_enter Try.func100, Try.ntmps100
    go_wp2_with fail; (with_reducible refine (HLG.out _ HI.out).mono ?_); rintro e u1 ⟨rfl, hb⟩; have HB1 := hide hb; clear hb; go_wp2_with fail; (with_reducible refine (clampGlue_s z0 z1 z2 _).mono ?_); rintro e u2 ⟨rfl, hb⟩; have HB2 := hide (bl_call hb HB1.out); clear hb; go_wp2_with fail; (with_reducible refine (HFG.out _).mono ?_); rintro e u3 ⟨rfl, hb⟩; have HB3 := hide (bl_call hb HB2.out); clear hb
    go_wp2
    go_ret2
    exact ⟨by rw [E.out]; rfl, HB3.out⟩
  have g4 : (F1 == 4) = false := beq_eq_false_iff_ne.2 h4
  rcases (by omega : t < F2 ∨ F2 ≤ t) with h5 | h5
  · have E := hide (CO (by rw [decide_eq_false (show ¬ F2 ≤ t by omega)]; simp))
    clear CO CY H0 h4
    go_enter Try.func100, Try.ntmps100
    go_wp2_with fail; (with_reducible refine (HLG.out _ HI.out).mono ?_); rintro e u1 ⟨rfl, hb⟩; have HB1 := hide hb; clear hb; go_wp2_with fail; (with_reducible refine (clampGlue_s z0 z1 z2 _).mono ?_); rintro e u2 ⟨rfl, hb⟩; have HB2 := hide (bl_call hb HB1.out); clear hb; go_wp2_with fail; (with_reducible refine (HFG.out _).mono ?_); rintro e u3 ⟨rfl, hb⟩; have HB3 := hide (bl_call hb HB2.out); clear hb
    go_wp2
    go_ret2
    exact ⟨by rw [E.out]; rfl, HB3.out⟩
  · have E := CY (by rw [decide_eq_true h4, decide_eq_true h5]; rfl)
    obtain ⟨b', o, hA, hb0, _, _, _, _, d4, d5⟩ := H0
    rw [show (q' : Int).toNat = q' from rfl] at E
    obtain ⟨y1, hy1⟩ : ∃ x, x = (tg L q').p := ⟨_, rfl⟩
    obtain ⟨y2, hy2⟩ : ∃ x, x = (tg L q').f := ⟨_, rfl⟩
    rw [← hy1] at d4 hp9 E
    rw [← hy2] at d5 E
    have hg : decide (t < F2) = false := decide_eq_false (by omega)
    have HD := hide (fun (f : Bool) (u : World) => demerits_s F2 y1 f u ZB (by omega) hp9.1 hp9.2)
    have hq2 : (q' : Int) < (L.length : Int) := by omega
    subst hA
    rcases (by omega : a < 0 ∨ 0 ≤ a) with ha | ha
    · have HE : Hid (coL L a q' d t = (dem F2 y1 false, true)) := hide (by rw [E, decide_eq_false (show ¬ (0 ≤ a) by omega)]; rfl)
      have d6 : decide (0 ≤ a) = false := decide_eq_false (by omega)
      clear CO CY h4 hy1 hy2 E
      go_enter Try.func100, Try.ntmps100
      go_wp2_with fail; (with_reducible refine (HLG.out _ HI.out).mono ?_); rintro e u1 ⟨rfl, hb⟩; have HB1 := hide hb; clear hb; go_wp2_with fail; (with_reducible refine (clampGlue_s z0 z1 z2 _).mono ?_); rintro e u2 ⟨rfl, hb⟩; have HB2 := hide (bl_call hb HB1.out); clear hb; go_wp2_with fail; (with_reducible refine (HFG.out _).mono ?_); rintro e u3 ⟨rfl, hb⟩; have HB3 := hide (bl_call hb HB2.out); clear hb
      have d4 := keep_cell HB3.out d4
      have d5 := keep_cell HB3.out d5
      go_upto_region 4 with fail
      have S0 := bl_drew (bl_refl u3)
      refine wp_region_held_drew (S := fun u : World => Below u3.heap.size u3 u) (by kernel_rfl) (S0) (fun hHeld => ?_)
      (first | refine tky 0 (h := ?_) | refine tkn 0 (h := ?_)); (try simp only [Act.put, tkd, tke, tkf]); (first | refine tky 1 (h := ?_) | refine tkn 1 (h := ?_)); (try simp only [Act.put, tkd, tke, tkf]); (first | refine tky 2 (h := ?_) | refine tkn 2 (h := ?_)); (try simp only [Act.put, tkd, tke, tkf]); (first | refine tky 3 (h := ?_) | refine tkn 3 (h := ?_)); (try simp only [Act.put, tkd, tke, tkf]); (first | refine tky 4 (h := ?_) | refine tkn 4 (h := ?_)); (try simp only [Act.put, tkd, tke, tkf]); refine tkY (i := 5) (oi := ?_) (v := ?_) ?_ (by kernel_rfl) ?_ ?_ ?_ (by assumption) ?_; rotate_left 2; (next => simp only [tka, tkb, tkc]; rfl); (next => exact fun _ _ _ h => h); (next => rfl); (next => intro w_ hSw; (try dsimp only at hSw); have d4 := keep_cell hSw d4; go_simp; (try (with_reducible rfl))); (try simp only [Act.put, tkd, tke, tkf]); (first | refine tky 6 (h := ?_) | refine tkn 6 (h := ?_)); (try simp only [Act.put, tkd, tke, tkf]); (first | refine tky 7 (h := ?_) | refine tkn 7 (h := ?_)); (try simp only [Act.put, tkd, tke, tkf]); (first | refine tky 8 (h := ?_) | refine tkn 8 (h := ?_)); (try simp only [Act.put, tkd, tke, tkf])
      (first | refine tky 9 (h := ?_) | refine tkn 9 (h := ?_)); (try simp only [Act.put, tkd, tke, tkf])
      (first | refine tky 10 (h := ?_) | refine tkn 10 (h := ?_)); (try simp only [Act.put, tkd, tke, tkf])
      (first | refine tky 11 (h := ?_) | refine tkn 11 (h := ?_)); (try simp only [Act.put, tkd, tke, tkf])
      (first | refine tky 12 (h := ?_) | refine tkn 12 (h := ?_)); (try simp only [Act.put, tkd, tke, tkf])
      (first | refine tky 13 (h := ?_) | refine tkn 13 (h := ?_)); (try simp only [Act.put, tkd, tke, tkf])
      (first | refine tky 14 (h := ?_) | refine tkn 14 (h := ?_)); (try simp only [Act.put, tkd, tke, tkf])
      (first | refine tky 15 (h := ?_) | refine tkn 15 (h := ?_)); (try simp only [Act.put, tkd, tke, tkf])
      (first | refine tky 16 (h := ?_) | refine tkn 16 (h := ?_)); (try simp only [Act.put, tkd, tke, tkf])
      (first | refine tky 17 (h := ?_) | refine tkn 17 (h := ?_)); (try simp only [Act.put, tkd, tke, tkf])
      (first | refine tky 18 (h := ?_) | refine tkn 18 (h := ?_)); (try simp only [Act.put, tkd, tke, tkf])
      (first | refine tky 19 (h := ?_) | refine tkn 19 (h := ?_)); (try simp only [Act.put, tkd, tke, tkf])
      (first | refine tky 20 (h := ?_) | refine tkn 20 (h := ?_)); (try simp only [Act.put, tkd, tke, tkf])
      (first | refine tky 21 (h := ?_) | refine tkn 21 (h := ?_)); (try simp only [Act.put, tkd, tke, tkf])
      refine wpAnyH_ready (rs := [22]) (by kernel_rfl) (by simp) ?_; refine AllReadyH.cons (o := ?_) ?_ (fun K hK => ?_) AllReadyH.nil; rotate_left 1; (next => simp only [List.getElem?_toArray, List.getElem?_cons_succ, List.getElem?_cons_zero]; rfl); go_simp; (go_at_call 145; (with_reducible refine (HD.out _ _).mono ?_); rintro e w' ⟨rfl, rfl⟩)
      (try go_wp2_with fail); refine hK.out _ _ (S0) (fun hHeld => ?_); clear hK K; (try simp only [Act.put, List.setIfInBounds_toArray, List.set_cons_zero, List.set_cons_succ])
      (first | refine tky 23 (h := ?_) | refine tkn 23 (h := ?_)); (try simp only [Act.put, tkd, tke, tkf])
      (first | refine tky 24 (h := ?_) | refine tkn 24 (h := ?_)); (try simp only [Act.put, tkd, tke, tkf])
      refine wpAnyH_done (by kernel_rfl) ?_ _
      go_wp2
      go_ret2
      exact ⟨by rw [HE.out]; rfl, bl_drew HB3.out⟩
    · obtain ⟨m, rfl⟩ : ∃ m : Nat, a = (m : Int) := ⟨a.toNat, by omega⟩
      have hm : m < L.length := by omega
      obtain ⟨b2, o2, hA, hb2, _, _, _, _, e4, e5⟩ := HI.out.at6 hm
      injection hA with hA
      cases hA
      obtain ⟨x2, hx2⟩ : ∃ x, x = (tg L m).f := ⟨_, rfl⟩
      rw [show ((m : Nat) : Int).toNat = m from rfl, ← hx2, decide_eq_true ha, Bool.true_and] at E
      rw [← hx2] at e5
      have hm2 : (m : Int) < (L.length : Int) := by omega
      have d6 : decide ((0 : Int) ≤ (m : Int)) = true := decide_eq_true (by omega)
      have HE := hide E
      clear CO CY h4 hy1 hy2 E e4 hx2
      cases x2
      · go_enter Try.func100, Try.ntmps100
        go_wp2_with fail; (with_reducible refine (HLG.out _ HI.out).mono ?_); rintro e u1 ⟨rfl, hb⟩; have HB1 := hide hb; clear hb; go_wp2_with fail; (with_reducible refine (clampGlue_s z0 z1 z2 _).mono ?_); rintro e u2 ⟨rfl, hb⟩; have HB2 := hide (bl_call hb HB1.out); clear hb; go_wp2_with fail; (with_reducible refine (HFG.out _).mono ?_); rintro e u3 ⟨rfl, hb⟩; have HB3 := hide (bl_call hb HB2.out); clear hb
        have d4 := keep_cell HB3.out d4
        have d5 := keep_cell HB3.out d5
        have e5 := keep_cell HB3.out e5
        go_upto_region 4 with fail
        have S0 := bl_drew (bl_refl u3)
        refine wp_region_held_drew (S := fun u : World => Below u3.heap.size u3 u) (by kernel_rfl) (S0) (fun hHeld => ?_)
        (first | refine tky 0 (h := ?_) | refine tkn 0 (h := ?_)); (try simp only [Act.put, tkd, tke, tkf]); (first | refine tky 1 (h := ?_) | refine tkn 1 (h := ?_)); (try simp only [Act.put, tkd, tke, tkf]); (first | refine tky 2 (h := ?_) | refine tkn 2 (h := ?_)); (try simp only [Act.put, tkd, tke, tkf]); (first | refine tky 3 (h := ?_) | refine tkn 3 (h := ?_)); (try simp only [Act.put, tkd, tke, tkf]); (first | refine tky 4 (h := ?_) | refine tkn 4 (h := ?_)); (try simp only [Act.put, tkd, tke, tkf]); refine tkY (i := 5) (oi := ?_) (v := ?_) ?_ (by kernel_rfl) ?_ ?_ ?_ (by assumption) ?_; rotate_left 2; (next => simp only [tka, tkb, tkc]; rfl); (next => exact fun _ _ _ h => h); (next => rfl); (next => intro w_ hSw; (try dsimp only at hSw); have d4 := keep_cell hSw d4; go_simp; (try (with_reducible rfl))); (try simp only [Act.put, tkd, tke, tkf]); (first | refine tky 6 (h := ?_) | refine tkn 6 (h := ?_)); (try simp only [Act.put, tkd, tke, tkf]); (first | refine tky 7 (h := ?_) | refine tkn 7 (h := ?_)); (try simp only [Act.put, tkd, tke, tkf]); (first | refine tky 8 (h := ?_) | refine tkn 8 (h := ?_)); (try simp only [Act.put, tkd, tke, tkf])
        (first | refine tky 9 (h := ?_) | refine tkn 9 (h := ?_)); (try simp only [Act.put, tkd, tke, tkf])
        (first | refine tky 10 (h := ?_) | refine tkn 10 (h := ?_)); (try simp only [Act.put, tkd, tke, tkf])
        (first | refine tky 11 (h := ?_) | refine tkn 11 (h := ?_)); (try simp only [Act.put, tkd, tke, tkf])
        (first | refine tky 12 (h := ?_) | refine tkn 12 (h := ?_)); (try simp only [Act.put, tkd, tke, tkf])
        refine tkY (i := 13) (oi := ?_) (v := ?_) ?_ (by kernel_rfl) ?_ ?_ ?_ (by assumption) ?_; rotate_left 2; (next => simp only [tka, tkb, tkc]; rfl); (next => exact fun _ _ _ h => h); (next => rfl); (next => intro w_ hSw; (try dsimp only at hSw); have e5 := keep_cell hSw e5; go_simp; (try (with_reducible rfl))); (try simp only [Act.put, tkd, tke, tkf])
        (first | refine tky 14 (h := ?_) | refine tkn 14 (h := ?_)); (try simp only [Act.put, tkd, tke, tkf])
        (first | refine tky 15 (h := ?_) | refine tkn 15 (h := ?_)); (try simp only [Act.put, tkd, tke, tkf])
        (first | refine tky 16 (h := ?_) | refine tkn 16 (h := ?_)); (try simp only [Act.put, tkd, tke, tkf])
        (first | refine tky 17 (h := ?_) | refine tkn 17 (h := ?_)); (try simp only [Act.put, tkd, tke, tkf])
        (first | refine tky 18 (h := ?_) | refine tkn 18 (h := ?_)); (try simp only [Act.put, tkd, tke, tkf])
        (first | refine tky 19 (h := ?_) | refine tkn 19 (h := ?_)); (try simp only [Act.put, tkd, tke, tkf])
        (first | refine tky 20 (h := ?_) | refine tkn 20 (h := ?_)); (try simp only [Act.put, tkd, tke, tkf])
        (first | refine tky 21 (h := ?_) | refine tkn 21 (h := ?_)); (try simp only [Act.put, tkd, tke, tkf])
        refine wpAnyH_ready (rs := [22]) (by kernel_rfl) (by simp) ?_; refine AllReadyH.cons (o := ?_) ?_ (fun K hK => ?_) AllReadyH.nil; rotate_left 1; (next => simp only [List.getElem?_toArray, List.getElem?_cons_succ, List.getElem?_cons_zero]; rfl); go_simp; (go_at_call 145; (with_reducible refine (HD.out _ _).mono ?_); rintro e w' ⟨rfl, rfl⟩)
        (try go_wp2_with fail); refine hK.out _ _ (S0) (fun hHeld => ?_); clear hK K; (try simp only [Act.put, List.setIfInBounds_toArray, List.set_cons_zero, List.set_cons_succ])
        (first | refine tky 23 (h := ?_) | refine tkn 23 (h := ?_)); (try simp only [Act.put, tkd, tke, tkf])
        (first | refine tky 24 (h := ?_) | refine tkn 24 (h := ?_)); (try simp only [Act.put, tkd, tke, tkf])
        refine wpAnyH_done (by kernel_rfl) ?_ _
        go_wp2
        go_ret2
        exact ⟨by rw [HE.out]; first | done | rfl, bl_drew HB3.out⟩
      · go_enter Try.func100, Try.ntmps100
        go_wp2_with fail; (with_reducible refine (HLG.out _ HI.out).mono ?_); rintro e u1 ⟨rfl, hb⟩; have HB1 := hide hb; clear hb; go_wp2_with fail; (with_reducible refine (clampGlue_s z0 z1 z2 _).mono ?_); rintro e u2 ⟨rfl, hb⟩; have HB2 := hide (bl_call hb HB1.out); clear hb; go_wp2_with fail; (with_reducible refine (HFG.out _).mono ?_); rintro e u3 ⟨rfl, hb⟩; have HB3 := hide (bl_call hb HB2.out); clear hb
        have d4 := keep_cell HB3.out d4
        have d5 := keep_cell HB3.out d5
        have e5 := keep_cell HB3.out e5
        go_upto_region 4 with fail
        have S0 := bl_drew (bl_refl u3)
        refine wp_region_held_drew (S := fun u : World => Below u3.heap.size u3 u) (by kernel_rfl) (S0) (fun hHeld => ?_)
        (first | refine tky 0 (h := ?_) | refine tkn 0 (h := ?_)); (try simp only [Act.put, tkd, tke, tkf]); (first | refine tky 1 (h := ?_) | refine tkn 1 (h := ?_)); (try simp only [Act.put, tkd, tke, tkf]); (first | refine tky 2 (h := ?_) | refine tkn 2 (h := ?_)); (try simp only [Act.put, tkd, tke, tkf]); (first | refine tky 3 (h := ?_) | refine tkn 3 (h := ?_)); (try simp only [Act.put, tkd, tke, tkf]); (first | refine tky 4 (h := ?_) | refine tkn 4 (h := ?_)); (try simp only [Act.put, tkd, tke, tkf]); refine tkY (i := 5) (oi := ?_) (v := ?_) ?_ (by kernel_rfl) ?_ ?_ ?_ (by assumption) ?_; rotate_left 2; (next => simp only [tka, tkb, tkc]; rfl); (next => exact fun _ _ _ h => h); (next => rfl); (next => intro w_ hSw; (try dsimp only at hSw); have d4 := keep_cell hSw d4; go_simp; (try (with_reducible rfl))); (try simp only [Act.put, tkd, tke, tkf]); (first | refine tky 6 (h := ?_) | refine tkn 6 (h := ?_)); (try simp only [Act.put, tkd, tke, tkf]); (first | refine tky 7 (h := ?_) | refine tkn 7 (h := ?_)); (try simp only [Act.put, tkd, tke, tkf]); (first | refine tky 8 (h := ?_) | refine tkn 8 (h := ?_)); (try simp only [Act.put, tkd, tke, tkf])
        (first | refine tky 9 (h := ?_) | refine tkn 9 (h := ?_)); (try simp only [Act.put, tkd, tke, tkf])
        (first | refine tky 10 (h := ?_) | refine tkn 10 (h := ?_)); (try simp only [Act.put, tkd, tke, tkf])
        (first | refine tky 11 (h := ?_) | refine tkn 11 (h := ?_)); (try simp only [Act.put, tkd, tke, tkf])
        (first | refine tky 12 (h := ?_) | refine tkn 12 (h := ?_)); (try simp only [Act.put, tkd, tke, tkf])
        refine tkY (i := 13) (oi := ?_) (v := ?_) ?_ (by kernel_rfl) ?_ ?_ ?_ (by assumption) ?_; rotate_left 2; (next => simp only [tka, tkb, tkc]; rfl); (next => exact fun _ _ _ h => h); (next => rfl); (next => intro w_ hSw; (try dsimp only at hSw); have e5 := keep_cell hSw e5; go_simp; (try (with_reducible rfl))); (try simp only [Act.put, tkd, tke, tkf])
        (first | refine tky 14 (h := ?_) | refine tkn 14 (h := ?_)); (try simp only [Act.put, tkd, tke, tkf])
        (first | refine tky 15 (h := ?_) | refine tkn 15 (h := ?_)); (try simp only [Act.put, tkd, tke, tkf])
        (first | refine tky 16 (h := ?_) | refine tkn 16 (h := ?_)); (try simp only [Act.put, tkd, tke, tkf])
        (first | refine tky 17 (h := ?_) | refine tkn 17 (h := ?_)); (try simp only [Act.put, tkd, tke, tkf])
        (first | refine tky 18 (h := ?_) | refine tkn 18 (h := ?_)); (try simp only [Act.put, tkd, tke, tkf])
        (first | refine tky 19 (h := ?_) | refine tkn 19 (h := ?_)); (try simp only [Act.put, tkd, tke, tkf])
        refine tkY (i := 20) (oi := ?_) (v := ?_) ?_ (by kernel_rfl) ?_ ?_ ?_ (by assumption) ?_; rotate_left 2; (next => simp only [tka, tkb, tkc]; rfl); (next => exact fun _ _ _ h => h); (next => rfl); (next => intro w_ hSw; (try dsimp only at hSw); have d5 := keep_cell hSw d5; go_simp; (try (with_reducible rfl))); (try simp only [Act.put, tkd, tke, tkf])
        (first | refine tky 21 (h := ?_) | refine tkn 21 (h := ?_)); (try simp only [Act.put, tkd, tke, tkf])
        refine wpAnyH_ready (rs := [22]) (by kernel_rfl) (by simp) ?_; refine AllReadyH.cons (o := ?_) ?_ (fun K hK => ?_) AllReadyH.nil; rotate_left 1; (next => simp only [List.getElem?_toArray, List.getElem?_cons_succ, List.getElem?_cons_zero]; rfl); go_simp; (go_at_call 145; (with_reducible refine (HD.out _ _).mono ?_); rintro e w' ⟨rfl, rfl⟩)
        (try go_wp2_with fail); refine hK.out _ _ (S0) (fun hHeld => ?_); clear hK K; (try simp only [Act.put, List.setIfInBounds_toArray, List.set_cons_zero, List.set_cons_succ])
        (first | refine tky 23 (h := ?_) | refine tkn 23 (h := ?_)); (try simp only [Act.put, tkd, tke, tkf])
        (first | refine tky 24 (h := ?_) | refine tkn 24 (h := ?_)); (try simp only [Act.put, tkd, tke, tkf])
        refine wpAnyH_done (by kernel_rfl) ?_ _
        go_wp2
        go_ret2
        exact ⟨by rw [HE.out]; first | done | rfl | (simp; done), bl_drew HB3.out⟩
set_option maxHeartbeats 4000000 in
theorem LineCost_s (w : World) (A : Option Addr) (n c : Nat) (L : List It) (h : TL w A n L) (hn : n ≤ 1048576) (a b d t : Int) (wa : -9223372036854775808 ≤ a ∧ a ≤ 9223372036854775807) (wb : -9223372036854775808 ≤ b ∧ b ≤ 9223372036854775807) :
    Calls Try.prog 80 #[.slice A n c, .int .i64 a, .int .i64 b, .int .i64 d, .int .i64 t] w fun e w' => e = .returned (.tuple #[.int .i64 (coO L a b d t).1, .bool (coO L a b d t).2]) ∧ Below w.heap.size w w' := by
  have VL := hide (validLine_s w A n c L h hn a b wa wb)
  obtain rfl : n = L.length := h.1
  have HI := hide h
  clear h wa wb
  cases hol : okL L a b
  · have E := hide (coO_non (L := L) (a := a) (b := b) (d := d) (t := t) (by simp [hol]))
    rw [hol] at VL
    clear hol
    go_enter Try.func80, Try.ntmps80
    go_wp2_with fail
    (with_reducible refine VL.out.mono ?_)
    rintro e u1 ⟨rfl, hb⟩
    have HB1 := hide hb
    clear hb
    go_wp2
    go_ret2
    exact ⟨by rw [E.out]; rfl, HB1.out⟩
  cases q1 : inB d 1 10000
  · have E := hide (coO_non (L := L) (a := a) (b := b) (d := d) (t := t) (by simp [q1]))
    rw [hol] at VL
    clear hol
    go_enter Try.func80, Try.ntmps80
    go_wp2_with fail
    (with_reducible refine VL.out.mono ?_)
    rintro e u1 ⟨rfl, hb⟩
    have HB1 := hide hb
    clear hb
    go_wp2_with (go_at_call 69; refine (validWidth_ss _ _).mono ?_; rintro e w' ⟨rfl, rfl⟩)
    go_ret2
    exact ⟨by rw [E.out]; rfl, HB1.out⟩
  cases q2 : inB t 0 10000
  · have E := hide (coO_non (L := L) (a := a) (b := b) (d := d) (t := t) (by simp [q2]))
    rw [hol] at VL
    clear hol
    go_enter Try.func80, Try.ntmps80
    go_wp2_with fail
    (with_reducible refine VL.out.mono ?_)
    rintro e u1 ⟨rfl, hb⟩
    have HB1 := hide hb
    clear hb
    go_wp2_with (first | (go_at_call 69; refine (validWidth_ss _ _).mono ?_; rintro e w' ⟨rfl, rfl⟩) | (go_at_call 96; refine (inRange_any _ _ _ _).mono ?_; rintro e w' ⟨rfl, rfl⟩))
    go_ret2
    exact ⟨by rw [E.out]; rfl, HB1.out⟩
  · rw [hol] at VL
    have hh := hol
    simp only [okL, Bool.and_eq_true] at hh
    obtain ⟨p, q, hp, rfl, hpq, hq, _⟩ := hasL_of hh.2
    have OK := isOk_iff.1 hh.1
    rw [coO_yes hh.1]
    have HLC := hide (fun (u : World) (hu : TL u A L.length L) => lineCost_s u A c L hu OK.1 OK.2.1.2 a p q hp d t hh.2 q1 q2)
    clear hol hh OK hp
    go_enter Try.func80, Try.ntmps80
    go_wp2_with fail
    (with_reducible refine VL.out.mono ?_)
    rintro e u1 ⟨rfl, hb⟩
    have HB1 := hide hb
    have HI1 := hide (HI.out.below hb)
    clear hb
    go_wp2_with (first | (go_at_call 69; refine (validWidth_ss _ _).mono ?_; rintro e w' ⟨rfl, rfl⟩) | (go_at_call 96; refine (inRange_any _ _ _ _).mono ?_; rintro e w' ⟨rfl, rfl⟩))
    (with_reducible refine (HLC.out _ HI1.out).mono ?_)
    rintro e u2 ⟨rfl, hb⟩
    have HB2 := hide (bl_call hb HB1.out)
    clear hb
    go_wp2
    go_ret2
    exact ⟨rfl, HB2.out⟩
end Go.Proofs.Ytafddofajfcffaa
