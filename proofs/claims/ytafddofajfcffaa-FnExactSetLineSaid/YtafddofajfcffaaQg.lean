/- Several texts of one claim, one behind the other. -/
import Derived.Test.YtafddofajfcffaaQa
import Derived.Test.YtafddofajfcffaaQf
import Derived.Deep.RegionHeld3
import Derived.Deep.CutRange
import Derived.Test.YtafddofajfcffaaQb
/- The exact law on LineCost holds at every input: it answers as its model does and writes into no argument. No condition. -/
namespace Go.Proofs.Ytafddofajfcffaa
open Go.ChangeShapes Go.WideShapes Go.ChangeAt Go.RowKit
set_option linter.unusedVariables false
set_option linter.unusedSimpArgs false

/-- What LineCost answers. -/
noncomputable def coO (L : List It) (a b d t : Int) : Int × Bool := if isOk L then coL L a b d t else (0, false)
theorem coO_no {L : List It} {a b d t : Int} (h : isOk L = false) : coO L a b d t = (0, false) := by simp [coO, h]
theorem coO_yes {L : List It} {a b d t : Int} (h : isOk L = true) : coO L a b d t = coL L a b d t := by simp [coO, h]
theorem coO_non {L : List It} {a b d t : Int} (h : (okL L a b && inB d 1 10000 && inB t 0 10000) = false) : coO L a b d t = (0, false) := by
  cases q : isOk L
  · exact coO_no q
  · rw [coO_yes q]
    refine coL_no ?_
    have h' : (hasL L a b && inB d 1 10000 && inB t 0 10000) = false := by simpa [okL, q] using h
    rw [h']; rfl
set_option maxRecDepth 8000 in
set_option maxHeartbeats 4000000 in
theorem LineCost_i (w : World) (A : Option Addr) (n c : Nat) (L : List It) (h : TL w A n L) (hn : n ≤ 1048576) (a b d t : Int) (wa : -9223372036854775808 ≤ a ∧ a ≤ 9223372036854775807) (wb : -9223372036854775808 ≤ b ∧ b ≤ 9223372036854775807) :
    Calls Try.prog 57 #[.slice A n c, .int .i64 a, .int .i64 b, .int .i64 d, .int .i64 t] w fun e w' => e = .returned (.tuple #[.int .i64 (coO L a b d t).1, .bool (coO L a b d t).2]) ∧ Below w.heap.size w w' := by
  have ME := hide (measure_i w A n c L h (by omega))
  obtain rfl : n = L.length := h.1
  clear h
  cases hok : isOk L
  · have E := hide (coO_no (L := L) (a := a) (b := b) (d := d) (t := t) hok)
    rw [hok] at ME
    clear hok wa wb
    go_enter Try.func57, Try.ntmps57
    go_wp2_with fail
    (with_reducible refine ME.out.mono ?_)
    rintro e u1 ⟨v, rfl, hv, hv0, hb⟩
    obtain rfl := hv0 (by trivial)
    have HB1 := hide hb
    clear hv hv0 hb
    go_wp2
    go_ret2
    exact ⟨by rw [E.out]; rfl, bl_alloc HB1.out _⟩
  · have HK := isOk_iff.1 hok
    have HALL := hide HK.1
    have hl60 := HK.2.1
    rw [hok] at ME
    rw [coO_yes hok]
    clear HK hok
    go_enter Try.func57, Try.ntmps57
    go_wp2_with fail
    (with_reducible refine ME.out.mono ?_)
    rintro e u1 ⟨v, rfl, hv, hv0, hb⟩
    obtain ⟨g, c1, gs, gf, gb, rfl, hrow, hpr⟩ := hv (by trivial)
    have HPS := hide (ps_made hrow hpr)
    have HB1 := hide (bl_alloc hb (.cells #[.slice (some ⟨g, 0, none⟩) L.length c1, .slice (some ⟨gs, 0, none⟩) (L.length + 1) (L.length + 1), .slice (some ⟨gf, 0, none⟩) (L.length + 1) (L.length + 1), .slice (some ⟨gb, 0, none⟩) (L.length + 1) (L.length + 1)] 92))
    have HF := hide (cost_i _ L HPS.out HALL.out hl60 a b d t wa wb)
    clear hv hv0 hb hrow hpr wa wb
    have k0 := HPS.out.k0
    have k1 := HPS.out.k1
    have k2 := HPS.out.k2
    have k3 := HPS.out.k3
    go_wp2_with fail
    (with_reducible refine HF.out.mono ?_)
    rintro e u2 ⟨rfl, hb⟩
    have HB2 := hide (bl_call hb HB1.out)
    clear hb k0 k1 k2 k3
    go_wp2
    go_ret2
    exact ⟨rfl, HB2.out⟩
set_option maxRecDepth 8000 in
set_option maxHeartbeats 8000000 in
theorem lineCost_s (w : World) (A : Option Addr) (c : Nat) (L : List It) (h : TL w A L.length L) (hall : ∀ i, i < L.length → itOk (tg L i) = true) (hl : L.length ≤ 60) (a : Int) (p q : Nat) (hp : a + 1 = (p : Int)) (d t : Int) (hln : hasL L a q = true) (hd : inB d 1 10000 = true) (ht : inB t 0 10000 = true) :
    Calls Try.prog 100 #[.slice A L.length c, .int .i64 a, .int .i64 q, .int .i64 d, .int .i64 t] w fun e w' => e = .returned (.tuple #[.int .i64 (coL L a q d t).1, .bool (coL L a q d t).2]) ∧ Below w.heap.size w w' := by
  have HI := hide h
  obtain ⟨p', q', hp', hqq, hpq, hq, _, hme, hnf⟩ := hasL_of hln
  obtain rfl : p' = p := by omega
  obtain rfl : q' = q := by omega
  have q0 : (hasL L a q' && inB d 1 10000) = true := by rw [hln, hd]; rfl
  have hp9 := mayE_p hall hq hme
  have ZB := ftL_bad hall q0
  have E := ftL_yes (L := L) (a := a) (b := (q' : Int)) (d := d) q0
  obtain ⟨e1, e2, e3⟩ := lg_eqs (L := L) (q := q') hp
  obtain ⟨b1, b2, b3⟩ := lg_bd (p := p') hall hq (min (fBx L p') q') (Nat.min_le_right _ _)
  rw [e1, e2, e3] at E
  have LG := fun (u : World) (hu : TL u A L.length L) => lineGlue_s u A c L hu hall hl a p' q' hp hpq hq
  rw [stS_min hpq (by omega) hnf] at LG
  obtain ⟨z0, hz0⟩ : ∃ z, z = sW L q' - sW L (min (fBx L p') q') + atW (tg L q') := ⟨_, rfl⟩
  obtain ⟨z1, hz1⟩ : ∃ z, z = sT L q' - sT L (min (fBx L p') q') := ⟨_, rfl⟩
  obtain ⟨z2, hz2⟩ : ∃ z, z = sS L q' - sS L (min (fBx L p') q') := ⟨_, rfl⟩
  rw [← hz0, ← hz1, ← hz2] at E LG
  rw [← hz0] at b1
  rw [← hz1] at b2
  rw [← hz2] at b3
  have HLG := hide LG
  have i1 := cl_in b1
  have i2 := cl_in b2
  have i3 := cl_in b3
  have hd' := inB_iff.1 hd
  have ht' := inB_iff.1 ht
  have FG := fun (u : World) => fitGlue_s (cl z0) (cl z1) (cl z2) d u ⟨by omega, i1.2⟩ i2 i3 ⟨by omega, hd'.2⟩
  rw [← E] at FG
  have CO := fun h => coL_no (L := L) (a := a) (b := (q' : Int)) (d := d) (t := t) h
  have CY := fun h => coL_yes (L := L) (a := a) (b := (q' : Int)) (d := d) (t := t) h
  rw [q0, ht] at CO CY
  obtain ⟨F1, hF1⟩ : ∃ F, F = (ftL L a q' d).1 := ⟨_, rfl⟩
  obtain ⟨F2, hF2⟩ : ∃ F, F = (ftL L a q' d).2 := ⟨_, rfl⟩
  rw [← hF1, ← hF2] at FG CO CY
  rw [← hF2] at ZB
  have HFG := hide FG
  have H0 := HI.out.at6 hq
  clear h E e1 e2 e3 LG hz0 hz1 hz2 FG i1 i2 i3 hd hd' q0 hF1 hF2 hln hme hnf hp'
  rcases (by omega : F1 = 4 ∨ F1 ≠ 4) with h4 | h4
  · subst h4
    have E := hide (CO (by simp))
    clear CO CY H0
    go_enter Try.func100, Try.ntmps100
    go_wp2_with fail; (with_reducible refine (HLG.out _ HI.out).mono ?_); rintro e u1 ⟨rfl, hb⟩; have HB1 := hide hb; clear hb; go_wp2_with fail; (with_reducible refine (clampGlue_s z0 z1 z2 _).mono ?_); rintro e u2 ⟨rfl, hb⟩; have HB2 := hide (bl_call hb HB1.out); clear hb; go_wp2_with fail; (with_reducible refine (HFG.out _).mono ?_); rintro e u3 ⟨rfl, hb⟩; have HB3 := hide (bl_call hb HB2.out); clear hb
    go_wp2
    go_ret2
    exact ⟨by rw [E.out]; rfl, HB3.out⟩
  have g4 : (F1 == 4) = false := beq_eq_false_iff_ne.2 h4
  rcases (by omega : t < F2 ∨ F2 ≤ t) with h5 | h5
  · have E := hide (CO (by rw [decide_eq_false (show ¬ F2 ≤ t by omega)]; simp))
    clear CO CY H0 h4
    go_enter Try.func100, Try.ntmps100
    go_wp2_with fail; (with_reducible refine (HLG.out _ HI.out).mono ?_); rintro e u1 ⟨rfl, hb⟩; have HB1 := hide hb; clear hb; go_wp2_with fail; (with_reducible refine (clampGlue_s z0 z1 z2 _).mono ?_); rintro e u2 ⟨rfl, hb⟩; have HB2 := hide (bl_call hb HB1.out); clear hb; go_wp2_with fail; (with_reducible refine (HFG.out _).mono ?_); rintro e u3 ⟨rfl, hb⟩; have HB3 := hide (bl_call hb HB2.out); clear hb
    go_wp2
    go_ret2
    exact ⟨by rw [E.out]; rfl, HB3.out⟩
  · have E := CY (by rw [decide_eq_true h4, decide_eq_true h5]; rfl)
    obtain ⟨b', o, hA, hb0, _, _, _, _, d4, d5⟩ := H0
    rw [show (q' : Int).toNat = q' from rfl] at E
    obtain ⟨y1, hy1⟩ : ∃ x, x = (tg L q').p := ⟨_, rfl⟩
    obtain ⟨y2, hy2⟩ : ∃ x, x = (tg L q').f := ⟨_, rfl⟩
    rw [← hy1] at d4 hp9 E
    rw [← hy2] at d5 E
    have hg : decide (t < F2) = false := decide_eq_false (by omega)
    have HD := hide (fun (f : Bool) (u : World) => demerits_s F2 y1 f u ZB (by omega) hp9.1 hp9.2)
    have hq2 : (q' : Int) < (L.length : Int) := by omega
    subst hA
    rcases (by omega : a < 0 ∨ 0 ≤ a) with ha | ha
    · have HE : Hid (coL L a q' d t = (dem F2 y1 false, true)) := hide (by rw [E, decide_eq_false (show ¬ (0 ≤ a) by omega)]; rfl)
      have d6 : decide (0 ≤ a) = false := decide_eq_false (by omega)
      clear CO CY h4 hy1 hy2 E
      go_enter Try.func100, Try.ntmps100
      go_wp2_with fail; (with_reducible refine (HLG.out _ HI.out).mono ?_); rintro e u1 ⟨rfl, hb⟩; have HB1 := hide hb; clear hb; go_wp2_with fail; (with_reducible refine (clampGlue_s z0 z1 z2 _).mono ?_); rintro e u2 ⟨rfl, hb⟩; have HB2 := hide (bl_call hb HB1.out); clear hb; go_wp2_with fail; (with_reducible refine (HFG.out _).mono ?_); rintro e u3 ⟨rfl, hb⟩; have HB3 := hide (bl_call hb HB2.out); clear hb
      have d4 := keep_cell HB3.out d4
      have d5 := keep_cell HB3.out d5
      go_upto_region 4 with fail
      have S0 := bl_drew (bl_refl u3)
      refine wp_region_held_drew (S := fun u : World => Below u3.heap.size u3 u) (by kernel_rfl) (S0) (fun hHeld => ?_)
      (first | (refine tkY (i := 0) (oi := ?_) (v := ?_) ?_ (by kernel_rfl) ?_ ?_ ?_ (by assumption) ?_; rotate_left 2; (next => simp only [tka, tkb, tkc]; rfl); (next => exact fun _ _ _ h => h); (next => rfl); (next => intro w hSw; (try dsimp only at hSw); go_simp; (try (with_reducible rfl)))) | (refine tkN (i := 0) (oi := ?_) ?_ (by kernel_rfl) ?_ ?_ (by assumption) ?_; rotate_left 1; (next => simp only [tka, tkb, tkc]; rfl); (next => exact fun _ _ _ h => h); (next => rfl))); (try simp only [Act.put, tkd, tke, tkf]); (first | (refine tkY (i := 1) (oi := ?_) (v := ?_) ?_ (by kernel_rfl) ?_ ?_ ?_ (by assumption) ?_; rotate_left 2; (next => simp only [tka, tkb, tkc]; rfl); (next => exact fun _ _ _ h => h); (next => rfl); (next => intro w hSw; (try dsimp only at hSw); go_simp; (try (with_reducible rfl)))) | (refine tkN (i := 1) (oi := ?_) ?_ (by kernel_rfl) ?_ ?_ (by assumption) ?_; rotate_left 1; (next => simp only [tka, tkb, tkc]; rfl); (next => exact fun _ _ _ h => h); (next => rfl))); (try simp only [Act.put, tkd, tke, tkf]); (first | (refine tkY (i := 2) (oi := ?_) (v := ?_) ?_ (by kernel_rfl) ?_ ?_ ?_ (by assumption) ?_; rotate_left 2; (next => simp only [tka, tkb, tkc]; rfl); (next => exact fun _ _ _ h => h); (next => rfl); (next => intro w hSw; (try dsimp only at hSw); go_simp; (try (with_reducible rfl)))) | (refine tkN (i := 2) (oi := ?_) ?_ (by kernel_rfl) ?_ ?_ (by assumption) ?_; rotate_left 1; (next => simp only [tka, tkb, tkc]; rfl); (next => exact fun _ _ _ h => h); (next => rfl))); (try simp only [Act.put, tkd, tke, tkf]); (first | (refine tkY (i := 3) (oi := ?_) (v := ?_) ?_ (by kernel_rfl) ?_ ?_ ?_ (by assumption) ?_; rotate_left 2; (next => simp only [tka, tkb, tkc]; rfl); (next => exact fun _ _ _ h => h); (next => rfl); (next => intro w hSw; (try dsimp only at hSw); go_simp; (try (with_reducible rfl)))) | (refine tkN (i := 3) (oi := ?_) ?_ (by kernel_rfl) ?_ ?_ (by assumption) ?_; rotate_left 1; (next => simp only [tka, tkb, tkc]; rfl); (next => exact fun _ _ _ h => h); (next => rfl))); (try simp only [Act.put, tkd, tke, tkf]); (first | (refine tkY (i := 4) (oi := ?_) (v := ?_) ?_ (by kernel_rfl) ?_ ?_ ?_ (by assumption) ?_; rotate_left 2; (next => simp only [tka, tkb, tkc]; rfl); (next => exact fun _ _ _ h => h); (next => rfl); (next => intro w hSw; (try dsimp only at hSw); go_simp; (try (with_reducible rfl)))) | (refine tkN (i := 4) (oi := ?_) ?_ (by kernel_rfl) ?_ ?_ (by assumption) ?_; rotate_left 1; (next => simp only [tka, tkb, tkc]; rfl); (next => exact fun _ _ _ h => h); (next => rfl))); (try simp only [Act.put, tkd, tke, tkf]); refine tkY (i := 5) (oi := ?_) (v := ?_) ?_ (by kernel_rfl) ?_ ?_ ?_ (by assumption) ?_; rotate_left 2; (next => simp only [tka, tkb, tkc]; rfl); (next => exact fun _ _ _ h => h); (next => rfl); (next => intro w_ hSw; (try dsimp only at hSw); have d4 := keep_cell hSw d4; go_simp; (try (with_reducible rfl))); (try simp only [Act.put, tkd, tke, tkf]); (first | (refine tkY (i := 6) (oi := ?_) (v := ?_) ?_ (by kernel_rfl) ?_ ?_ ?_ (by assumption) ?_; rotate_left 2; (next => simp only [tka, tkb, tkc]; rfl); (next => exact fun _ _ _ h => h); (next => rfl); (next => intro w hSw; (try dsimp only at hSw); go_simp; (try (with_reducible rfl)))) | (refine tkN (i := 6) (oi := ?_) ?_ (by kernel_rfl) ?_ ?_ (by assumption) ?_; rotate_left 1; (next => simp only [tka, tkb, tkc]; rfl); (next => exact fun _ _ _ h => h); (next => rfl))); (try simp only [Act.put, tkd, tke, tkf]); (first | (refine tkY (i := 7) (oi := ?_) (v := ?_) ?_ (by kernel_rfl) ?_ ?_ ?_ (by assumption) ?_; rotate_left 2; (next => simp only [tka, tkb, tkc]; rfl); (next => exact fun _ _ _ h => h); (next => rfl); (next => intro w hSw; (try dsimp only at hSw); go_simp; (try (with_reducible rfl)))) | (refine tkN (i := 7) (oi := ?_) ?_ (by kernel_rfl) ?_ ?_ (by assumption) ?_; rotate_left 1; (next => simp only [tka, tkb, tkc]; rfl); (next => exact fun _ _ _ h => h); (next => rfl))); (try simp only [Act.put, tkd, tke, tkf]); (first | (refine tkY (i := 8) (oi := ?_) (v := ?_) ?_ (by kernel_rfl) ?_ ?_ ?_ (by assumption) ?_; rotate_left 2; (next => simp only [tka, tkb, tkc]; rfl); (next => exact fun _ _ _ h => h); (next => rfl); (next => intro w hSw; (try dsimp only at hSw); go_simp; (try (with_reducible rfl)))) | (refine tkN (i := 8) (oi := ?_) ?_ (by kernel_rfl) ?_ ?_ (by assumption) ?_; rotate_left 1; (next => simp only [tka, tkb, tkc]; rfl); (next => exact fun _ _ _ h => h); (next => rfl))); (try simp only [Act.put, tkd, tke, tkf])
      (first | (refine tkY (i := 9) (oi := ?_) (v := ?_) ?_ (by kernel_rfl) ?_ ?_ ?_ (by assumption) ?_; rotate_left 2; (next => simp only [tka, tkb, tkc]; rfl); (next => exact fun _ _ _ h => h); (next => rfl); (next => intro w hSw; (try dsimp only at hSw); go_simp; (try (with_reducible rfl)))) | (refine tkN (i := 9) (oi := ?_) ?_ (by kernel_rfl) ?_ ?_ (by assumption) ?_; rotate_left 1; (next => simp only [tka, tkb, tkc]; rfl); (next => exact fun _ _ _ h => h); (next => rfl))); (try simp only [Act.put, tkd, tke, tkf])
      (first | (refine tkY (i := 10) (oi := ?_) (v := ?_) ?_ (by kernel_rfl) ?_ ?_ ?_ (by assumption) ?_; rotate_left 2; (next => simp only [tka, tkb, tkc]; rfl); (next => exact fun _ _ _ h => h); (next => rfl); (next => intro w hSw; (try dsimp only at hSw); go_simp; (try (with_reducible rfl)))) | (refine tkN (i := 10) (oi := ?_) ?_ (by kernel_rfl) ?_ ?_ (by assumption) ?_; rotate_left 1; (next => simp only [tka, tkb, tkc]; rfl); (next => exact fun _ _ _ h => h); (next => rfl))); (try simp only [Act.put, tkd, tke, tkf])
      (first | (refine tkY (i := 11) (oi := ?_) (v := ?_) ?_ (by kernel_rfl) ?_ ?_ ?_ (by assumption) ?_; rotate_left 2; (next => simp only [tka, tkb, tkc]; rfl); (next => exact fun _ _ _ h => h); (next => rfl); (next => intro w hSw; (try dsimp only at hSw); go_simp; (try (with_reducible rfl)))) | (refine tkN (i := 11) (oi := ?_) ?_ (by kernel_rfl) ?_ ?_ (by assumption) ?_; rotate_left 1; (next => simp only [tka, tkb, tkc]; rfl); (next => exact fun _ _ _ h => h); (next => rfl))); (try simp only [Act.put, tkd, tke, tkf])
      (first | (refine tkY (i := 12) (oi := ?_) (v := ?_) ?_ (by kernel_rfl) ?_ ?_ ?_ (by assumption) ?_; rotate_left 2; (next => simp only [tka, tkb, tkc]; rfl); (next => exact fun _ _ _ h => h); (next => rfl); (next => intro w hSw; (try dsimp only at hSw); go_simp; (try (with_reducible rfl)))) | (refine tkN (i := 12) (oi := ?_) ?_ (by kernel_rfl) ?_ ?_ (by assumption) ?_; rotate_left 1; (next => simp only [tka, tkb, tkc]; rfl); (next => exact fun _ _ _ h => h); (next => rfl))); (try simp only [Act.put, tkd, tke, tkf])
      (first | (refine tkY (i := 13) (oi := ?_) (v := ?_) ?_ (by kernel_rfl) ?_ ?_ ?_ (by assumption) ?_; rotate_left 2; (next => simp only [tka, tkb, tkc]; rfl); (next => exact fun _ _ _ h => h); (next => rfl); (next => intro w hSw; (try dsimp only at hSw); go_simp; (try (with_reducible rfl)))) | (refine tkN (i := 13) (oi := ?_) ?_ (by kernel_rfl) ?_ ?_ (by assumption) ?_; rotate_left 1; (next => simp only [tka, tkb, tkc]; rfl); (next => exact fun _ _ _ h => h); (next => rfl))); (try simp only [Act.put, tkd, tke, tkf])
      (first | (refine tkY (i := 14) (oi := ?_) (v := ?_) ?_ (by kernel_rfl) ?_ ?_ ?_ (by assumption) ?_; rotate_left 2; (next => simp only [tka, tkb, tkc]; rfl); (next => exact fun _ _ _ h => h); (next => rfl); (next => intro w hSw; (try dsimp only at hSw); go_simp; (try (with_reducible rfl)))) | (refine tkN (i := 14) (oi := ?_) ?_ (by kernel_rfl) ?_ ?_ (by assumption) ?_; rotate_left 1; (next => simp only [tka, tkb, tkc]; rfl); (next => exact fun _ _ _ h => h); (next => rfl))); (try simp only [Act.put, tkd, tke, tkf])
      (first | (refine tkY (i := 15) (oi := ?_) (v := ?_) ?_ (by kernel_rfl) ?_ ?_ ?_ (by assumption) ?_; rotate_left 2; (next => simp only [tka, tkb, tkc]; rfl); (next => exact fun _ _ _ h => h); (next => rfl); (next => intro w hSw; (try dsimp only at hSw); go_simp; (try (with_reducible rfl)))) | (refine tkN (i := 15) (oi := ?_) ?_ (by kernel_rfl) ?_ ?_ (by assumption) ?_; rotate_left 1; (next => simp only [tka, tkb, tkc]; rfl); (next => exact fun _ _ _ h => h); (next => rfl))); (try simp only [Act.put, tkd, tke, tkf])
      (first | (refine tkY (i := 16) (oi := ?_) (v := ?_) ?_ (by kernel_rfl) ?_ ?_ ?_ (by assumption) ?_; rotate_left 2; (next => simp only [tka, tkb, tkc]; rfl); (next => exact fun _ _ _ h => h); (next => rfl); (next => intro w hSw; (try dsimp only at hSw); go_simp; (try (with_reducible rfl)))) | (refine tkN (i := 16) (oi := ?_) ?_ (by kernel_rfl) ?_ ?_ (by assumption) ?_; rotate_left 1; (next => simp only [tka, tkb, tkc]; rfl); (next => exact fun _ _ _ h => h); (next => rfl))); (try simp only [Act.put, tkd, tke, tkf])
      (first | (refine tkY (i := 17) (oi := ?_) (v := ?_) ?_ (by kernel_rfl) ?_ ?_ ?_ (by assumption) ?_; rotate_left 2; (next => simp only [tka, tkb, tkc]; rfl); (next => exact fun _ _ _ h => h); (next => rfl); (next => intro w hSw; (try dsimp only at hSw); go_simp; (try (with_reducible rfl)))) | (refine tkN (i := 17) (oi := ?_) ?_ (by kernel_rfl) ?_ ?_ (by assumption) ?_; rotate_left 1; (next => simp only [tka, tkb, tkc]; rfl); (next => exact fun _ _ _ h => h); (next => rfl))); (try simp only [Act.put, tkd, tke, tkf])
      (first | (refine tkY (i := 18) (oi := ?_) (v := ?_) ?_ (by kernel_rfl) ?_ ?_ ?_ (by assumption) ?_; rotate_left 2; (next => simp only [tka, tkb, tkc]; rfl); (next => exact fun _ _ _ h => h); (next => rfl); (next => intro w hSw; (try dsimp only at hSw); go_simp; (try (with_reducible rfl)))) | (refine tkN (i := 18) (oi := ?_) ?_ (by kernel_rfl) ?_ ?_ (by assumption) ?_; rotate_left 1; (next => simp only [tka, tkb, tkc]; rfl); (next => exact fun _ _ _ h => h); (next => rfl))); (try simp only [Act.put, tkd, tke, tkf])
      (first | (refine tkY (i := 19) (oi := ?_) (v := ?_) ?_ (by kernel_rfl) ?_ ?_ ?_ (by assumption) ?_; rotate_left 2; (next => simp only [tka, tkb, tkc]; rfl); (next => exact fun _ _ _ h => h); (next => rfl); (next => intro w hSw; (try dsimp only at hSw); go_simp; (try (with_reducible rfl)))) | (refine tkN (i := 19) (oi := ?_) ?_ (by kernel_rfl) ?_ ?_ (by assumption) ?_; rotate_left 1; (next => simp only [tka, tkb, tkc]; rfl); (next => exact fun _ _ _ h => h); (next => rfl))); (try simp only [Act.put, tkd, tke, tkf])
      (first | (refine tkY (i := 20) (oi := ?_) (v := ?_) ?_ (by kernel_rfl) ?_ ?_ ?_ (by assumption) ?_; rotate_left 2; (next => simp only [tka, tkb, tkc]; rfl); (next => exact fun _ _ _ h => h); (next => rfl); (next => intro w hSw; (try dsimp only at hSw); go_simp; (try (with_reducible rfl)))) | (refine tkN (i := 20) (oi := ?_) ?_ (by kernel_rfl) ?_ ?_ (by assumption) ?_; rotate_left 1; (next => simp only [tka, tkb, tkc]; rfl); (next => exact fun _ _ _ h => h); (next => rfl))); (try simp only [Act.put, tkd, tke, tkf])
      (first | (refine tkY (i := 21) (oi := ?_) (v := ?_) ?_ (by kernel_rfl) ?_ ?_ ?_ (by assumption) ?_; rotate_left 2; (next => simp only [tka, tkb, tkc]; rfl); (next => exact fun _ _ _ h => h); (next => rfl); (next => intro w hSw; (try dsimp only at hSw); go_simp; (try (with_reducible rfl)))) | (refine tkN (i := 21) (oi := ?_) ?_ (by kernel_rfl) ?_ ?_ (by assumption) ?_; rotate_left 1; (next => simp only [tka, tkb, tkc]; rfl); (next => exact fun _ _ _ h => h); (next => rfl))); (try simp only [Act.put, tkd, tke, tkf])
      refine wpAnyH_ready (rs := [22]) (by kernel_rfl) (by simp) ?_; refine AllReadyH.cons (o := ?_) ?_ (fun K hK => ?_) AllReadyH.nil; rotate_left 1; (next => simp only [List.getElem?_toArray, List.getElem?_cons_succ, List.getElem?_cons_zero]; rfl); go_simp; (go_at_call 145; (with_reducible refine (HD.out _ _).mono ?_); rintro e w' ⟨rfl, rfl⟩)
      (try go_wp2_with fail); refine hK.out _ _ (S0) (fun hHeld => ?_); clear hK K; (try simp only [Act.put, List.setIfInBounds_toArray, List.set_cons_zero, List.set_cons_succ])
      (first | (refine tkY (i := 23) (oi := ?_) (v := ?_) ?_ (by kernel_rfl) ?_ ?_ ?_ (by assumption) ?_; rotate_left 2; (next => simp only [tka, tkb, tkc]; rfl); (next => exact fun _ _ _ h => h); (next => rfl); (next => intro w hSw; (try dsimp only at hSw); go_simp; (try (with_reducible rfl)))) | (refine tkN (i := 23) (oi := ?_) ?_ (by kernel_rfl) ?_ ?_ (by assumption) ?_; rotate_left 1; (next => simp only [tka, tkb, tkc]; rfl); (next => exact fun _ _ _ h => h); (next => rfl))); (try simp only [Act.put, tkd, tke, tkf])
      (first | (refine tkY (i := 24) (oi := ?_) (v := ?_) ?_ (by kernel_rfl) ?_ ?_ ?_ (by assumption) ?_; rotate_left 2; (next => simp only [tka, tkb, tkc]; rfl); (next => exact fun _ _ _ h => h); (next => rfl); (next => intro w hSw; (try dsimp only at hSw); go_simp; (try (with_reducible rfl)))) | (refine tkN (i := 24) (oi := ?_) ?_ (by kernel_rfl) ?_ ?_ (by assumption) ?_; rotate_left 1; (next => simp only [tka, tkb, tkc]; rfl); (next => exact fun _ _ _ h => h); (next => rfl))); (try simp only [Act.put, tkd, tke, tkf])
      refine wpAnyH_done (by kernel_rfl) ?_ _
      go_wp2
      go_ret2
      exact ⟨by rw [HE.out]; rfl, bl_drew HB3.out⟩
    · obtain ⟨m, rfl⟩ : ∃ m : Nat, a = (m : Int) := ⟨a.toNat, by omega⟩
      have hm : m < L.length := by omega
      obtain ⟨b2, o2, hA, hb2, _, _, _, _, e4, e5⟩ := HI.out.at6 hm
      injection hA with hA
      cases hA
      obtain ⟨x2, hx2⟩ : ∃ x, x = (tg L m).f := ⟨_, rfl⟩
      rw [show ((m : Nat) : Int).toNat = m from rfl, ← hx2, decide_eq_true ha, Bool.true_and] at E
      rw [← hx2] at e5
      have hm2 : (m : Int) < (L.length : Int) := by omega
      have d6 : decide ((0 : Int) ≤ (m : Int)) = true := decide_eq_true (by omega)
      have HE := hide E
      clear CO CY h4 hy1 hy2 E e4 hx2
      cases x2
      · go_enter Try.func100, Try.ntmps100
        go_wp2_with fail; (with_reducible refine (HLG.out _ HI.out).mono ?_); rintro e u1 ⟨rfl, hb⟩; have HB1 := hide hb; clear hb; go_wp2_with fail; (with_reducible refine (clampGlue_s z0 z1 z2 _).mono ?_); rintro e u2 ⟨rfl, hb⟩; have HB2 := hide (bl_call hb HB1.out); clear hb; go_wp2_with fail; (with_reducible refine (HFG.out _).mono ?_); rintro e u3 ⟨rfl, hb⟩; have HB3 := hide (bl_call hb HB2.out); clear hb
        have d4 := keep_cell HB3.out d4
        have d5 := keep_cell HB3.out d5
        have e5 := keep_cell HB3.out e5
        go_upto_region 4 with fail
        have S0 := bl_drew (bl_refl u3)
        refine wp_region_held_drew (S := fun u : World => Below u3.heap.size u3 u) (by kernel_rfl) (S0) (fun hHeld => ?_)
        (first | (refine tkY (i := 0) (oi := ?_) (v := ?_) ?_ (by kernel_rfl) ?_ ?_ ?_ (by assumption) ?_; rotate_left 2; (next => simp only [tka, tkb, tkc]; rfl); (next => exact fun _ _ _ h => h); (next => rfl); (next => intro w hSw; (try dsimp only at hSw); go_simp; (try (with_reducible rfl)))) | (refine tkN (i := 0) (oi := ?_) ?_ (by kernel_rfl) ?_ ?_ (by assumption) ?_; rotate_left 1; (next => simp only [tka, tkb, tkc]; rfl); (next => exact fun _ _ _ h => h); (next => rfl))); (try simp only [Act.put, tkd, tke, tkf]); (first | (refine tkY (i := 1) (oi := ?_) (v := ?_) ?_ (by kernel_rfl) ?_ ?_ ?_ (by assumption) ?_; rotate_left 2; (next => simp only [tka, tkb, tkc]; rfl); (next => exact fun _ _ _ h => h); (next => rfl); (next => intro w hSw; (try dsimp only at hSw); go_simp; (try (with_reducible rfl)))) | (refine tkN (i := 1) (oi := ?_) ?_ (by kernel_rfl) ?_ ?_ (by assumption) ?_; rotate_left 1; (next => simp only [tka, tkb, tkc]; rfl); (next => exact fun _ _ _ h => h); (next => rfl))); (try simp only [Act.put, tkd, tke, tkf]); (first | (refine tkY (i := 2) (oi := ?_) (v := ?_) ?_ (by kernel_rfl) ?_ ?_ ?_ (by assumption) ?_; rotate_left 2; (next => simp only [tka, tkb, tkc]; rfl); (next => exact fun _ _ _ h => h); (next => rfl); (next => intro w hSw; (try dsimp only at hSw); go_simp; (try (with_reducible rfl)))) | (refine tkN (i := 2) (oi := ?_) ?_ (by kernel_rfl) ?_ ?_ (by assumption) ?_; rotate_left 1; (next => simp only [tka, tkb, tkc]; rfl); (next => exact fun _ _ _ h => h); (next => rfl))); (try simp only [Act.put, tkd, tke, tkf]); (first | (refine tkY (i := 3) (oi := ?_) (v := ?_) ?_ (by kernel_rfl) ?_ ?_ ?_ (by assumption) ?_; rotate_left 2; (next => simp only [tka, tkb, tkc]; rfl); (next => exact fun _ _ _ h => h); (next => rfl); (next => intro w hSw; (try dsimp only at hSw); go_simp; (try (with_reducible rfl)))) | (refine tkN (i := 3) (oi := ?_) ?_ (by kernel_rfl) ?_ ?_ (by assumption) ?_; rotate_left 1; (next => simp only [tka, tkb, tkc]; rfl); (next => exact fun _ _ _ h => h); (next => rfl))); (try simp only [Act.put, tkd, tke, tkf]); (first | (refine tkY (i := 4) (oi := ?_) (v := ?_) ?_ (by kernel_rfl) ?_ ?_ ?_ (by assumption) ?_; rotate_left 2; (next => simp only [tka, tkb, tkc]; rfl); (next => exact fun _ _ _ h => h); (next => rfl); (next => intro w hSw; (try dsimp only at hSw); go_simp; (try (with_reducible rfl)))) | (refine tkN (i := 4) (oi := ?_) ?_ (by kernel_rfl) ?_ ?_ (by assumption) ?_; rotate_left 1; (next => simp only [tka, tkb, tkc]; rfl); (next => exact fun _ _ _ h => h); (next => rfl))); (try simp only [Act.put, tkd, tke, tkf]); refine tkY (i := 5) (oi := ?_) (v := ?_) ?_ (by kernel_rfl) ?_ ?_ ?_ (by assumption) ?_; rotate_left 2; (next => simp only [tka, tkb, tkc]; rfl); (next => exact fun _ _ _ h => h); (next => rfl); (next => intro w_ hSw; (try dsimp only at hSw); have d4 := keep_cell hSw d4; go_simp; (try (with_reducible rfl))); (try simp only [Act.put, tkd, tke, tkf]); (first | (refine tkY (i := 6) (oi := ?_) (v := ?_) ?_ (by kernel_rfl) ?_ ?_ ?_ (by assumption) ?_; rotate_left 2; (next => simp only [tka, tkb, tkc]; rfl); (next => exact fun _ _ _ h => h); (next => rfl); (next => intro w hSw; (try dsimp only at hSw); go_simp; (try (with_reducible rfl)))) | (refine tkN (i := 6) (oi := ?_) ?_ (by kernel_rfl) ?_ ?_ (by assumption) ?_; rotate_left 1; (next => simp only [tka, tkb, tkc]; rfl); (next => exact fun _ _ _ h => h); (next => rfl))); (try simp only [Act.put, tkd, tke, tkf]); (first | (refine tkY (i := 7) (oi := ?_) (v := ?_) ?_ (by kernel_rfl) ?_ ?_ ?_ (by assumption) ?_; rotate_left 2; (next => simp only [tka, tkb, tkc]; rfl); (next => exact fun _ _ _ h => h); (next => rfl); (next => intro w hSw; (try dsimp only at hSw); go_simp; (try (with_reducible rfl)))) | (refine tkN (i := 7) (oi := ?_) ?_ (by kernel_rfl) ?_ ?_ (by assumption) ?_; rotate_left 1; (next => simp only [tka, tkb, tkc]; rfl); (next => exact fun _ _ _ h => h); (next => rfl))); (try simp only [Act.put, tkd, tke, tkf]); (first | (refine tkY (i := 8) (oi := ?_) (v := ?_) ?_ (by kernel_rfl) ?_ ?_ ?_ (by assumption) ?_; rotate_left 2; (next => simp only [tka, tkb, tkc]; rfl); (next => exact fun _ _ _ h => h); (next => rfl); (next => intro w hSw; (try dsimp only at hSw); go_simp; (try (with_reducible rfl)))) | (refine tkN (i := 8) (oi := ?_) ?_ (by kernel_rfl) ?_ ?_ (by assumption) ?_; rotate_left 1; (next => simp only [tka, tkb, tkc]; rfl); (next => exact fun _ _ _ h => h); (next => rfl))); (try simp only [Act.put, tkd, tke, tkf])
        (first | (refine tkY (i := 9) (oi := ?_) (v := ?_) ?_ (by kernel_rfl) ?_ ?_ ?_ (by assumption) ?_; rotate_left 2; (next => simp only [tka, tkb, tkc]; rfl); (next => exact fun _ _ _ h => h); (next => rfl); (next => intro w hSw; (try dsimp only at hSw); go_simp; (try (with_reducible rfl)))) | (refine tkN (i := 9) (oi := ?_) ?_ (by kernel_rfl) ?_ ?_ (by assumption) ?_; rotate_left 1; (next => simp only [tka, tkb, tkc]; rfl); (next => exact fun _ _ _ h => h); (next => rfl))); (try simp only [Act.put, tkd, tke, tkf])
        (first | (refine tkY (i := 10) (oi := ?_) (v := ?_) ?_ (by kernel_rfl) ?_ ?_ ?_ (by assumption) ?_; rotate_left 2; (next => simp only [tka, tkb, tkc]; rfl); (next => exact fun _ _ _ h => h); (next => rfl); (next => intro w hSw; (try dsimp only at hSw); go_simp; (try (with_reducible rfl)))) | (refine tkN (i := 10) (oi := ?_) ?_ (by kernel_rfl) ?_ ?_ (by assumption) ?_; rotate_left 1; (next => simp only [tka, tkb, tkc]; rfl); (next => exact fun _ _ _ h => h); (next => rfl))); (try simp only [Act.put, tkd, tke, tkf])
        (first | (refine tkY (i := 11) (oi := ?_) (v := ?_) ?_ (by kernel_rfl) ?_ ?_ ?_ (by assumption) ?_; rotate_left 2; (next => simp only [tka, tkb, tkc]; rfl); (next => exact fun _ _ _ h => h); (next => rfl); (next => intro w hSw; (try dsimp only at hSw); go_simp; (try (with_reducible rfl)))) | (refine tkN (i := 11) (oi := ?_) ?_ (by kernel_rfl) ?_ ?_ (by assumption) ?_; rotate_left 1; (next => simp only [tka, tkb, tkc]; rfl); (next => exact fun _ _ _ h => h); (next => rfl))); (try simp only [Act.put, tkd, tke, tkf])
        (first | (refine tkY (i := 12) (oi := ?_) (v := ?_) ?_ (by kernel_rfl) ?_ ?_ ?_ (by assumption) ?_; rotate_left 2; (next => simp only [tka, tkb, tkc]; rfl); (next => exact fun _ _ _ h => h); (next => rfl); (next => intro w hSw; (try dsimp only at hSw); go_simp; (try (with_reducible rfl)))) | (refine tkN (i := 12) (oi := ?_) ?_ (by kernel_rfl) ?_ ?_ (by assumption) ?_; rotate_left 1; (next => simp only [tka, tkb, tkc]; rfl); (next => exact fun _ _ _ h => h); (next => rfl))); (try simp only [Act.put, tkd, tke, tkf])
        refine tkY (i := 13) (oi := ?_) (v := ?_) ?_ (by kernel_rfl) ?_ ?_ ?_ (by assumption) ?_; rotate_left 2; (next => simp only [tka, tkb, tkc]; rfl); (next => exact fun _ _ _ h => h); (next => rfl); (next => intro w_ hSw; (try dsimp only at hSw); have e5 := keep_cell hSw e5; go_simp; (try (with_reducible rfl))); (try simp only [Act.put, tkd, tke, tkf])
        (first | (refine tkY (i := 14) (oi := ?_) (v := ?_) ?_ (by kernel_rfl) ?_ ?_ ?_ (by assumption) ?_; rotate_left 2; (next => simp only [tka, tkb, tkc]; rfl); (next => exact fun _ _ _ h => h); (next => rfl); (next => intro w hSw; (try dsimp only at hSw); go_simp; (try (with_reducible rfl)))) | (refine tkN (i := 14) (oi := ?_) ?_ (by kernel_rfl) ?_ ?_ (by assumption) ?_; rotate_left 1; (next => simp only [tka, tkb, tkc]; rfl); (next => exact fun _ _ _ h => h); (next => rfl))); (try simp only [Act.put, tkd, tke, tkf])
        (first | (refine tkY (i := 15) (oi := ?_) (v := ?_) ?_ (by kernel_rfl) ?_ ?_ ?_ (by assumption) ?_; rotate_left 2; (next => simp only [tka, tkb, tkc]; rfl); (next => exact fun _ _ _ h => h); (next => rfl); (next => intro w hSw; (try dsimp only at hSw); go_simp; (try (with_reducible rfl)))) | (refine tkN (i := 15) (oi := ?_) ?_ (by kernel_rfl) ?_ ?_ (by assumption) ?_; rotate_left 1; (next => simp only [tka, tkb, tkc]; rfl); (next => exact fun _ _ _ h => h); (next => rfl))); (try simp only [Act.put, tkd, tke, tkf])
        (first | (refine tkY (i := 16) (oi := ?_) (v := ?_) ?_ (by kernel_rfl) ?_ ?_ ?_ (by assumption) ?_; rotate_left 2; (next => simp only [tka, tkb, tkc]; rfl); (next => exact fun _ _ _ h => h); (next => rfl); (next => intro w hSw; (try dsimp only at hSw); go_simp; (try (with_reducible rfl)))) | (refine tkN (i := 16) (oi := ?_) ?_ (by kernel_rfl) ?_ ?_ (by assumption) ?_; rotate_left 1; (next => simp only [tka, tkb, tkc]; rfl); (next => exact fun _ _ _ h => h); (next => rfl))); (try simp only [Act.put, tkd, tke, tkf])
        (first | (refine tkY (i := 17) (oi := ?_) (v := ?_) ?_ (by kernel_rfl) ?_ ?_ ?_ (by assumption) ?_; rotate_left 2; (next => simp only [tka, tkb, tkc]; rfl); (next => exact fun _ _ _ h => h); (next => rfl); (next => intro w hSw; (try dsimp only at hSw); go_simp; (try (with_reducible rfl)))) | (refine tkN (i := 17) (oi := ?_) ?_ (by kernel_rfl) ?_ ?_ (by assumption) ?_; rotate_left 1; (next => simp only [tka, tkb, tkc]; rfl); (next => exact fun _ _ _ h => h); (next => rfl))); (try simp only [Act.put, tkd, tke, tkf])
        (first | (refine tkY (i := 18) (oi := ?_) (v := ?_) ?_ (by kernel_rfl) ?_ ?_ ?_ (by assumption) ?_; rotate_left 2; (next => simp only [tka, tkb, tkc]; rfl); (next => exact fun _ _ _ h => h); (next => rfl); (next => intro w hSw; (try dsimp only at hSw); go_simp; (try (with_reducible rfl)))) | (refine tkN (i := 18) (oi := ?_) ?_ (by kernel_rfl) ?_ ?_ (by assumption) ?_; rotate_left 1; (next => simp only [tka, tkb, tkc]; rfl); (next => exact fun _ _ _ h => h); (next => rfl))); (try simp only [Act.put, tkd, tke, tkf])
        (first | (refine tkY (i := 19) (oi := ?_) (v := ?_) ?_ (by kernel_rfl) ?_ ?_ ?_ (by assumption) ?_; rotate_left 2; (next => simp only [tka, tkb, tkc]; rfl); (next => exact fun _ _ _ h => h); (next => rfl); (next => intro w hSw; (try dsimp only at hSw); go_simp; (try (with_reducible rfl)))) | (refine tkN (i := 19) (oi := ?_) ?_ (by kernel_rfl) ?_ ?_ (by assumption) ?_; rotate_left 1; (next => simp only [tka, tkb, tkc]; rfl); (next => exact fun _ _ _ h => h); (next => rfl))); (try simp only [Act.put, tkd, tke, tkf])
        (first | (refine tkY (i := 20) (oi := ?_) (v := ?_) ?_ (by kernel_rfl) ?_ ?_ ?_ (by assumption) ?_; rotate_left 2; (next => simp only [tka, tkb, tkc]; rfl); (next => exact fun _ _ _ h => h); (next => rfl); (next => intro w hSw; (try dsimp only at hSw); go_simp; (try (with_reducible rfl)))) | (refine tkN (i := 20) (oi := ?_) ?_ (by kernel_rfl) ?_ ?_ (by assumption) ?_; rotate_left 1; (next => simp only [tka, tkb, tkc]; rfl); (next => exact fun _ _ _ h => h); (next => rfl))); (try simp only [Act.put, tkd, tke, tkf])
        (first | (refine tkY (i := 21) (oi := ?_) (v := ?_) ?_ (by kernel_rfl) ?_ ?_ ?_ (by assumption) ?_; rotate_left 2; (next => simp only [tka, tkb, tkc]; rfl); (next => exact fun _ _ _ h => h); (next => rfl); (next => intro w hSw; (try dsimp only at hSw); go_simp; (try (with_reducible rfl)))) | (refine tkN (i := 21) (oi := ?_) ?_ (by kernel_rfl) ?_ ?_ (by assumption) ?_; rotate_left 1; (next => simp only [tka, tkb, tkc]; rfl); (next => exact fun _ _ _ h => h); (next => rfl))); (try simp only [Act.put, tkd, tke, tkf])
        refine wpAnyH_ready (rs := [22]) (by kernel_rfl) (by simp) ?_; refine AllReadyH.cons (o := ?_) ?_ (fun K hK => ?_) AllReadyH.nil; rotate_left 1; (next => simp only [List.getElem?_toArray, List.getElem?_cons_succ, List.getElem?_cons_zero]; rfl); go_simp; (go_at_call 145; (with_reducible refine (HD.out _ _).mono ?_); rintro e w' ⟨rfl, rfl⟩)
        (try go_wp2_with fail); refine hK.out _ _ (S0) (fun hHeld => ?_); clear hK K; (try simp only [Act.put, List.setIfInBounds_toArray, List.set_cons_zero, List.set_cons_succ])
        (first | (refine tkY (i := 23) (oi := ?_) (v := ?_) ?_ (by kernel_rfl) ?_ ?_ ?_ (by assumption) ?_; rotate_left 2; (next => simp only [tka, tkb, tkc]; rfl); (next => exact fun _ _ _ h => h); (next => rfl); (next => intro w hSw; (try dsimp only at hSw); go_simp; (try (with_reducible rfl)))) | (refine tkN (i := 23) (oi := ?_) ?_ (by kernel_rfl) ?_ ?_ (by assumption) ?_; rotate_left 1; (next => simp only [tka, tkb, tkc]; rfl); (next => exact fun _ _ _ h => h); (next => rfl))); (try simp only [Act.put, tkd, tke, tkf])
        (first | (refine tkY (i := 24) (oi := ?_) (v := ?_) ?_ (by kernel_rfl) ?_ ?_ ?_ (by assumption) ?_; rotate_left 2; (next => simp only [tka, tkb, tkc]; rfl); (next => exact fun _ _ _ h => h); (next => rfl); (next => intro w hSw; (try dsimp only at hSw); go_simp; (try (with_reducible rfl)))) | (refine tkN (i := 24) (oi := ?_) ?_ (by kernel_rfl) ?_ ?_ (by assumption) ?_; rotate_left 1; (next => simp only [tka, tkb, tkc]; rfl); (next => exact fun _ _ _ h => h); (next => rfl))); (try simp only [Act.put, tkd, tke, tkf])
        refine wpAnyH_done (by kernel_rfl) ?_ _
        go_wp2
        go_ret2
        exact ⟨by rw [HE.out]; first | done | rfl, bl_drew HB3.out⟩
      · go_enter Try.func100, Try.ntmps100
        go_wp2_with fail; (with_reducible refine (HLG.out _ HI.out).mono ?_); rintro e u1 ⟨rfl, hb⟩; have HB1 := hide hb; clear hb; go_wp2_with fail; (with_reducible refine (clampGlue_s z0 z1 z2 _).mono ?_); rintro e u2 ⟨rfl, hb⟩; have HB2 := hide (bl_call hb HB1.out); clear hb; go_wp2_with fail; (with_reducible refine (HFG.out _).mono ?_); rintro e u3 ⟨rfl, hb⟩; have HB3 := hide (bl_call hb HB2.out); clear hb
        have d4 := keep_cell HB3.out d4
        have d5 := keep_cell HB3.out d5
        have e5 := keep_cell HB3.out e5
        go_upto_region 4 with fail
        have S0 := bl_drew (bl_refl u3)
        refine wp_region_held_drew (S := fun u : World => Below u3.heap.size u3 u) (by kernel_rfl) (S0) (fun hHeld => ?_)
        (first | (refine tkY (i := 0) (oi := ?_) (v := ?_) ?_ (by kernel_rfl) ?_ ?_ ?_ (by assumption) ?_; rotate_left 2; (next => simp only [tka, tkb, tkc]; rfl); (next => exact fun _ _ _ h => h); (next => rfl); (next => intro w hSw; (try dsimp only at hSw); go_simp; (try (with_reducible rfl)))) | (refine tkN (i := 0) (oi := ?_) ?_ (by kernel_rfl) ?_ ?_ (by assumption) ?_; rotate_left 1; (next => simp only [tka, tkb, tkc]; rfl); (next => exact fun _ _ _ h => h); (next => rfl))); (try simp only [Act.put, tkd, tke, tkf]); (first | (refine tkY (i := 1) (oi := ?_) (v := ?_) ?_ (by kernel_rfl) ?_ ?_ ?_ (by assumption) ?_; rotate_left 2; (next => simp only [tka, tkb, tkc]; rfl); (next => exact fun _ _ _ h => h); (next => rfl); (next => intro w hSw; (try dsimp only at hSw); go_simp; (try (with_reducible rfl)))) | (refine tkN (i := 1) (oi := ?_) ?_ (by kernel_rfl) ?_ ?_ (by assumption) ?_; rotate_left 1; (next => simp only [tka, tkb, tkc]; rfl); (next => exact fun _ _ _ h => h); (next => rfl))); (try simp only [Act.put, tkd, tke, tkf]); (first | (refine tkY (i := 2) (oi := ?_) (v := ?_) ?_ (by kernel_rfl) ?_ ?_ ?_ (by assumption) ?_; rotate_left 2; (next => simp only [tka, tkb, tkc]; rfl); (next => exact fun _ _ _ h => h); (next => rfl); (next => intro w hSw; (try dsimp only at hSw); go_simp; (try (with_reducible rfl)))) | (refine tkN (i := 2) (oi := ?_) ?_ (by kernel_rfl) ?_ ?_ (by assumption) ?_; rotate_left 1; (next => simp only [tka, tkb, tkc]; rfl); (next => exact fun _ _ _ h => h); (next => rfl))); (try simp only [Act.put, tkd, tke, tkf]); (first | (refine tkY (i := 3) (oi := ?_) (v := ?_) ?_ (by kernel_rfl) ?_ ?_ ?_ (by assumption) ?_; rotate_left 2; (next => simp only [tka, tkb, tkc]; rfl); (next => exact fun _ _ _ h => h); (next => rfl); (next => intro w hSw; (try dsimp only at hSw); go_simp; (try (with_reducible rfl)))) | (refine tkN (i := 3) (oi := ?_) ?_ (by kernel_rfl) ?_ ?_ (by assumption) ?_; rotate_left 1; (next => simp only [tka, tkb, tkc]; rfl); (next => exact fun _ _ _ h => h); (next => rfl))); (try simp only [Act.put, tkd, tke, tkf]); (first | (refine tkY (i := 4) (oi := ?_) (v := ?_) ?_ (by kernel_rfl) ?_ ?_ ?_ (by assumption) ?_; rotate_left 2; (next => simp only [tka, tkb, tkc]; rfl); (next => exact fun _ _ _ h => h); (next => rfl); (next => intro w hSw; (try dsimp only at hSw); go_simp; (try (with_reducible rfl)))) | (refine tkN (i := 4) (oi := ?_) ?_ (by kernel_rfl) ?_ ?_ (by assumption) ?_; rotate_left 1; (next => simp only [tka, tkb, tkc]; rfl); (next => exact fun _ _ _ h => h); (next => rfl))); (try simp only [Act.put, tkd, tke, tkf]); refine tkY (i := 5) (oi := ?_) (v := ?_) ?_ (by kernel_rfl) ?_ ?_ ?_ (by assumption) ?_; rotate_left 2; (next => simp only [tka, tkb, tkc]; rfl); (next => exact fun _ _ _ h => h); (next => rfl); (next => intro w_ hSw; (try dsimp only at hSw); have d4 := keep_cell hSw d4; go_simp; (try (with_reducible rfl))); (try simp only [Act.put, tkd, tke, tkf]); (first | (refine tkY (i := 6) (oi := ?_) (v := ?_) ?_ (by kernel_rfl) ?_ ?_ ?_ (by assumption) ?_; rotate_left 2; (next => simp only [tka, tkb, tkc]; rfl); (next => exact fun _ _ _ h => h); (next => rfl); (next => intro w hSw; (try dsimp only at hSw); go_simp; (try (with_reducible rfl)))) | (refine tkN (i := 6) (oi := ?_) ?_ (by kernel_rfl) ?_ ?_ (by assumption) ?_; rotate_left 1; (next => simp only [tka, tkb, tkc]; rfl); (next => exact fun _ _ _ h => h); (next => rfl))); (try simp only [Act.put, tkd, tke, tkf]); (first | (refine tkY (i := 7) (oi := ?_) (v := ?_) ?_ (by kernel_rfl) ?_ ?_ ?_ (by assumption) ?_; rotate_left 2; (next => simp only [tka, tkb, tkc]; rfl); (next => exact fun _ _ _ h => h); (next => rfl); (next => intro w hSw; (try dsimp only at hSw); go_simp; (try (with_reducible rfl)))) | (refine tkN (i := 7) (oi := ?_) ?_ (by kernel_rfl) ?_ ?_ (by assumption) ?_; rotate_left 1; (next => simp only [tka, tkb, tkc]; rfl); (next => exact fun _ _ _ h => h); (next => rfl))); (try simp only [Act.put, tkd, tke, tkf]); (first | (refine tkY (i := 8) (oi := ?_) (v := ?_) ?_ (by kernel_rfl) ?_ ?_ ?_ (by assumption) ?_; rotate_left 2; (next => simp only [tka, tkb, tkc]; rfl); (next => exact fun _ _ _ h => h); (next => rfl); (next => intro w hSw; (try dsimp only at hSw); go_simp; (try (with_reducible rfl)))) | (refine tkN (i := 8) (oi := ?_) ?_ (by kernel_rfl) ?_ ?_ (by assumption) ?_; rotate_left 1; (next => simp only [tka, tkb, tkc]; rfl); (next => exact fun _ _ _ h => h); (next => rfl))); (try simp only [Act.put, tkd, tke, tkf])
        (first | (refine tkY (i := 9) (oi := ?_) (v := ?_) ?_ (by kernel_rfl) ?_ ?_ ?_ (by assumption) ?_; rotate_left 2; (next => simp only [tka, tkb, tkc]; rfl); (next => exact fun _ _ _ h => h); (next => rfl); (next => intro w hSw; (try dsimp only at hSw); go_simp; (try (with_reducible rfl)))) | (refine tkN (i := 9) (oi := ?_) ?_ (by kernel_rfl) ?_ ?_ (by assumption) ?_; rotate_left 1; (next => simp only [tka, tkb, tkc]; rfl); (next => exact fun _ _ _ h => h); (next => rfl))); (try simp only [Act.put, tkd, tke, tkf])
        (first | (refine tkY (i := 10) (oi := ?_) (v := ?_) ?_ (by kernel_rfl) ?_ ?_ ?_ (by assumption) ?_; rotate_left 2; (next => simp only [tka, tkb, tkc]; rfl); (next => exact fun _ _ _ h => h); (next => rfl); (next => intro w hSw; (try dsimp only at hSw); go_simp; (try (with_reducible rfl)))) | (refine tkN (i := 10) (oi := ?_) ?_ (by kernel_rfl) ?_ ?_ (by assumption) ?_; rotate_left 1; (next => simp only [tka, tkb, tkc]; rfl); (next => exact fun _ _ _ h => h); (next => rfl))); (try simp only [Act.put, tkd, tke, tkf])
        (first | (refine tkY (i := 11) (oi := ?_) (v := ?_) ?_ (by kernel_rfl) ?_ ?_ ?_ (by assumption) ?_; rotate_left 2; (next => simp only [tka, tkb, tkc]; rfl); (next => exact fun _ _ _ h => h); (next => rfl); (next => intro w hSw; (try dsimp only at hSw); go_simp; (try (with_reducible rfl)))) | (refine tkN (i := 11) (oi := ?_) ?_ (by kernel_rfl) ?_ ?_ (by assumption) ?_; rotate_left 1; (next => simp only [tka, tkb, tkc]; rfl); (next => exact fun _ _ _ h => h); (next => rfl))); (try simp only [Act.put, tkd, tke, tkf])
        (first | (refine tkY (i := 12) (oi := ?_) (v := ?_) ?_ (by kernel_rfl) ?_ ?_ ?_ (by assumption) ?_; rotate_left 2; (next => simp only [tka, tkb, tkc]; rfl); (next => exact fun _ _ _ h => h); (next => rfl); (next => intro w hSw; (try dsimp only at hSw); go_simp; (try (with_reducible rfl)))) | (refine tkN (i := 12) (oi := ?_) ?_ (by kernel_rfl) ?_ ?_ (by assumption) ?_; rotate_left 1; (next => simp only [tka, tkb, tkc]; rfl); (next => exact fun _ _ _ h => h); (next => rfl))); (try simp only [Act.put, tkd, tke, tkf])
        refine tkY (i := 13) (oi := ?_) (v := ?_) ?_ (by kernel_rfl) ?_ ?_ ?_ (by assumption) ?_; rotate_left 2; (next => simp only [tka, tkb, tkc]; rfl); (next => exact fun _ _ _ h => h); (next => rfl); (next => intro w_ hSw; (try dsimp only at hSw); have e5 := keep_cell hSw e5; go_simp; (try (with_reducible rfl))); (try simp only [Act.put, tkd, tke, tkf])
        (first | (refine tkY (i := 14) (oi := ?_) (v := ?_) ?_ (by kernel_rfl) ?_ ?_ ?_ (by assumption) ?_; rotate_left 2; (next => simp only [tka, tkb, tkc]; rfl); (next => exact fun _ _ _ h => h); (next => rfl); (next => intro w hSw; (try dsimp only at hSw); go_simp; (try (with_reducible rfl)))) | (refine tkN (i := 14) (oi := ?_) ?_ (by kernel_rfl) ?_ ?_ (by assumption) ?_; rotate_left 1; (next => simp only [tka, tkb, tkc]; rfl); (next => exact fun _ _ _ h => h); (next => rfl))); (try simp only [Act.put, tkd, tke, tkf])
        (first | (refine tkY (i := 15) (oi := ?_) (v := ?_) ?_ (by kernel_rfl) ?_ ?_ ?_ (by assumption) ?_; rotate_left 2; (next => simp only [tka, tkb, tkc]; rfl); (next => exact fun _ _ _ h => h); (next => rfl); (next => intro w hSw; (try dsimp only at hSw); go_simp; (try (with_reducible rfl)))) | (refine tkN (i := 15) (oi := ?_) ?_ (by kernel_rfl) ?_ ?_ (by assumption) ?_; rotate_left 1; (next => simp only [tka, tkb, tkc]; rfl); (next => exact fun _ _ _ h => h); (next => rfl))); (try simp only [Act.put, tkd, tke, tkf])
        (first | (refine tkY (i := 16) (oi := ?_) (v := ?_) ?_ (by kernel_rfl) ?_ ?_ ?_ (by assumption) ?_; rotate_left 2; (next => simp only [tka, tkb, tkc]; rfl); (next => exact fun _ _ _ h => h); (next => rfl); (next => intro w hSw; (try dsimp only at hSw); go_simp; (try (with_reducible rfl)))) | (refine tkN (i := 16) (oi := ?_) ?_ (by kernel_rfl) ?_ ?_ (by assumption) ?_; rotate_left 1; (next => simp only [tka, tkb, tkc]; rfl); (next => exact fun _ _ _ h => h); (next => rfl))); (try simp only [Act.put, tkd, tke, tkf])
        (first | (refine tkY (i := 17) (oi := ?_) (v := ?_) ?_ (by kernel_rfl) ?_ ?_ ?_ (by assumption) ?_; rotate_left 2; (next => simp only [tka, tkb, tkc]; rfl); (next => exact fun _ _ _ h => h); (next => rfl); (next => intro w hSw; (try dsimp only at hSw); go_simp; (try (with_reducible rfl)))) | (refine tkN (i := 17) (oi := ?_) ?_ (by kernel_rfl) ?_ ?_ (by assumption) ?_; rotate_left 1; (next => simp only [tka, tkb, tkc]; rfl); (next => exact fun _ _ _ h => h); (next => rfl))); (try simp only [Act.put, tkd, tke, tkf])
        (first | (refine tkY (i := 18) (oi := ?_) (v := ?_) ?_ (by kernel_rfl) ?_ ?_ ?_ (by assumption) ?_; rotate_left 2; (next => simp only [tka, tkb, tkc]; rfl); (next => exact fun _ _ _ h => h); (next => rfl); (next => intro w hSw; (try dsimp only at hSw); go_simp; (try (with_reducible rfl)))) | (refine tkN (i := 18) (oi := ?_) ?_ (by kernel_rfl) ?_ ?_ (by assumption) ?_; rotate_left 1; (next => simp only [tka, tkb, tkc]; rfl); (next => exact fun _ _ _ h => h); (next => rfl))); (try simp only [Act.put, tkd, tke, tkf])
        (first | (refine tkY (i := 19) (oi := ?_) (v := ?_) ?_ (by kernel_rfl) ?_ ?_ ?_ (by assumption) ?_; rotate_left 2; (next => simp only [tka, tkb, tkc]; rfl); (next => exact fun _ _ _ h => h); (next => rfl); (next => intro w hSw; (try dsimp only at hSw); go_simp; (try (with_reducible rfl)))) | (refine tkN (i := 19) (oi := ?_) ?_ (by kernel_rfl) ?_ ?_ (by assumption) ?_; rotate_left 1; (next => simp only [tka, tkb, tkc]; rfl); (next => exact fun _ _ _ h => h); (next => rfl))); (try simp only [Act.put, tkd, tke, tkf])
        refine tkY (i := 20) (oi := ?_) (v := ?_) ?_ (by kernel_rfl) ?_ ?_ ?_ (by assumption) ?_; rotate_left 2; (next => simp only [tka, tkb, tkc]; rfl); (next => exact fun _ _ _ h => h); (next => rfl); (next => intro w_ hSw; (try dsimp only at hSw); have d5 := keep_cell hSw d5; go_simp; (try (with_reducible rfl))); (try simp only [Act.put, tkd, tke, tkf])
        (first | (refine tkY (i := 21) (oi := ?_) (v := ?_) ?_ (by kernel_rfl) ?_ ?_ ?_ (by assumption) ?_; rotate_left 2; (next => simp only [tka, tkb, tkc]; rfl); (next => exact fun _ _ _ h => h); (next => rfl); (next => intro w hSw; (try dsimp only at hSw); go_simp; (try (with_reducible rfl)))) | (refine tkN (i := 21) (oi := ?_) ?_ (by kernel_rfl) ?_ ?_ (by assumption) ?_; rotate_left 1; (next => simp only [tka, tkb, tkc]; rfl); (next => exact fun _ _ _ h => h); (next => rfl))); (try simp only [Act.put, tkd, tke, tkf])
        refine wpAnyH_ready (rs := [22]) (by kernel_rfl) (by simp) ?_; refine AllReadyH.cons (o := ?_) ?_ (fun K hK => ?_) AllReadyH.nil; rotate_left 1; (next => simp only [List.getElem?_toArray, List.getElem?_cons_succ, List.getElem?_cons_zero]; rfl); go_simp; (go_at_call 145; (with_reducible refine (HD.out _ _).mono ?_); rintro e w' ⟨rfl, rfl⟩)
        (try go_wp2_with fail); refine hK.out _ _ (S0) (fun hHeld => ?_); clear hK K; (try simp only [Act.put, List.setIfInBounds_toArray, List.set_cons_zero, List.set_cons_succ])
        (first | (refine tkY (i := 23) (oi := ?_) (v := ?_) ?_ (by kernel_rfl) ?_ ?_ ?_ (by assumption) ?_; rotate_left 2; (next => simp only [tka, tkb, tkc]; rfl); (next => exact fun _ _ _ h => h); (next => rfl); (next => intro w hSw; (try dsimp only at hSw); go_simp; (try (with_reducible rfl)))) | (refine tkN (i := 23) (oi := ?_) ?_ (by kernel_rfl) ?_ ?_ (by assumption) ?_; rotate_left 1; (next => simp only [tka, tkb, tkc]; rfl); (next => exact fun _ _ _ h => h); (next => rfl))); (try simp only [Act.put, tkd, tke, tkf])
        (first | (refine tkY (i := 24) (oi := ?_) (v := ?_) ?_ (by kernel_rfl) ?_ ?_ ?_ (by assumption) ?_; rotate_left 2; (next => simp only [tka, tkb, tkc]; rfl); (next => exact fun _ _ _ h => h); (next => rfl); (next => intro w hSw; (try dsimp only at hSw); go_simp; (try (with_reducible rfl)))) | (refine tkN (i := 24) (oi := ?_) ?_ (by kernel_rfl) ?_ ?_ (by assumption) ?_; rotate_left 1; (next => simp only [tka, tkb, tkc]; rfl); (next => exact fun _ _ _ h => h); (next => rfl))); (try simp only [Act.put, tkd, tke, tkf])
        refine wpAnyH_done (by kernel_rfl) ?_ _
        go_wp2
        go_ret2
        exact ⟨by rw [HE.out]; first | done | rfl | (simp; done), bl_drew HB3.out⟩
set_option maxHeartbeats 4000000 in
theorem LineCost_s (w : World) (A : Option Addr) (n c : Nat) (L : List It) (h : TL w A n L) (hn : n ≤ 1048576) (a b d t : Int) (wa : -9223372036854775808 ≤ a ∧ a ≤ 9223372036854775807) (wb : -9223372036854775808 ≤ b ∧ b ≤ 9223372036854775807) :
    Calls Try.prog 80 #[.slice A n c, .int .i64 a, .int .i64 b, .int .i64 d, .int .i64 t] w fun e w' => e = .returned (.tuple #[.int .i64 (coO L a b d t).1, .bool (coO L a b d t).2]) ∧ Below w.heap.size w w' := by
  have VL := hide (validLine_s w A n c L h hn a b wa wb)
  obtain rfl : n = L.length := h.1
  have HI := hide h
  clear h wa wb
  cases hol : okL L a b
  · have E := hide (coO_non (L := L) (a := a) (b := b) (d := d) (t := t) (by simp [hol]))
    rw [hol] at VL
    clear hol
    go_enter Try.func80, Try.ntmps80
    go_wp2_with fail
    (with_reducible refine VL.out.mono ?_)
    rintro e u1 ⟨rfl, hb⟩
    have HB1 := hide hb
    clear hb
    go_wp2
    go_ret2
    exact ⟨by rw [E.out]; rfl, HB1.out⟩
  cases q1 : inB d 1 10000
  · have E := hide (coO_non (L := L) (a := a) (b := b) (d := d) (t := t) (by simp [q1]))
    rw [hol] at VL
    clear hol
    go_enter Try.func80, Try.ntmps80
    go_wp2_with fail
    (with_reducible refine VL.out.mono ?_)
    rintro e u1 ⟨rfl, hb⟩
    have HB1 := hide hb
    clear hb
    go_wp2_with (go_at_call 69; refine (validWidth_ss _ _).mono ?_; rintro e w' ⟨rfl, rfl⟩)
    go_ret2
    exact ⟨by rw [E.out]; rfl, HB1.out⟩
  cases q2 : inB t 0 10000
  · have E := hide (coO_non (L := L) (a := a) (b := b) (d := d) (t := t) (by simp [q2]))
    rw [hol] at VL
    clear hol
    go_enter Try.func80, Try.ntmps80
    go_wp2_with fail
    (with_reducible refine VL.out.mono ?_)
    rintro e u1 ⟨rfl, hb⟩
    have HB1 := hide hb
    clear hb
    go_wp2_with (first | (go_at_call 69; refine (validWidth_ss _ _).mono ?_; rintro e w' ⟨rfl, rfl⟩) | (go_at_call 96; refine (inRange_any _ _ _ _).mono ?_; rintro e w' ⟨rfl, rfl⟩))
    go_ret2
    exact ⟨by rw [E.out]; rfl, HB1.out⟩
  · rw [hol] at VL
    have hh := hol
    simp only [okL, Bool.and_eq_true] at hh
    obtain ⟨p, q, hp, rfl, hpq, hq, _⟩ := hasL_of hh.2
    have OK := isOk_iff.1 hh.1
    rw [coO_yes hh.1]
    have HLC := hide (fun (u : World) (hu : TL u A L.length L) => lineCost_s u A c L hu OK.1 OK.2.1.2 a p q hp d t hh.2 q1 q2)
    clear hol hh OK hp
    go_enter Try.func80, Try.ntmps80
    go_wp2_with fail
    (with_reducible refine VL.out.mono ?_)
    rintro e u1 ⟨rfl, hb⟩
    have HB1 := hide hb
    have HI1 := hide (HI.out.below hb)
    clear hb
    go_wp2_with (first | (go_at_call 69; refine (validWidth_ss _ _).mono ?_; rintro e w' ⟨rfl, rfl⟩) | (go_at_call 96; refine (inRange_any _ _ _ _).mono ?_; rintro e w' ⟨rfl, rfl⟩))
    (with_reducible refine (HLC.out _ HI1.out).mono ?_)
    rintro e u2 ⟨rfl, hb⟩
    have HB2 := hide (bl_call hb HB1.out)
    clear hb
    go_wp2
    go_ret2
    exact ⟨rfl, HB2.out⟩
end Go.Proofs.Ytafddofajfcffaa

/- What given breaks cost: pure maths. -/
namespace Go.Proofs.Ytafddofajfcffaa
open Go.ChangeShapes Go.WideShapes Go.ChangeAt Go.RowKit
set_option linter.unusedVariables false
open Classical

theorem okL_eq {L : List It} {a b : Int} (h : isOk L = true) : okL L a b = hasL L a b := by simp [okL, h]
theorem coO_has {L : List It} {a b d t : Int} (h : (coO L a b d t).2 = true) : isOk L = true := by
  cases q : isOk L
  · rw [coO_no q] at h; cases h
  · rfl
theorem coO_bd {L : List It} (a b d t : Int) : -200000000 ≤ (coO L a b d t).1 ∧ (coO L a b d t).1 ≤ 200000000 := by
  cases q : isOk L
  · rw [coO_no q]; simp
  · rw [coO_yes q]; exact coL_bd (isOk_iff.1 q).1 a b d t
def okW (E : List Int) : Prop := ∀ k, k < E.length → -9223372036854775808 ≤ ng E k ∧ ng E k ≤ 9223372036854775807
theorem frm_wf {E : List Int} (h : okW E) : ∀ {k : Nat}, k ≤ E.length → -9223372036854775808 ≤ frm (-1) E k ∧ frm (-1) E k ≤ 9223372036854775807
  | 0, _ => by rw [frm_zero]; omega
  | k + 1, hk => by rw [frm_succ]; exact h k (by omega)
/-- Breaks end with the last item. -/
def endB (L : List It) (E : List Int) : Bool := decide (frm (-1) E E.length = (L.length : Int) - 1)
theorem frm_last {E : List Int} (h : 0 < E.length) : frm (-1) E E.length = ng E (E.length - 1) := by
  obtain ⟨k, hk⟩ : ∃ k, E.length = k + 1 := ⟨E.length - 1, by omega⟩
  rw [hk, frm_succ]; rfl
/-- What a total of lines is. -/
noncomputable def cbV (L : List It) (E : List Int) (C : Nat → Int → Int → Int × Bool) : Int × Bool := if isOk L && endB L E then toO (-1) E C else (0, false)
section
variable {L : List It} {E : List Int} {C : Nat → Int → Int → Int × Bool}
theorem cbV_no (h : (isOk L && endB L E) = false) : cbV L E C = (0, false) := by unfold cbV; rw [h]; rfl
theorem cbV_yes (h : (isOk L && endB L E) = true) : cbV L E C = toO (-1) E C := by unfold cbV; rw [h]; rfl
theorem cbV_bad {k : Nat} (hk : k < E.length) (h : isOk L = true → (C k (frm (-1) E k) (ng E k)).2 = false) : cbV L E C = (0, false) := by
  cases q : (isOk L && endB L E)
  · exact cbV_no q
  · rw [cbV_yes q]
    refine toO_no fun x => ?_
    have h1 := x k hk
    rw [h ((Bool.and_eq_true _ _).mp q).1] at h1
    cases h1
theorem cbV_true (h : (cbV L E C).2 = true) : isOk L = true ∧ endB L E = true ∧ okT (-1) E C E.length ∧ (cbV L E C).1 = sto (fun j => (C j (frm (-1) E j) (ng E j)).1) E.length := by
  cases q : (isOk L && endB L E)
  · rw [cbV_no q] at h; cases h
  · obtain ⟨a, b⟩ := (Bool.and_eq_true _ _).mp q
    rw [cbV_yes q] at h ⊢
    by_cases o : okT (-1) E C E.length
    · exact ⟨a, b, o, by rw [toO_yes o]⟩
    · rw [toO_no o] at h; cases h
theorem cbV_of (h1 : isOk L = true) (h2 : endB L E = true) (h3 : okT (-1) E C E.length) : cbV L E C = (sto (fun j => (C j (frm (-1) E j) (ng E j)).1) E.length, true) := by
  rw [cbV_yes (by rw [h1, h2]; rfl), toO_yes h3]
theorem cbV_congr {C' : Nat → Int → Int → Int × Bool} (h : isOk L = true → ∀ j a b, C j a b = C' j a b) : cbV L E C = cbV L E C' := by
  cases q : (isOk L && endB L E)
  · rw [cbV_no q, cbV_no q]
  · have := h ((Bool.and_eq_true _ _).mp q).1
    rw [show C = C' from funext fun j => funext fun a => funext fun b => this j a b]
theorem endB_nil (h : 1 ≤ L.length) : endB L [] = false := decide_eq_false (by show ¬ ((-1 : Int) = _); omega)
end
/-- What CheckBreaks answers. -/
noncomputable def cbO (L : List It) (d t : Int) (E : List Int) : Int × Bool := cbV L E (fun _ a b => coO L a b d t)
/-- What ValidBreaks answers. -/
noncomputable def vbO (L : List It) (E : List Int) : Bool := (cbV L E (fun _ a b => (0, okL L a b))).2
theorem cbO_eq (L : List It) (d t : Int) (E : List Int) : cbO L d t E = cbV L E (fun _ a b => coL L a b d t) := cbV_congr fun h _ a b => coO_yes h
theorem vbO_eq (L : List It) (E : List Int) : vbO L E = (cbV L E (fun _ a b => (0, hasL L a b))).2 := by
  unfold vbO
  rw [cbV_congr (C' := fun _ a b => (0, hasL L a b)) fun h _ a b => by rw [okL_eq h]]
/-- What BestBreaks answers. -/
noncomputable def bbV (L : List It) (d t : Int) : List Int × Int × Bool := if isOk L then dpR (gB (fun a b => coL L a b d t)) ndB L.length else ([], 0, false)
theorem bbV_no {L : List It} {d t : Int} (h : isOk L = false) : bbV L d t = ([], 0, false) := by unfold bbV; rw [h]; rfl
theorem bbV_yes {L : List It} {d t : Int} (h : isOk L = true) : bbV L d t = dpR (gB (fun a b => coL L a b d t)) ndB L.length := by unfold bbV; rw [if_pos h]
theorem bbV_arg {L : List It} {d t : Int} (h : (inB d 1 10000 && inB t 0 10000) = false) : bbV L d t = ([], 0, false) := by
  cases q : isOk L
  · exact bbV_no q
  · rw [bbV_yes q]
    have h1 := (isOk_iff.1 q).2.1.1
    unfold dpR
    rw [dpD_succ (by omega), bst_none]
    intro i hi
    apply gB_no
    cases e : (coL L ((i : Int) - 1) ((L.length : Int) - 1) d t).2
    · rfl
    · have := coL_has e
      rw [this.2.1, this.2.2] at h; cases h
theorem cl_has {L : List It} {d t : Int} : ∀ a b, (coL L a b d t).2 = true → hasL L a b = true := fun _ _ h => (coL_has h).1
theorem bkB_in {L : List It} {C : Int → Int → Int × Bool} : ∀ (n : Nat) {j : Nat} {d : Dn}, d.2.2 = n → dpD (gB C) j = some d → ∀ x ∈ bkL (gB C) ndB n j, -1 ≤ x ∧ x < (j : Int)
  | 0, _, _, _, _, x, hx => by simp [bkL] at hx
  | n + 1, j, d, hn, e, x, hx => by
    have hj0 : 0 < j := by
      rcases Nat.eq_zero_or_pos j with e0 | e0
      · subst e0
        have := dpD_zero_of e
        subst this
        simp at hn
      · exact e0
    obtain ⟨h1, y, v, h2, h3, h4, h5⟩ := dpD_from hj0 e
    simp only [bkL, List.mem_append, List.mem_singleton] at hx
    rw [bfN_of e] at hx
    rcases hx with hx | hx
    · have := bkB_in (L := L) n (j := d.2.1) (d := y) (by omega) h2 x hx
      omega
    · rw [hx]
      show -1 ≤ (j : Int) - 1 ∧ (j : Int) - 1 < (j : Int)
      omega
theorem bbV_len {L : List It} {d t : Int} : (bbV L d t).1.length ≤ 60 ∧ okW (bbV L d t).1 := by
  cases q : isOk L
  · rw [bbV_no q]; exact ⟨by simp, fun k hk => by simp at hk⟩
  · rw [bbV_yes q]
    have h1 := (isOk_iff.1 q).2.1.2
    unfold dpR
    cases e : dpD (gB fun a b => coL L a b d t) L.length with
    | none => exact ⟨by simp, fun k hk => by simp at hk⟩
    | some x =>
      have hb := (dpD_bd (g := gB fun a b => coL L a b d t) (M := 200000000) (fun i j n e => gB_bd (fun a b => coL_bd (isOk_iff.1 q).1 a b d t) e) (L.length + 1) (Nat.lt_succ_self _) e).1
      have hl := (bkB_ok (C := fun a b => coL L a b d t) (L.length + 1) (Nat.lt_succ_self _) e).1
      refine ⟨by simp only [hl]; omega, fun k hk => ?_⟩
      have := bkB_in (L := L) x.2.2 rfl e _ (ng_mem hk)
      simp only at this ⊢
      omega
/-- Best breaks are checked. -/
theorem bb_check {L : List It} {d t : Int} (e : (bbV L d t).2.2 = true) : isOk L = true ∧ cbO L d t (bbV L d t).1 = ((bbV L d t).2.1, true) ∧ vbO L (bbV L d t).1 = true := by
  cases q : isOk L
  · rw [bbV_no q] at e; cases e
  · rw [bbV_yes q] at e ⊢
    unfold dpR at e ⊢
    cases dn : dpD (gB fun a b => coL L a b d t) L.length with
    | none => rw [dn] at e; cases e
    | some x =>
      obtain ⟨a, b, c, f⟩ := bkB_ok (C := fun a b => coL L a b d t) (L.length + 1) (Nat.lt_succ_self _) dn
      show true = true ∧ cbO L d t (bkL _ _ _ _) = (x.1, true) ∧ vbO L (bkL _ _ _ _) = true
      obtain ⟨E, hE⟩ : ∃ E, E = bkL (gB fun a b => coL L a b d t) ndB x.2.2 L.length := ⟨_, rfl⟩
      rw [← hE] at a b c f ⊢
      rw [← a] at b c f
      have he : endB L E = true := decide_eq_true b
      refine ⟨rfl, ?_, ?_⟩
      · rw [cbO_eq, cbV_of q he c, f]
      · rw [vbO_eq, cbV_of q he (fun j hj => (coL_has (c j hj)).1)]
theorem bb_least {L : List It} {d t : Int} {E : List Int} (h : (cbO L d t E).2 = true) : (bbV L d t).2.2 = true ∧ (bbV L d t).2.1 ≤ (cbO L d t E).1 := by
  rw [cbO_eq] at h ⊢
  obtain ⟨a, b, c, e⟩ := cbV_true h
  obtain ⟨i, x, e1, e2, e3⟩ := okB_least (L := L) (C := fun a b => coL L a b d t) cl_has c E.length (Nat.le_refl _)
  have hb := of_decide_eq_true b
  obtain rfl : i = L.length := by omega
  rw [bbV_yes a, e]
  unfold dpR
  rw [e2]
  exact ⟨rfl, e3⟩
theorem vb_forced {L : List It} {E : List Int} (h : vbO L E = true) {f : Nat} (hl : f < L.length) (hf : isF (tg L f) = true) : ∃ m, m < E.length ∧ ng E m = f := by
  rw [vbO_eq] at h
  obtain ⟨a, b, c, _⟩ := cbV_true h
  have := of_decide_eq_true b
  exact okB_forced c hf E.length (Nat.le_refl _) (by omega)
end Go.Proofs.Ytafddofajfcffaa

/- The costs of lines as closures, and the totals of given breaks, in the program. -/
namespace Go.Proofs.Ytafddofajfcffaa
open Go.ChangeShapes Go.WideShapes Go.ChangeAt Go.RowKit
set_option linter.unusedVariables false
set_option linter.unusedSimpArgs false
open Classical

theorem PS.cells {u : World} {B gp g c1 gs gf gb : Nat} {L : List It} (h : PS u B gp g c1 gs gf gb L) : u.cell? ⟨gp, 0, none⟩ = some (.slice (some ⟨g, 0, none⟩) L.length c1) ∧ u.cell? ⟨gp, 1, none⟩ = some (.slice (some ⟨gs, 0, none⟩) (L.length + 1) (L.length + 1)) ∧ u.cell? ⟨gp, 2, none⟩ = some (.slice (some ⟨gf, 0, none⟩) (L.length + 1) (L.length + 1)) ∧ u.cell? ⟨gp, 3, none⟩ = some (.slice (some ⟨gb, 0, none⟩) (L.length + 1) (L.length + 1)) := ⟨h.k0, h.k1, h.k2, h.k3⟩
/-- A measured paragraph that is copied into another variable. -/
theorem PS.copy {u : World} {B gp g c1 gs gf gb : Nat} {L : List It} (h : PS u B gp g c1 gs gf gb L) : PS (u.alloc (.cells #[.slice (some ⟨g, 0, none⟩) L.length c1, .slice (some ⟨gs, 0, none⟩) (L.length + 1) (L.length + 1), .slice (some ⟨gf, 0, none⟩) (L.length + 1) (L.length + 1), .slice (some ⟨gb, 0, none⟩) (L.length + 1) (L.length + 1)] 92)) B u.heap.size g c1 gs gf gb L := ps_made h.row h.pr
theorem sameWidth_i (d : Int) (w : World) :
    Calls Try.prog 83 #[.int .i64 d] w fun e w' => e = .returned (.func (.func 129) #[] #[.pointer (some ⟨w.heap.size, 0, none⟩)]) ∧ w.alloc (.cells #[.int .i64 d] 3) = w' := by
  go_enter Try.func83, Try.ntmps83
  go_wp2
  go_ret
  exact ⟨rfl, rfl⟩
theorem same1_i (x d : Int) (b : Nat) (w : World) (h : w.cell? ⟨b, 0, none⟩ = some (.int .i64 d)) :
    Calls Try.prog 129 #[.int .i64 x, .pointer (some ⟨b, 0, none⟩)] w fun e w' => e = .returned (.int .i64 d) ∧ w = w' := by
  go_enter Try.func129, Try.ntmps129
  go_wp2
  go_ret
  exact ⟨rfl, rfl⟩
theorem costBy_i (w : World) (v0 v1 v2 v3 : Value) (F : Nat) (qs : Array Value) (t : Int) :
    Calls Try.prog 82 #[.agg #[v0, v1, v2, v3], .func (.func F) #[] qs, .int .i64 t] w fun e w' => e = .returned (.func (.func 128) #[] #[.pointer (some ⟨w.heap.size, 0, none⟩), .pointer (some ⟨w.heap.size + 1, 0, none⟩), .pointer (some ⟨w.heap.size + 1 + 1, 0, none⟩)]) ∧ ((w.alloc (.cells #[v0, v1, v2, v3] 92)).alloc (.cells #[.func (.func F) #[] qs] 106)).alloc (.cells #[.int .i64 t] 3) = w' := by
  go_enter Try.func82, Try.ntmps82
  go_wp2
  go_ret
  exact ⟨rfl, rfl⟩
set_option maxRecDepth 8000 in
set_option maxHeartbeats 4000000 in
/-- The cost of a line, all lines having one width. -/
theorem lines1_i (w : World) {B gp b4 b5 bw g c1 gs gf gb : Nat} (L : List It) (hps : PS w B gp g c1 gs gf gb L) (hall : ∀ i, i < L.length → itOk (tg L i) = true) (h1 : 1 ≤ L.length ∧ L.length ≤ 60) (x a b d t : Int) (wa : -9223372036854775808 ≤ a ∧ a ≤ 9223372036854775807) (wb : -9223372036854775808 ≤ b ∧ b ≤ 9223372036854775807)
    (k4 : w.cell? ⟨b4, 0, none⟩ = some (.func (.func 129) #[] #[.pointer (some ⟨bw, 0, none⟩)])) (k5 : w.cell? ⟨b5, 0, none⟩ = some (.int .i64 t)) (kw : w.cell? ⟨bw, 0, none⟩ = some (.int .i64 d)) :
    Calls Try.prog 128 #[.int .i64 x, .int .i64 a, .int .i64 b, .pointer (some ⟨gp, 0, none⟩), .pointer (some ⟨b4, 0, none⟩), .pointer (some ⟨b5, 0, none⟩)] w fun e w' => e = .returned (.tuple #[.int .i64 (coL L a b d t).1, .bool (coL L a b d t).2]) ∧ Below w.heap.size w w' := by
  have k0 := hps.k0
  have k1 := hps.k1
  have k2 := hps.k2
  have k3 := hps.k3
  have HC := hide (fun (u : World) (hu : Below w.heap.size w u) => cost_i u L (hps.below hu) hall h1 a b d t wa wb)
  obtain ⟨v, hv⟩ : ∃ v, v = coL L a b d t := ⟨_, rfl⟩
  rw [← hv] at HC ⊢
  obtain ⟨v1, v2⟩ := v
  clear hv hps hall
  go_enter Try.func128, Try.ntmps128
  go_upto_region 1 with fail
  have S0 := bl_drew (bl_refl w)
  have kwd : w.drew.cell? ⟨bw, 0, none⟩ = some (.int .i64 d) := kw
  refine wp_region_held_drew (S := fun u : World => Below w.heap.size w u) (by kernel_rfl) (S0) (fun hHeld => ?_)
  refine tkY (i := 0) (oi := ?_) (v := ?_) ?_ (by kernel_rfl) ?_ ?_ ?_ (by assumption) ?_; rotate_left 2; (next => simp only [tka, tkb, tkc]; rfl); (next => exact fun _ _ _ h => h); (next => rfl); (next => intro w_ hSw; (try dsimp only at hSw); have k0 := keep_cell hSw k0; have k1 := keep_cell hSw k1; have k2 := keep_cell hSw k2; have k3 := keep_cell hSw k3; go_simp; (try (with_reducible rfl))); (try simp only [Act.put, tkd, tke, tkf])
  (first | (refine tkY (i := 1) (oi := ?_) (v := ?_) ?_ (by kernel_rfl) ?_ ?_ ?_ (by assumption) ?_; rotate_left 2; (next => simp only [tka, tkb, tkc]; rfl); (next => exact fun _ _ _ h => h); (next => rfl); (next => intro w hSw; (try dsimp only at hSw); go_simp; (try (with_reducible rfl)))) | (refine tkN (i := 1) (oi := ?_) ?_ (by kernel_rfl) ?_ ?_ (by assumption) ?_; rotate_left 1; (next => simp only [tka, tkb, tkc]; rfl); (next => exact fun _ _ _ h => h); (next => rfl))); (try simp only [Act.put, tkd, tke, tkf])
  (first | (refine tkY (i := 2) (oi := ?_) (v := ?_) ?_ (by kernel_rfl) ?_ ?_ ?_ (by assumption) ?_; rotate_left 2; (next => simp only [tka, tkb, tkc]; rfl); (next => exact fun _ _ _ h => h); (next => rfl); (next => intro w hSw; (try dsimp only at hSw); go_simp; (try (with_reducible rfl)))) | (refine tkN (i := 2) (oi := ?_) ?_ (by kernel_rfl) ?_ ?_ (by assumption) ?_; rotate_left 1; (next => simp only [tka, tkb, tkc]; rfl); (next => exact fun _ _ _ h => h); (next => rfl))); (try simp only [Act.put, tkd, tke, tkf])
  refine tkY (i := 3) (oi := ?_) (v := ?_) ?_ (by kernel_rfl) ?_ ?_ ?_ (by assumption) ?_; rotate_left 2; (next => simp only [tka, tkb, tkc]; rfl); (next => exact fun _ _ _ h => h); (next => rfl); (next => intro w_ hSw; (try dsimp only at hSw); have k4 := keep_cell hSw k4; go_simp; (try (with_reducible rfl))); (try simp only [Act.put, tkd, tke, tkf])
  (first | (refine tkY (i := 4) (oi := ?_) (v := ?_) ?_ (by kernel_rfl) ?_ ?_ ?_ (by assumption) ?_; rotate_left 2; (next => simp only [tka, tkb, tkc]; rfl); (next => exact fun _ _ _ h => h); (next => rfl); (next => intro w hSw; (try dsimp only at hSw); go_simp; (try (with_reducible rfl)))) | (refine tkN (i := 4) (oi := ?_) ?_ (by kernel_rfl) ?_ ?_ (by assumption) ?_; rotate_left 1; (next => simp only [tka, tkb, tkc]; rfl); (next => exact fun _ _ _ h => h); (next => rfl))); (try simp only [Act.put, tkd, tke, tkf])
  refine tkY (i := 6) (oi := ?_) (v := ?_) ?_ (by kernel_rfl) ?_ ?_ ?_ (by assumption) ?_; rotate_left 2; (next => simp only [tka, tkb, tkc]; rfl); (next => exact fun _ _ _ h => h); (next => rfl); (next => intro w_ hSw; (try dsimp only at hSw); have k5 := keep_cell hSw k5; go_simp; (try (with_reducible rfl))); (try simp only [Act.put, tkd, tke, tkf])
  refine wpAnyH_ready (rs := [5]) (by kernel_rfl) (by simp) ?_; refine AllReadyH.cons (o := ?_) ?_ (fun K hK => ?_) AllReadyH.nil; rotate_left 1; (next => simp only [List.getElem?_toArray, List.getElem?_cons_succ, List.getElem?_cons_zero]; rfl); go_simp
  go_at_call 129
  (with_reducible refine (same1_i _ d bw _ kwd).mono ?_)
  rintro e w' ⟨rfl, rfl⟩
  (try go_wp2_with fail); refine hK.out _ _ (S0) (fun hHeld => ?_); clear hK K; (try simp only [Act.put, List.setIfInBounds_toArray, List.set_cons_zero, List.set_cons_succ])
  refine wpAnyH_ready (rs := [7]) (by kernel_rfl) (by simp) ?_; refine AllReadyH.cons (o := ?_) ?_ (fun K hK => ?_) AllReadyH.nil; rotate_left 1; (next => simp only [List.getElem?_toArray, List.getElem?_cons_succ, List.getElem?_cons_zero]; rfl); go_simp
  go_at_call 102
  (with_reducible refine (HC.out _ (bl_drew (bl_refl _))).mono ?_)
  rintro e u1 ⟨rfl, hb⟩
  (try (with_reducible have hb := bl_undrew hb))
  (try go_wp2_with fail); refine hK.out _ _ (hb) (fun hHeld => ?_); clear hK K; (try simp only [Act.put, List.setIfInBounds_toArray, List.set_cons_zero, List.set_cons_succ])
  (first | (refine tkY (i := 8) (oi := ?_) (v := ?_) ?_ (by kernel_rfl) ?_ ?_ ?_ (by assumption) ?_; rotate_left 2; (next => simp only [tka, tkb, tkc]; rfl); (next => exact fun _ _ _ h => h); (next => rfl); (next => intro w hSw; (try dsimp only at hSw); go_simp; (try (with_reducible rfl)))) | (refine tkN (i := 8) (oi := ?_) ?_ (by kernel_rfl) ?_ ?_ (by assumption) ?_; rotate_left 1; (next => simp only [tka, tkb, tkc]; rfl); (next => exact fun _ _ _ h => h); (next => rfl))); (try simp only [Act.put, tkd, tke, tkf])
  (first | (refine tkY (i := 9) (oi := ?_) (v := ?_) ?_ (by kernel_rfl) ?_ ?_ ?_ (by assumption) ?_; rotate_left 2; (next => simp only [tka, tkb, tkc]; rfl); (next => exact fun _ _ _ h => h); (next => rfl); (next => intro w hSw; (try dsimp only at hSw); go_simp; (try (with_reducible rfl)))) | (refine tkN (i := 9) (oi := ?_) ?_ (by kernel_rfl) ?_ ?_ (by assumption) ?_; rotate_left 1; (next => simp only [tka, tkb, tkc]; rfl); (next => exact fun _ _ _ h => h); (next => rfl))); (try simp only [Act.put, tkd, tke, tkf])
  (first | (refine tkY (i := 10) (oi := ?_) (v := ?_) ?_ (by kernel_rfl) ?_ ?_ ?_ (by assumption) ?_; rotate_left 2; (next => simp only [tka, tkb, tkc]; rfl); (next => exact fun _ _ _ h => h); (next => rfl); (next => intro w hSw; (try dsimp only at hSw); go_simp; (try (with_reducible rfl)))) | (refine tkN (i := 10) (oi := ?_) ?_ (by kernel_rfl) ?_ ?_ (by assumption) ?_; rotate_left 1; (next => simp only [tka, tkb, tkc]; rfl); (next => exact fun _ _ _ h => h); (next => rfl))); (try simp only [Act.put, tkd, tke, tkf])
  (first | (refine tkY (i := 11) (oi := ?_) (v := ?_) ?_ (by kernel_rfl) ?_ ?_ ?_ (by assumption) ?_; rotate_left 2; (next => simp only [tka, tkb, tkc]; rfl); (next => exact fun _ _ _ h => h); (next => rfl); (next => intro w hSw; (try dsimp only at hSw); go_simp; (try (with_reducible rfl)))) | (refine tkN (i := 11) (oi := ?_) ?_ (by kernel_rfl) ?_ ?_ (by assumption) ?_; rotate_left 1; (next => simp only [tka, tkb, tkc]; rfl); (next => exact fun _ _ _ h => h); (next => rfl))); (try simp only [Act.put, tkd, tke, tkf])
  refine wpAnyH_done (by kernel_rfl) ?_ _
  go_wp2
  go_ret2
  exact ⟨rfl, hb⟩
set_option maxRecDepth 8000 in
set_option maxHeartbeats 4000000 in
theorem div1_i (w : World) {B gp g c1 gs gf gb : Nat} (L : List It) (hps : PS w B gp g c1 gs gf gb L) (hall : ∀ i, i < L.length → itOk (tg L i) = true) (h1 : 1 ≤ L.length ∧ L.length ≤ 60) (x a b : Int) (wa : -9223372036854775808 ≤ a ∧ a ≤ 9223372036854775807) (wb : -9223372036854775808 ≤ b ∧ b ≤ 9223372036854775807) :
    Calls Try.prog 125 #[.int .i64 x, .int .i64 a, .int .i64 b, .pointer (some ⟨gp, 0, none⟩)] w fun e w' => e = .returned (.tuple #[.int .i64 0, .bool (hasL L a b)]) ∧ Below w.heap.size w w' := by
  have k0 := hps.k0
  have k1 := hps.k1
  have k2 := hps.k2
  have k3 := hps.k3
  have HC := hide (hps.hasLine hall h1 a b wa wb)
  clear hps hall wa wb
  go_enter Try.func125, Try.ntmps125
  go_wp2_with fail
  (with_reducible refine HC.out.mono ?_)
  rintro e u1 ⟨rfl, hb⟩
  go_wp2
  go_ret2
  exact ⟨rfl, hb⟩
/-- What p.totalCost answers. -/
noncomputable def ptO (L : List It) (E : List Int) (C : Nat → Int → Int → Int × Bool) : Int × Bool := if endB L E then toO (-1) E C else (0, false)
theorem ptO_no {L : List It} {E : List Int} {C : Nat → Int → Int → Int × Bool} (h : endB L E = false) : ptO L E C = (0, false) := by unfold ptO; rw [h]; rfl
theorem ptO_yes {L : List It} {E : List Int} {C : Nat → Int → Int → Int × Bool} (h : endB L E = true) : ptO L E C = toO (-1) E C := by unfold ptO; rw [if_pos h]
theorem cbV_ok {L : List It} {E : List Int} {C : Nat → Int → Int → Int × Bool} (h : isOk L = true) : cbV L E C = ptO L E C := by unfold cbV ptO; rw [h, Bool.true_and]
set_option maxRecDepth 8000 in
set_option maxHeartbeats 4000000 in
theorem ptotal_lines (w : World) {B gp g c1 gs gf gb : Nat} (L : List It) (hps : PS w B gp g c1 gs gf gb L) (h1 : 1 ≤ L.length ∧ L.length ≤ 60) (A : Option Addr) (m c : Nat) (E : List Int) (hE : IL w A m E) (hm : m ≤ 1048576) (C : Nat → Int → Int → Int × Bool) (qs : Array Value)
    (HT : ∀ u, Below w.heap.size w u → Calls Try.prog 127 #[.int .i64 (-1), .slice A E.length c, .func (.func 128) #[] qs] u fun e w' => e = .returned (.tuple #[.int .i64 (toO (-1) E C).1, .bool (toO (-1) E C).2]) ∧ Below u.heap.size u w') :
    Calls Try.prog 81 #[.agg #[.slice (some ⟨g, 0, none⟩) L.length c1, .slice (some ⟨gs, 0, none⟩) (L.length + 1) (L.length + 1), .slice (some ⟨gf, 0, none⟩) (L.length + 1) (L.length + 1), .slice (some ⟨gb, 0, none⟩) (L.length + 1) (L.length + 1)], .slice A m c, .func (.func 128) #[] qs] w fun e w' => e = .returned (.tuple #[.int .i64 (ptO L E C).1, .bool (ptO L E C).2]) ∧ Below w.heap.size w w' := by
  obtain rfl : m = E.length := hE.1
  have HP := hide hps.copy
  have k0 := HP.out.k0
  have k1 := HP.out.k1
  have k2 := HP.out.k2
  have k3 := HP.out.k3
  have HB0 := hide (bl_alloc (bl_refl w) (.cells #[.slice (some ⟨g, 0, none⟩) L.length c1, .slice (some ⟨gs, 0, none⟩) (L.length + 1) (L.length + 1), .slice (some ⟨gf, 0, none⟩) (L.length + 1) (L.length + 1), .slice (some ⟨gb, 0, none⟩) (L.length + 1) (L.length + 1)] 92))
  have HTT := hide HT
  clear hps HT
  rcases Nat.eq_zero_or_pos E.length with h0 | h0
  · have O := hide (ptO_no (L := L) (E := E) (C := C) (by rw [List.eq_nil_of_length_eq_zero h0]; exact endB_nil h1.1))
    have g0 : ((E.length : Int) == 0) = true := beq_iff_eq.2 (by omega)
    clear hE h0
    go_enter Try.func81, Try.ntmps81
    go_upto_region 1 with fail
    refine wp_region_held_drew (S := fun u : World => u.cell? ⟨w.heap.size, 0, none⟩ = some (.slice (some ⟨g, 0, none⟩) L.length c1) ∧ u.cell? ⟨w.heap.size, 1, none⟩ = some (.slice (some ⟨gs, 0, none⟩) (L.length + 1) (L.length + 1)) ∧ u.cell? ⟨w.heap.size, 2, none⟩ = some (.slice (some ⟨gf, 0, none⟩) (L.length + 1) (L.length + 1)) ∧ u.cell? ⟨w.heap.size, 3, none⟩ = some (.slice (some ⟨gb, 0, none⟩) (L.length + 1) (L.length + 1))) (by kernel_rfl) (by first | (simp [go_sem, *]; done) | exact ⟨k0, k1, k2, k3⟩) (fun hHeld => ?_)
    (first | (refine tkY (i := 0) (oi := ?_) (v := ?_) ?_ (by kernel_rfl) ?_ ?_ ?_ (by assumption) ?_; rotate_left 2; (next => simp only [tka, tkb, tkc]; rfl); (next => exact fun _ _ _ h => h); (next => rfl); (next => intro w hSw; (try dsimp only at hSw); go_simp; (try (with_reducible rfl)))) | (refine tkN (i := 0) (oi := ?_) ?_ (by kernel_rfl) ?_ ?_ (by assumption) ?_; rotate_left 1; (next => simp only [tka, tkb, tkc]; rfl); (next => exact fun _ _ _ h => h); (next => rfl))); (try simp only [Act.put, tkd, tke, tkf]); (first | (refine tkY (i := 1) (oi := ?_) (v := ?_) ?_ (by kernel_rfl) ?_ ?_ ?_ (by assumption) ?_; rotate_left 2; (next => simp only [tka, tkb, tkc]; rfl); (next => exact fun _ _ _ h => h); (next => rfl); (next => intro w hSw; (try dsimp only at hSw); go_simp; (try (with_reducible rfl)))) | (refine tkN (i := 1) (oi := ?_) ?_ (by kernel_rfl) ?_ ?_ (by assumption) ?_; rotate_left 1; (next => simp only [tka, tkb, tkc]; rfl); (next => exact fun _ _ _ h => h); (next => rfl))); (try simp only [Act.put, tkd, tke, tkf]); (first | (refine tkY (i := 2) (oi := ?_) (v := ?_) ?_ (by kernel_rfl) ?_ ?_ ?_ (by assumption) ?_; rotate_left 2; (next => simp only [tka, tkb, tkc]; rfl); (next => exact fun _ _ _ h => h); (next => rfl); (next => intro w hSw; (try dsimp only at hSw); go_simp; (try (with_reducible rfl)))) | (refine tkN (i := 2) (oi := ?_) ?_ (by kernel_rfl) ?_ ?_ (by assumption) ?_; rotate_left 1; (next => simp only [tka, tkb, tkc]; rfl); (next => exact fun _ _ _ h => h); (next => rfl))); (try simp only [Act.put, tkd, tke, tkf]); (first | (refine tkY (i := 3) (oi := ?_) (v := ?_) ?_ (by kernel_rfl) ?_ ?_ ?_ (by assumption) ?_; rotate_left 2; (next => simp only [tka, tkb, tkc]; rfl); (next => exact fun _ _ _ h => h); (next => rfl); (next => intro w hSw; (try dsimp only at hSw); go_simp; (try (with_reducible rfl)))) | (refine tkN (i := 3) (oi := ?_) ?_ (by kernel_rfl) ?_ ?_ (by assumption) ?_; rotate_left 1; (next => simp only [tka, tkb, tkc]; rfl); (next => exact fun _ _ _ h => h); (next => rfl))); (try simp only [Act.put, tkd, tke, tkf]); (first | (refine tkY (i := 4) (oi := ?_) (v := ?_) ?_ (by kernel_rfl) ?_ ?_ ?_ (by assumption) ?_; rotate_left 2; (next => simp only [tka, tkb, tkc]; rfl); (next => exact fun _ _ _ h => h); (next => rfl); (next => intro w hSw; (try dsimp only at hSw); go_simp; (try (with_reducible rfl)))) | (refine tkN (i := 4) (oi := ?_) ?_ (by kernel_rfl) ?_ ?_ (by assumption) ?_; rotate_left 1; (next => simp only [tka, tkb, tkc]; rfl); (next => exact fun _ _ _ h => h); (next => rfl))); (try simp only [Act.put, tkd, tke, tkf]); (first | (refine tkY (i := 5) (oi := ?_) (v := ?_) ?_ (by kernel_rfl) ?_ ?_ ?_ (by assumption) ?_; rotate_left 2; (next => simp only [tka, tkb, tkc]; rfl); (next => exact fun _ _ _ h => h); (next => rfl); (next => intro w hSw; (try dsimp only at hSw); go_simp; (try (with_reducible rfl)))) | (refine tkN (i := 5) (oi := ?_) ?_ (by kernel_rfl) ?_ ?_ (by assumption) ?_; rotate_left 1; (next => simp only [tka, tkb, tkc]; rfl); (next => exact fun _ _ _ h => h); (next => rfl))); (try simp only [Act.put, tkd, tke, tkf]); (first | (refine tkY (i := 6) (oi := ?_) (v := ?_) ?_ (by kernel_rfl) ?_ ?_ ?_ (by assumption) ?_; rotate_left 2; (next => simp only [tka, tkb, tkc]; rfl); (next => exact fun _ _ _ h => h); (next => rfl); (next => intro w hSw; (try dsimp only at hSw); go_simp; (try (with_reducible rfl)))) | (refine tkN (i := 6) (oi := ?_) ?_ (by kernel_rfl) ?_ ?_ (by assumption) ?_; rotate_left 1; (next => simp only [tka, tkb, tkc]; rfl); (next => exact fun _ _ _ h => h); (next => rfl))); (try simp only [Act.put, tkd, tke, tkf]); (first | (refine tkY (i := 7) (oi := ?_) (v := ?_) ?_ (by kernel_rfl) ?_ ?_ ?_ (by assumption) ?_; rotate_left 2; (next => simp only [tka, tkb, tkc]; rfl); (next => exact fun _ _ _ h => h); (next => rfl); (next => intro w hSw; (try dsimp only at hSw); go_simp; (try (with_reducible rfl)))) | (refine tkN (i := 7) (oi := ?_) ?_ (by kernel_rfl) ?_ ?_ (by assumption) ?_; rotate_left 1; (next => simp only [tka, tkb, tkc]; rfl); (next => exact fun _ _ _ h => h); (next => rfl))); (try simp only [Act.put, tkd, tke, tkf]); (first | (refine tkY (i := 8) (oi := ?_) (v := ?_) ?_ (by kernel_rfl) ?_ ?_ ?_ (by assumption) ?_; rotate_left 2; (next => simp only [tka, tkb, tkc]; rfl); (next => exact fun _ _ _ h => h); (next => rfl); (next => intro w hSw; (try dsimp only at hSw); go_simp; (try (with_reducible rfl)))) | (refine tkN (i := 8) (oi := ?_) ?_ (by kernel_rfl) ?_ ?_ (by assumption) ?_; rotate_left 1; (next => simp only [tka, tkb, tkc]; rfl); (next => exact fun _ _ _ h => h); (next => rfl))); (try simp only [Act.put, tkd, tke, tkf]); (first | (refine tkY (i := 9) (oi := ?_) (v := ?_) ?_ (by kernel_rfl) ?_ ?_ ?_ (by assumption) ?_; rotate_left 2; (next => simp only [tka, tkb, tkc]; rfl); (next => exact fun _ _ _ h => h); (next => rfl); (next => intro w hSw; (try dsimp only at hSw); go_simp; (try (with_reducible rfl)))) | (refine tkN (i := 9) (oi := ?_) ?_ (by kernel_rfl) ?_ ?_ (by assumption) ?_; rotate_left 1; (next => simp only [tka, tkb, tkc]; rfl); (next => exact fun _ _ _ h => h); (next => rfl))); (try simp only [Act.put, tkd, tke, tkf]); (first | (refine tkY (i := 10) (oi := ?_) (v := ?_) ?_ (by kernel_rfl) ?_ ?_ ?_ (by assumption) ?_; rotate_left 2; (next => simp only [tka, tkb, tkc]; rfl); (next => exact fun _ _ _ h => h); (next => rfl); (next => intro w hSw; (try dsimp only at hSw); go_simp; (try (with_reducible rfl)))) | (refine tkN (i := 10) (oi := ?_) ?_ (by kernel_rfl) ?_ ?_ (by assumption) ?_; rotate_left 1; (next => simp only [tka, tkb, tkc]; rfl); (next => exact fun _ _ _ h => h); (next => rfl))); (try simp only [Act.put, tkd, tke, tkf])
    (first | (refine tkY (i := 11) (oi := ?_) (v := ?_) ?_ (by kernel_rfl) ?_ ?_ ?_ (by assumption) ?_; rotate_left 2; (next => simp only [tka, tkb, tkc]; rfl); (next => exact fun _ _ _ h => h); (next => rfl); (next => intro w hSw; (try dsimp only at hSw); go_simp; (try (with_reducible rfl)))) | (refine tkN (i := 11) (oi := ?_) ?_ (by kernel_rfl) ?_ ?_ (by assumption) ?_; rotate_left 1; (next => simp only [tka, tkb, tkc]; rfl); (next => exact fun _ _ _ h => h); (next => rfl))); (try simp only [Act.put, tkd, tke, tkf])
    (first | (refine tkY (i := 12) (oi := ?_) (v := ?_) ?_ (by kernel_rfl) ?_ ?_ ?_ (by assumption) ?_; rotate_left 2; (next => simp only [tka, tkb, tkc]; rfl); (next => exact fun _ _ _ h => h); (next => rfl); (next => intro w hSw; (try dsimp only at hSw); go_simp; (try (with_reducible rfl)))) | (refine tkN (i := 12) (oi := ?_) ?_ (by kernel_rfl) ?_ ?_ (by assumption) ?_; rotate_left 1; (next => simp only [tka, tkb, tkc]; rfl); (next => exact fun _ _ _ h => h); (next => rfl))); (try simp only [Act.put, tkd, tke, tkf])
    (first | (refine tkY (i := 13) (oi := ?_) (v := ?_) ?_ (by kernel_rfl) ?_ ?_ ?_ (by assumption) ?_; rotate_left 2; (next => simp only [tka, tkb, tkc]; rfl); (next => exact fun _ _ _ h => h); (next => rfl); (next => intro w hSw; (try dsimp only at hSw); go_simp; (try (with_reducible rfl)))) | (refine tkN (i := 13) (oi := ?_) ?_ (by kernel_rfl) ?_ ?_ (by assumption) ?_; rotate_left 1; (next => simp only [tka, tkb, tkc]; rfl); (next => exact fun _ _ _ h => h); (next => rfl))); (try simp only [Act.put, tkd, tke, tkf])
    refine wpAnyH_done (by kernel_rfl) ?_ _
    go_wp2
    go_ret2
    exact ⟨by rw [O.out]; rfl, bl_drew HB0.out⟩
  · obtain ⟨b, o, rfl, hb0, c0⟩ := hE.at_ (i := E.length - 1) (by omega)
    have FL := frm_last h0
    have g0 : ((E.length : Int) == 0) = false := beq_eq_false_iff_ne.2 (by omega)
    have CAST : ((E.length : Int) - 1) = ((E.length - 1 : Nat) : Int) := by omega
    have wE : IntKind.i64.wrap ((E.length : Int) - 1) = ((E.length - 1 : Nat) : Int) := by rw [← CAST]; exact IntWalk.i64_in _ (by omega)
    have c0 : (w.alloc (.cells #[.slice (some ⟨g, 0, none⟩) L.length c1, .slice (some ⟨gs, 0, none⟩) (L.length + 1) (L.length + 1), .slice (some ⟨gf, 0, none⟩) (L.length + 1) (L.length + 1), .slice (some ⟨gb, 0, none⟩) (L.length + 1) (L.length + 1)] 92)).cell? ⟨b, o + (E.length - 1), none⟩ = _ := keep_alloc c0 _
    obtain ⟨y, hy⟩ : ∃ y, y = ng E (E.length - 1) := ⟨_, rfl⟩
    rw [← hy] at c0 FL
    have hlt : E.length - 1 < E.length := by omega
    have hlt2 : ((E.length - 1 : Nat) : Int) < (E.length : Int) := by omega
    have hlt0 : (0 : Int) ≤ ((E.length - 1 : Nat) : Int) := by omega
    obtain ⟨r, hr⟩ : ∃ r, r = E.length - 1 := ⟨_, rfl⟩
    rw [← hr] at c0 CAST wE hlt hlt2 hlt0
    have wr' : IntKind.i64.wrap (r : Int) = (r : Int) := IntWalk.i64_in _ (by omega)
    obtain ⟨ml, hml⟩ : ∃ m, m = L.length := ⟨_, rfl⟩
    have NO := hide (fun (h : y ≠ (L.length : Int) - 1) => ptO_no (L := L) (E := E) (C := C) (decide_eq_false (by rw [FL]; exact h)))
    have YES := hide (fun (h : y = (L.length : Int) - 1) => ptO_yes (L := L) (E := E) (C := C) (decide_eq_true (by rw [FL]; exact h)))
    clear hE hy hr FL hml
    have hl1000 : L.length ≤ 1000 := by omega
    by_cases hq : y = (L.length : Int) - 1
    · have O := hide (YES.out hq)
      have g1 : (y != (L.length : Int) - 1) = false := by simp [hq]
      have g2 : (y == (L.length : Int) - 1) = true := by simp [hq]
      clear YES NO hq h0
      go_enter Try.func81, Try.ntmps81
      go_upto_region 1 with fail
      refine wp_region_held_drew (S := fun u : World => u.cell? ⟨w.heap.size, 0, none⟩ = some (.slice (some ⟨g, 0, none⟩) L.length c1) ∧ u.cell? ⟨w.heap.size, 1, none⟩ = some (.slice (some ⟨gs, 0, none⟩) (L.length + 1) (L.length + 1)) ∧ u.cell? ⟨w.heap.size, 2, none⟩ = some (.slice (some ⟨gf, 0, none⟩) (L.length + 1) (L.length + 1)) ∧ u.cell? ⟨w.heap.size, 3, none⟩ = some (.slice (some ⟨gb, 0, none⟩) (L.length + 1) (L.length + 1)) ∧ u.cell? ⟨b, o + r, none⟩ = some (.int .i64 y)) (by kernel_rfl) (by first | (simp [go_sem, *]; done) | exact ⟨k0, k1, k2, k3, c0⟩) (fun hHeld => ?_)
      (first | (refine tkY (i := 0) (oi := ?_) (v := ?_) ?_ (by kernel_rfl) ?_ ?_ ?_ (by assumption) ?_; rotate_left 2; (next => simp only [tka, tkb, tkc]; rfl); (next => exact fun _ _ _ h => h); (next => rfl); (next => intro w hSw; (try dsimp only at hSw); go_simp; (try (with_reducible rfl)))) | (refine tkN (i := 0) (oi := ?_) ?_ (by kernel_rfl) ?_ ?_ (by assumption) ?_; rotate_left 1; (next => simp only [tka, tkb, tkc]; rfl); (next => exact fun _ _ _ h => h); (next => rfl))); (try simp only [Act.put, tkd, tke, tkf]); (first | (refine tkY (i := 1) (oi := ?_) (v := ?_) ?_ (by kernel_rfl) ?_ ?_ ?_ (by assumption) ?_; rotate_left 2; (next => simp only [tka, tkb, tkc]; rfl); (next => exact fun _ _ _ h => h); (next => rfl); (next => intro w hSw; (try dsimp only at hSw); go_simp; (try (with_reducible rfl)))) | (refine tkN (i := 1) (oi := ?_) ?_ (by kernel_rfl) ?_ ?_ (by assumption) ?_; rotate_left 1; (next => simp only [tka, tkb, tkc]; rfl); (next => exact fun _ _ _ h => h); (next => rfl))); (try simp only [Act.put, tkd, tke, tkf]); (first | (refine tkY (i := 2) (oi := ?_) (v := ?_) ?_ (by kernel_rfl) ?_ ?_ ?_ (by assumption) ?_; rotate_left 2; (next => simp only [tka, tkb, tkc]; rfl); (next => exact fun _ _ _ h => h); (next => rfl); (next => intro w hSw; (try dsimp only at hSw); go_simp; (try (with_reducible rfl)))) | (refine tkN (i := 2) (oi := ?_) ?_ (by kernel_rfl) ?_ ?_ (by assumption) ?_; rotate_left 1; (next => simp only [tka, tkb, tkc]; rfl); (next => exact fun _ _ _ h => h); (next => rfl))); (try simp only [Act.put, tkd, tke, tkf]); (first | (refine tkY (i := 3) (oi := ?_) (v := ?_) ?_ (by kernel_rfl) ?_ ?_ ?_ (by assumption) ?_; rotate_left 2; (next => simp only [tka, tkb, tkc]; rfl); (next => exact fun _ _ _ h => h); (next => rfl); (next => intro w hSw; (try dsimp only at hSw); go_simp; (try (with_reducible rfl)))) | (refine tkN (i := 3) (oi := ?_) ?_ (by kernel_rfl) ?_ ?_ (by assumption) ?_; rotate_left 1; (next => simp only [tka, tkb, tkc]; rfl); (next => exact fun _ _ _ h => h); (next => rfl))); (try simp only [Act.put, tkd, tke, tkf]); (first | (refine tkY (i := 4) (oi := ?_) (v := ?_) ?_ (by kernel_rfl) ?_ ?_ ?_ (by assumption) ?_; rotate_left 2; (next => simp only [tka, tkb, tkc]; rfl); (next => exact fun _ _ _ h => h); (next => rfl); (next => intro w hSw; (try dsimp only at hSw); go_simp; (try (with_reducible rfl)))) | (refine tkN (i := 4) (oi := ?_) ?_ (by kernel_rfl) ?_ ?_ (by assumption) ?_; rotate_left 1; (next => simp only [tka, tkb, tkc]; rfl); (next => exact fun _ _ _ h => h); (next => rfl))); (try simp only [Act.put, tkd, tke, tkf]); (first | (refine tkY (i := 5) (oi := ?_) (v := ?_) ?_ (by kernel_rfl) ?_ ?_ ?_ (by assumption) ?_; rotate_left 2; (next => simp only [tka, tkb, tkc]; rfl); (next => exact fun _ _ _ h => h); (next => rfl); (next => intro w hSw; (try dsimp only at hSw); go_simp; (try (with_reducible rfl)))) | (refine tkN (i := 5) (oi := ?_) ?_ (by kernel_rfl) ?_ ?_ (by assumption) ?_; rotate_left 1; (next => simp only [tka, tkb, tkc]; rfl); (next => exact fun _ _ _ h => h); (next => rfl))); (try simp only [Act.put, tkd, tke, tkf]); (first | (refine tkY (i := 6) (oi := ?_) (v := ?_) ?_ (by kernel_rfl) ?_ ?_ ?_ (by assumption) ?_; rotate_left 2; (next => simp only [tka, tkb, tkc]; rfl); (next => exact fun _ _ _ h => h); (next => rfl); (next => intro w hSw; (try dsimp only at hSw); go_simp; (try (with_reducible rfl)))) | (refine tkN (i := 6) (oi := ?_) ?_ (by kernel_rfl) ?_ ?_ (by assumption) ?_; rotate_left 1; (next => simp only [tka, tkb, tkc]; rfl); (next => exact fun _ _ _ h => h); (next => rfl))); (try simp only [Act.put, tkd, tke, tkf]); (first | (refine tkY (i := 7) (oi := ?_) (v := ?_) ?_ (by kernel_rfl) ?_ ?_ ?_ (by assumption) ?_; rotate_left 2; (next => simp only [tka, tkb, tkc]; rfl); (next => exact fun _ _ _ h => h); (next => rfl); (next => intro w hSw; (try dsimp only at hSw); go_simp; (try (with_reducible rfl)))) | (refine tkN (i := 7) (oi := ?_) ?_ (by kernel_rfl) ?_ ?_ (by assumption) ?_; rotate_left 1; (next => simp only [tka, tkb, tkc]; rfl); (next => exact fun _ _ _ h => h); (next => rfl))); (try simp only [Act.put, tkd, tke, tkf]); (first | (refine tkY (i := 8) (oi := ?_) (v := ?_) ?_ (by kernel_rfl) ?_ ?_ ?_ (by assumption) ?_; rotate_left 2; (next => simp only [tka, tkb, tkc]; rfl); (next => exact fun _ _ _ h => h); (next => rfl); (next => intro w hSw; (try dsimp only at hSw); go_simp; (try (with_reducible rfl)))) | (refine tkN (i := 8) (oi := ?_) ?_ (by kernel_rfl) ?_ ?_ (by assumption) ?_; rotate_left 1; (next => simp only [tka, tkb, tkc]; rfl); (next => exact fun _ _ _ h => h); (next => rfl))); (try simp only [Act.put, tkd, tke, tkf]); (first | (refine tkY (i := 9) (oi := ?_) (v := ?_) ?_ (by kernel_rfl) ?_ ?_ ?_ (by assumption) ?_; rotate_left 2; (next => simp only [tka, tkb, tkc]; rfl); (next => exact fun _ _ _ h => h); (next => rfl); (next => intro w hSw; (try dsimp only at hSw); go_simp; (try (with_reducible rfl)))) | (refine tkN (i := 9) (oi := ?_) ?_ (by kernel_rfl) ?_ ?_ (by assumption) ?_; rotate_left 1; (next => simp only [tka, tkb, tkc]; rfl); (next => exact fun _ _ _ h => h); (next => rfl))); (try simp only [Act.put, tkd, tke, tkf]); (first | (refine tkY (i := 10) (oi := ?_) (v := ?_) ?_ (by kernel_rfl) ?_ ?_ ?_ (by assumption) ?_; rotate_left 2; (next => simp only [tka, tkb, tkc]; rfl); (next => exact fun _ _ _ h => h); (next => rfl); (next => intro w hSw; (try dsimp only at hSw); go_simp; (try (with_reducible rfl)))) | (refine tkN (i := 10) (oi := ?_) ?_ (by kernel_rfl) ?_ ?_ (by assumption) ?_; rotate_left 1; (next => simp only [tka, tkb, tkc]; rfl); (next => exact fun _ _ _ h => h); (next => rfl))); (try simp only [Act.put, tkd, tke, tkf])
      refine wpAnyH_ready (rs := [11]) (by kernel_rfl) (by simp) ?_; refine AllReadyH.cons (o := ?_) ?_ (fun K hK => ?_) AllReadyH.nil; rotate_left 1; (next => simp only [List.getElem?_toArray, List.getElem?_cons_succ, List.getElem?_cons_zero]; rfl); go_simp
      go_at_call 120
      (with_reducible refine (last_i _ _ _ _ hl1000).mono ?_)
      rintro e u1 ⟨rfl, hb⟩
      (try (with_reducible have hb := bl_undrew hb))
      have k0 := keep_cell hb k0; have k1 := keep_cell hb k1; have k2 := keep_cell hb k2; have k3 := keep_cell hb k3
      have c0 := keep_cell hb c0
      have HB1 := hide (bl_call hb HB0.out)
      clear hb
      (try go_wp2_with fail); refine hK.out _ _ (⟨k0, k1, k2, k3, c0⟩) (fun hHeld => ?_); clear hK K; (try simp only [Act.put, List.setIfInBounds_toArray, List.set_cons_zero, List.set_cons_succ])
      (first | (refine tkY (i := 12) (oi := ?_) (v := ?_) ?_ (by kernel_rfl) ?_ ?_ ?_ (by assumption) ?_; rotate_left 2; (next => simp only [tka, tkb, tkc]; rfl); (next => exact fun _ _ _ h => h); (next => rfl); (next => intro w hSw; (try dsimp only at hSw); go_simp; (try (with_reducible rfl)))) | (refine tkN (i := 12) (oi := ?_) ?_ (by kernel_rfl) ?_ ?_ (by assumption) ?_; rotate_left 1; (next => simp only [tka, tkb, tkc]; rfl); (next => exact fun _ _ _ h => h); (next => rfl))); (try simp only [Act.put, tkd, tke, tkf])
      (first | (refine tkY (i := 13) (oi := ?_) (v := ?_) ?_ (by kernel_rfl) ?_ ?_ ?_ (by assumption) ?_; rotate_left 2; (next => simp only [tka, tkb, tkc]; rfl); (next => exact fun _ _ _ h => h); (next => rfl); (next => intro w hSw; (try dsimp only at hSw); go_simp; (try (with_reducible rfl)))) | (refine tkN (i := 13) (oi := ?_) ?_ (by kernel_rfl) ?_ ?_ (by assumption) ?_; rotate_left 1; (next => simp only [tka, tkb, tkc]; rfl); (next => exact fun _ _ _ h => h); (next => rfl))); (try simp only [Act.put, tkd, tke, tkf])
      refine wpAnyH_done (by kernel_rfl) ?_ _
      go_wp2_with fail
      (with_reducible refine (HTT.out _ HB1.out).mono ?_)
      rintro e u2 ⟨rfl, hb⟩
      have HB2 := hide (bl_call hb HB1.out)
      clear hb k0 k1 k2 k3 c0
      go_wp2
      go_ret2
      exact ⟨by rw [O.out]; first | done | rfl, HB2.out⟩
    · have O := hide (NO.out hq)
      have g1 : (y != (L.length : Int) - 1) = true := by simp [hq]
      have g2 : (y == (L.length : Int) - 1) = false := by simp [hq]
      clear YES NO hq h0
      go_enter Try.func81, Try.ntmps81
      go_upto_region 1 with fail
      refine wp_region_held_drew (S := fun u : World => u.cell? ⟨w.heap.size, 0, none⟩ = some (.slice (some ⟨g, 0, none⟩) L.length c1) ∧ u.cell? ⟨w.heap.size, 1, none⟩ = some (.slice (some ⟨gs, 0, none⟩) (L.length + 1) (L.length + 1)) ∧ u.cell? ⟨w.heap.size, 2, none⟩ = some (.slice (some ⟨gf, 0, none⟩) (L.length + 1) (L.length + 1)) ∧ u.cell? ⟨w.heap.size, 3, none⟩ = some (.slice (some ⟨gb, 0, none⟩) (L.length + 1) (L.length + 1)) ∧ u.cell? ⟨b, o + r, none⟩ = some (.int .i64 y)) (by kernel_rfl) (by first | (simp [go_sem, *]; done) | exact ⟨k0, k1, k2, k3, c0⟩) (fun hHeld => ?_)
      (first | (refine tkY (i := 0) (oi := ?_) (v := ?_) ?_ (by kernel_rfl) ?_ ?_ ?_ (by assumption) ?_; rotate_left 2; (next => simp only [tka, tkb, tkc]; rfl); (next => exact fun _ _ _ h => h); (next => rfl); (next => intro w hSw; (try dsimp only at hSw); go_simp; (try (with_reducible rfl)))) | (refine tkN (i := 0) (oi := ?_) ?_ (by kernel_rfl) ?_ ?_ (by assumption) ?_; rotate_left 1; (next => simp only [tka, tkb, tkc]; rfl); (next => exact fun _ _ _ h => h); (next => rfl))); (try simp only [Act.put, tkd, tke, tkf]); (first | (refine tkY (i := 1) (oi := ?_) (v := ?_) ?_ (by kernel_rfl) ?_ ?_ ?_ (by assumption) ?_; rotate_left 2; (next => simp only [tka, tkb, tkc]; rfl); (next => exact fun _ _ _ h => h); (next => rfl); (next => intro w hSw; (try dsimp only at hSw); go_simp; (try (with_reducible rfl)))) | (refine tkN (i := 1) (oi := ?_) ?_ (by kernel_rfl) ?_ ?_ (by assumption) ?_; rotate_left 1; (next => simp only [tka, tkb, tkc]; rfl); (next => exact fun _ _ _ h => h); (next => rfl))); (try simp only [Act.put, tkd, tke, tkf]); (first | (refine tkY (i := 2) (oi := ?_) (v := ?_) ?_ (by kernel_rfl) ?_ ?_ ?_ (by assumption) ?_; rotate_left 2; (next => simp only [tka, tkb, tkc]; rfl); (next => exact fun _ _ _ h => h); (next => rfl); (next => intro w hSw; (try dsimp only at hSw); go_simp; (try (with_reducible rfl)))) | (refine tkN (i := 2) (oi := ?_) ?_ (by kernel_rfl) ?_ ?_ (by assumption) ?_; rotate_left 1; (next => simp only [tka, tkb, tkc]; rfl); (next => exact fun _ _ _ h => h); (next => rfl))); (try simp only [Act.put, tkd, tke, tkf]); (first | (refine tkY (i := 3) (oi := ?_) (v := ?_) ?_ (by kernel_rfl) ?_ ?_ ?_ (by assumption) ?_; rotate_left 2; (next => simp only [tka, tkb, tkc]; rfl); (next => exact fun _ _ _ h => h); (next => rfl); (next => intro w hSw; (try dsimp only at hSw); go_simp; (try (with_reducible rfl)))) | (refine tkN (i := 3) (oi := ?_) ?_ (by kernel_rfl) ?_ ?_ (by assumption) ?_; rotate_left 1; (next => simp only [tka, tkb, tkc]; rfl); (next => exact fun _ _ _ h => h); (next => rfl))); (try simp only [Act.put, tkd, tke, tkf]); (first | (refine tkY (i := 4) (oi := ?_) (v := ?_) ?_ (by kernel_rfl) ?_ ?_ ?_ (by assumption) ?_; rotate_left 2; (next => simp only [tka, tkb, tkc]; rfl); (next => exact fun _ _ _ h => h); (next => rfl); (next => intro w hSw; (try dsimp only at hSw); go_simp; (try (with_reducible rfl)))) | (refine tkN (i := 4) (oi := ?_) ?_ (by kernel_rfl) ?_ ?_ (by assumption) ?_; rotate_left 1; (next => simp only [tka, tkb, tkc]; rfl); (next => exact fun _ _ _ h => h); (next => rfl))); (try simp only [Act.put, tkd, tke, tkf]); (first | (refine tkY (i := 5) (oi := ?_) (v := ?_) ?_ (by kernel_rfl) ?_ ?_ ?_ (by assumption) ?_; rotate_left 2; (next => simp only [tka, tkb, tkc]; rfl); (next => exact fun _ _ _ h => h); (next => rfl); (next => intro w hSw; (try dsimp only at hSw); go_simp; (try (with_reducible rfl)))) | (refine tkN (i := 5) (oi := ?_) ?_ (by kernel_rfl) ?_ ?_ (by assumption) ?_; rotate_left 1; (next => simp only [tka, tkb, tkc]; rfl); (next => exact fun _ _ _ h => h); (next => rfl))); (try simp only [Act.put, tkd, tke, tkf]); (first | (refine tkY (i := 6) (oi := ?_) (v := ?_) ?_ (by kernel_rfl) ?_ ?_ ?_ (by assumption) ?_; rotate_left 2; (next => simp only [tka, tkb, tkc]; rfl); (next => exact fun _ _ _ h => h); (next => rfl); (next => intro w hSw; (try dsimp only at hSw); go_simp; (try (with_reducible rfl)))) | (refine tkN (i := 6) (oi := ?_) ?_ (by kernel_rfl) ?_ ?_ (by assumption) ?_; rotate_left 1; (next => simp only [tka, tkb, tkc]; rfl); (next => exact fun _ _ _ h => h); (next => rfl))); (try simp only [Act.put, tkd, tke, tkf]); (first | (refine tkY (i := 7) (oi := ?_) (v := ?_) ?_ (by kernel_rfl) ?_ ?_ ?_ (by assumption) ?_; rotate_left 2; (next => simp only [tka, tkb, tkc]; rfl); (next => exact fun _ _ _ h => h); (next => rfl); (next => intro w hSw; (try dsimp only at hSw); go_simp; (try (with_reducible rfl)))) | (refine tkN (i := 7) (oi := ?_) ?_ (by kernel_rfl) ?_ ?_ (by assumption) ?_; rotate_left 1; (next => simp only [tka, tkb, tkc]; rfl); (next => exact fun _ _ _ h => h); (next => rfl))); (try simp only [Act.put, tkd, tke, tkf]); (first | (refine tkY (i := 8) (oi := ?_) (v := ?_) ?_ (by kernel_rfl) ?_ ?_ ?_ (by assumption) ?_; rotate_left 2; (next => simp only [tka, tkb, tkc]; rfl); (next => exact fun _ _ _ h => h); (next => rfl); (next => intro w hSw; (try dsimp only at hSw); go_simp; (try (with_reducible rfl)))) | (refine tkN (i := 8) (oi := ?_) ?_ (by kernel_rfl) ?_ ?_ (by assumption) ?_; rotate_left 1; (next => simp only [tka, tkb, tkc]; rfl); (next => exact fun _ _ _ h => h); (next => rfl))); (try simp only [Act.put, tkd, tke, tkf]); (first | (refine tkY (i := 9) (oi := ?_) (v := ?_) ?_ (by kernel_rfl) ?_ ?_ ?_ (by assumption) ?_; rotate_left 2; (next => simp only [tka, tkb, tkc]; rfl); (next => exact fun _ _ _ h => h); (next => rfl); (next => intro w hSw; (try dsimp only at hSw); go_simp; (try (with_reducible rfl)))) | (refine tkN (i := 9) (oi := ?_) ?_ (by kernel_rfl) ?_ ?_ (by assumption) ?_; rotate_left 1; (next => simp only [tka, tkb, tkc]; rfl); (next => exact fun _ _ _ h => h); (next => rfl))); (try simp only [Act.put, tkd, tke, tkf]); (first | (refine tkY (i := 10) (oi := ?_) (v := ?_) ?_ (by kernel_rfl) ?_ ?_ ?_ (by assumption) ?_; rotate_left 2; (next => simp only [tka, tkb, tkc]; rfl); (next => exact fun _ _ _ h => h); (next => rfl); (next => intro w hSw; (try dsimp only at hSw); go_simp; (try (with_reducible rfl)))) | (refine tkN (i := 10) (oi := ?_) ?_ (by kernel_rfl) ?_ ?_ (by assumption) ?_; rotate_left 1; (next => simp only [tka, tkb, tkc]; rfl); (next => exact fun _ _ _ h => h); (next => rfl))); (try simp only [Act.put, tkd, tke, tkf])
      refine wpAnyH_ready (rs := [11]) (by kernel_rfl) (by simp) ?_; refine AllReadyH.cons (o := ?_) ?_ (fun K hK => ?_) AllReadyH.nil; rotate_left 1; (next => simp only [List.getElem?_toArray, List.getElem?_cons_succ, List.getElem?_cons_zero]; rfl); go_simp
      go_at_call 120
      (with_reducible refine (last_i _ _ _ _ hl1000).mono ?_)
      rintro e u1 ⟨rfl, hb⟩
      (try (with_reducible have hb := bl_undrew hb))
      have k0 := keep_cell hb k0; have k1 := keep_cell hb k1; have k2 := keep_cell hb k2; have k3 := keep_cell hb k3
      have c0 := keep_cell hb c0
      have HB1 := hide (bl_call hb HB0.out)
      clear hb
      (try go_wp2_with fail); refine hK.out _ _ (⟨k0, k1, k2, k3, c0⟩) (fun hHeld => ?_); clear hK K; (try simp only [Act.put, List.setIfInBounds_toArray, List.set_cons_zero, List.set_cons_succ])
      (first | (refine tkY (i := 12) (oi := ?_) (v := ?_) ?_ (by kernel_rfl) ?_ ?_ ?_ (by assumption) ?_; rotate_left 2; (next => simp only [tka, tkb, tkc]; rfl); (next => exact fun _ _ _ h => h); (next => rfl); (next => intro w hSw; (try dsimp only at hSw); go_simp; (try (with_reducible rfl)))) | (refine tkN (i := 12) (oi := ?_) ?_ (by kernel_rfl) ?_ ?_ (by assumption) ?_; rotate_left 1; (next => simp only [tka, tkb, tkc]; rfl); (next => exact fun _ _ _ h => h); (next => rfl))); (try simp only [Act.put, tkd, tke, tkf])
      (first | (refine tkY (i := 13) (oi := ?_) (v := ?_) ?_ (by kernel_rfl) ?_ ?_ ?_ (by assumption) ?_; rotate_left 2; (next => simp only [tka, tkb, tkc]; rfl); (next => exact fun _ _ _ h => h); (next => rfl); (next => intro w hSw; (try dsimp only at hSw); go_simp; (try (with_reducible rfl)))) | (refine tkN (i := 13) (oi := ?_) ?_ (by kernel_rfl) ?_ ?_ (by assumption) ?_; rotate_left 1; (next => simp only [tka, tkb, tkc]; rfl); (next => exact fun _ _ _ h => h); (next => rfl))); (try simp only [Act.put, tkd, tke, tkf])
      refine wpAnyH_done (by kernel_rfl) ?_ _
      go_wp2
      go_ret2
      exact ⟨by rw [O.out]; rfl, HB1.out⟩
set_option maxRecDepth 8000 in
set_option maxHeartbeats 4000000 in
theorem ptotal_div (w : World) {B gp g c1 gs gf gb : Nat} (L : List It) (hps : PS w B gp g c1 gs gf gb L) (h1 : 1 ≤ L.length ∧ L.length ≤ 60) (A : Option Addr) (m c : Nat) (E : List Int) (hE : IL w A m E) (hm : m ≤ 1048576) (C : Nat → Int → Int → Int × Bool) (qs : Array Value)
    (HT : ∀ u, Below w.heap.size w u → Calls Try.prog 127 #[.int .i64 (-1), .slice A E.length c, .func (.func 125) #[] qs] u fun e w' => e = .returned (.tuple #[.int .i64 (toO (-1) E C).1, .bool (toO (-1) E C).2]) ∧ Below u.heap.size u w') :
    Calls Try.prog 81 #[.agg #[.slice (some ⟨g, 0, none⟩) L.length c1, .slice (some ⟨gs, 0, none⟩) (L.length + 1) (L.length + 1), .slice (some ⟨gf, 0, none⟩) (L.length + 1) (L.length + 1), .slice (some ⟨gb, 0, none⟩) (L.length + 1) (L.length + 1)], .slice A m c, .func (.func 125) #[] qs] w fun e w' => e = .returned (.tuple #[.int .i64 (ptO L E C).1, .bool (ptO L E C).2]) ∧ Below w.heap.size w w' := by
  obtain rfl : m = E.length := hE.1
  have HP := hide hps.copy
  have k0 := HP.out.k0
  have k1 := HP.out.k1
  have k2 := HP.out.k2
  have k3 := HP.out.k3
  have HB0 := hide (bl_alloc (bl_refl w) (.cells #[.slice (some ⟨g, 0, none⟩) L.length c1, .slice (some ⟨gs, 0, none⟩) (L.length + 1) (L.length + 1), .slice (some ⟨gf, 0, none⟩) (L.length + 1) (L.length + 1), .slice (some ⟨gb, 0, none⟩) (L.length + 1) (L.length + 1)] 92))
  have HTT := hide HT
  clear hps HT
  rcases Nat.eq_zero_or_pos E.length with h0 | h0
  · have O := hide (ptO_no (L := L) (E := E) (C := C) (by rw [List.eq_nil_of_length_eq_zero h0]; exact endB_nil h1.1))
    have g0 : ((E.length : Int) == 0) = true := beq_iff_eq.2 (by omega)
    clear hE h0
    go_enter Try.func81, Try.ntmps81
    go_upto_region 1 with fail
    refine wp_region_held_drew (S := fun u : World => u.cell? ⟨w.heap.size, 0, none⟩ = some (.slice (some ⟨g, 0, none⟩) L.length c1) ∧ u.cell? ⟨w.heap.size, 1, none⟩ = some (.slice (some ⟨gs, 0, none⟩) (L.length + 1) (L.length + 1)) ∧ u.cell? ⟨w.heap.size, 2, none⟩ = some (.slice (some ⟨gf, 0, none⟩) (L.length + 1) (L.length + 1)) ∧ u.cell? ⟨w.heap.size, 3, none⟩ = some (.slice (some ⟨gb, 0, none⟩) (L.length + 1) (L.length + 1))) (by kernel_rfl) (by first | (simp [go_sem, *]; done) | exact ⟨k0, k1, k2, k3⟩) (fun hHeld => ?_)
    (first | (refine tkY (i := 0) (oi := ?_) (v := ?_) ?_ (by kernel_rfl) ?_ ?_ ?_ (by assumption) ?_; rotate_left 2; (next => simp only [tka, tkb, tkc]; rfl); (next => exact fun _ _ _ h => h); (next => rfl); (next => intro w hSw; (try dsimp only at hSw); go_simp; (try (with_reducible rfl)))) | (refine tkN (i := 0) (oi := ?_) ?_ (by kernel_rfl) ?_ ?_ (by assumption) ?_; rotate_left 1; (next => simp only [tka, tkb, tkc]; rfl); (next => exact fun _ _ _ h => h); (next => rfl))); (try simp only [Act.put, tkd, tke, tkf]); (first | (refine tkY (i := 1) (oi := ?_) (v := ?_) ?_ (by kernel_rfl) ?_ ?_ ?_ (by assumption) ?_; rotate_left 2; (next => simp only [tka, tkb, tkc]; rfl); (next => exact fun _ _ _ h => h); (next => rfl); (next => intro w hSw; (try dsimp only at hSw); go_simp; (try (with_reducible rfl)))) | (refine tkN (i := 1) (oi := ?_) ?_ (by kernel_rfl) ?_ ?_ (by assumption) ?_; rotate_left 1; (next => simp only [tka, tkb, tkc]; rfl); (next => exact fun _ _ _ h => h); (next => rfl))); (try simp only [Act.put, tkd, tke, tkf]); (first | (refine tkY (i := 2) (oi := ?_) (v := ?_) ?_ (by kernel_rfl) ?_ ?_ ?_ (by assumption) ?_; rotate_left 2; (next => simp only [tka, tkb, tkc]; rfl); (next => exact fun _ _ _ h => h); (next => rfl); (next => intro w hSw; (try dsimp only at hSw); go_simp; (try (with_reducible rfl)))) | (refine tkN (i := 2) (oi := ?_) ?_ (by kernel_rfl) ?_ ?_ (by assumption) ?_; rotate_left 1; (next => simp only [tka, tkb, tkc]; rfl); (next => exact fun _ _ _ h => h); (next => rfl))); (try simp only [Act.put, tkd, tke, tkf]); (first | (refine tkY (i := 3) (oi := ?_) (v := ?_) ?_ (by kernel_rfl) ?_ ?_ ?_ (by assumption) ?_; rotate_left 2; (next => simp only [tka, tkb, tkc]; rfl); (next => exact fun _ _ _ h => h); (next => rfl); (next => intro w hSw; (try dsimp only at hSw); go_simp; (try (with_reducible rfl)))) | (refine tkN (i := 3) (oi := ?_) ?_ (by kernel_rfl) ?_ ?_ (by assumption) ?_; rotate_left 1; (next => simp only [tka, tkb, tkc]; rfl); (next => exact fun _ _ _ h => h); (next => rfl))); (try simp only [Act.put, tkd, tke, tkf]); (first | (refine tkY (i := 4) (oi := ?_) (v := ?_) ?_ (by kernel_rfl) ?_ ?_ ?_ (by assumption) ?_; rotate_left 2; (next => simp only [tka, tkb, tkc]; rfl); (next => exact fun _ _ _ h => h); (next => rfl); (next => intro w hSw; (try dsimp only at hSw); go_simp; (try (with_reducible rfl)))) | (refine tkN (i := 4) (oi := ?_) ?_ (by kernel_rfl) ?_ ?_ (by assumption) ?_; rotate_left 1; (next => simp only [tka, tkb, tkc]; rfl); (next => exact fun _ _ _ h => h); (next => rfl))); (try simp only [Act.put, tkd, tke, tkf]); (first | (refine tkY (i := 5) (oi := ?_) (v := ?_) ?_ (by kernel_rfl) ?_ ?_ ?_ (by assumption) ?_; rotate_left 2; (next => simp only [tka, tkb, tkc]; rfl); (next => exact fun _ _ _ h => h); (next => rfl); (next => intro w hSw; (try dsimp only at hSw); go_simp; (try (with_reducible rfl)))) | (refine tkN (i := 5) (oi := ?_) ?_ (by kernel_rfl) ?_ ?_ (by assumption) ?_; rotate_left 1; (next => simp only [tka, tkb, tkc]; rfl); (next => exact fun _ _ _ h => h); (next => rfl))); (try simp only [Act.put, tkd, tke, tkf]); (first | (refine tkY (i := 6) (oi := ?_) (v := ?_) ?_ (by kernel_rfl) ?_ ?_ ?_ (by assumption) ?_; rotate_left 2; (next => simp only [tka, tkb, tkc]; rfl); (next => exact fun _ _ _ h => h); (next => rfl); (next => intro w hSw; (try dsimp only at hSw); go_simp; (try (with_reducible rfl)))) | (refine tkN (i := 6) (oi := ?_) ?_ (by kernel_rfl) ?_ ?_ (by assumption) ?_; rotate_left 1; (next => simp only [tka, tkb, tkc]; rfl); (next => exact fun _ _ _ h => h); (next => rfl))); (try simp only [Act.put, tkd, tke, tkf]); (first | (refine tkY (i := 7) (oi := ?_) (v := ?_) ?_ (by kernel_rfl) ?_ ?_ ?_ (by assumption) ?_; rotate_left 2; (next => simp only [tka, tkb, tkc]; rfl); (next => exact fun _ _ _ h => h); (next => rfl); (next => intro w hSw; (try dsimp only at hSw); go_simp; (try (with_reducible rfl)))) | (refine tkN (i := 7) (oi := ?_) ?_ (by kernel_rfl) ?_ ?_ (by assumption) ?_; rotate_left 1; (next => simp only [tka, tkb, tkc]; rfl); (next => exact fun _ _ _ h => h); (next => rfl))); (try simp only [Act.put, tkd, tke, tkf]); (first | (refine tkY (i := 8) (oi := ?_) (v := ?_) ?_ (by kernel_rfl) ?_ ?_ ?_ (by assumption) ?_; rotate_left 2; (next => simp only [tka, tkb, tkc]; rfl); (next => exact fun _ _ _ h => h); (next => rfl); (next => intro w hSw; (try dsimp only at hSw); go_simp; (try (with_reducible rfl)))) | (refine tkN (i := 8) (oi := ?_) ?_ (by kernel_rfl) ?_ ?_ (by assumption) ?_; rotate_left 1; (next => simp only [tka, tkb, tkc]; rfl); (next => exact fun _ _ _ h => h); (next => rfl))); (try simp only [Act.put, tkd, tke, tkf]); (first | (refine tkY (i := 9) (oi := ?_) (v := ?_) ?_ (by kernel_rfl) ?_ ?_ ?_ (by assumption) ?_; rotate_left 2; (next => simp only [tka, tkb, tkc]; rfl); (next => exact fun _ _ _ h => h); (next => rfl); (next => intro w hSw; (try dsimp only at hSw); go_simp; (try (with_reducible rfl)))) | (refine tkN (i := 9) (oi := ?_) ?_ (by kernel_rfl) ?_ ?_ (by assumption) ?_; rotate_left 1; (next => simp only [tka, tkb, tkc]; rfl); (next => exact fun _ _ _ h => h); (next => rfl))); (try simp only [Act.put, tkd, tke, tkf]); (first | (refine tkY (i := 10) (oi := ?_) (v := ?_) ?_ (by kernel_rfl) ?_ ?_ ?_ (by assumption) ?_; rotate_left 2; (next => simp only [tka, tkb, tkc]; rfl); (next => exact fun _ _ _ h => h); (next => rfl); (next => intro w hSw; (try dsimp only at hSw); go_simp; (try (with_reducible rfl)))) | (refine tkN (i := 10) (oi := ?_) ?_ (by kernel_rfl) ?_ ?_ (by assumption) ?_; rotate_left 1; (next => simp only [tka, tkb, tkc]; rfl); (next => exact fun _ _ _ h => h); (next => rfl))); (try simp only [Act.put, tkd, tke, tkf])
    (first | (refine tkY (i := 11) (oi := ?_) (v := ?_) ?_ (by kernel_rfl) ?_ ?_ ?_ (by assumption) ?_; rotate_left 2; (next => simp only [tka, tkb, tkc]; rfl); (next => exact fun _ _ _ h => h); (next => rfl); (next => intro w hSw; (try dsimp only at hSw); go_simp; (try (with_reducible rfl)))) | (refine tkN (i := 11) (oi := ?_) ?_ (by kernel_rfl) ?_ ?_ (by assumption) ?_; rotate_left 1; (next => simp only [tka, tkb, tkc]; rfl); (next => exact fun _ _ _ h => h); (next => rfl))); (try simp only [Act.put, tkd, tke, tkf])
    (first | (refine tkY (i := 12) (oi := ?_) (v := ?_) ?_ (by kernel_rfl) ?_ ?_ ?_ (by assumption) ?_; rotate_left 2; (next => simp only [tka, tkb, tkc]; rfl); (next => exact fun _ _ _ h => h); (next => rfl); (next => intro w hSw; (try dsimp only at hSw); go_simp; (try (with_reducible rfl)))) | (refine tkN (i := 12) (oi := ?_) ?_ (by kernel_rfl) ?_ ?_ (by assumption) ?_; rotate_left 1; (next => simp only [tka, tkb, tkc]; rfl); (next => exact fun _ _ _ h => h); (next => rfl))); (try simp only [Act.put, tkd, tke, tkf])
    (first | (refine tkY (i := 13) (oi := ?_) (v := ?_) ?_ (by kernel_rfl) ?_ ?_ ?_ (by assumption) ?_; rotate_left 2; (next => simp only [tka, tkb, tkc]; rfl); (next => exact fun _ _ _ h => h); (next => rfl); (next => intro w hSw; (try dsimp only at hSw); go_simp; (try (with_reducible rfl)))) | (refine tkN (i := 13) (oi := ?_) ?_ (by kernel_rfl) ?_ ?_ (by assumption) ?_; rotate_left 1; (next => simp only [tka, tkb, tkc]; rfl); (next => exact fun _ _ _ h => h); (next => rfl))); (try simp only [Act.put, tkd, tke, tkf])
    refine wpAnyH_done (by kernel_rfl) ?_ _
    go_wp2
    go_ret2
    exact ⟨by rw [O.out]; rfl, bl_drew HB0.out⟩
  · obtain ⟨b, o, rfl, hb0, c0⟩ := hE.at_ (i := E.length - 1) (by omega)
    have FL := frm_last h0
    have g0 : ((E.length : Int) == 0) = false := beq_eq_false_iff_ne.2 (by omega)
    have CAST : ((E.length : Int) - 1) = ((E.length - 1 : Nat) : Int) := by omega
    have wE : IntKind.i64.wrap ((E.length : Int) - 1) = ((E.length - 1 : Nat) : Int) := by rw [← CAST]; exact IntWalk.i64_in _ (by omega)
    have c0 : (w.alloc (.cells #[.slice (some ⟨g, 0, none⟩) L.length c1, .slice (some ⟨gs, 0, none⟩) (L.length + 1) (L.length + 1), .slice (some ⟨gf, 0, none⟩) (L.length + 1) (L.length + 1), .slice (some ⟨gb, 0, none⟩) (L.length + 1) (L.length + 1)] 92)).cell? ⟨b, o + (E.length - 1), none⟩ = _ := keep_alloc c0 _
    obtain ⟨y, hy⟩ : ∃ y, y = ng E (E.length - 1) := ⟨_, rfl⟩
    rw [← hy] at c0 FL
    have hlt : E.length - 1 < E.length := by omega
    have hlt2 : ((E.length - 1 : Nat) : Int) < (E.length : Int) := by omega
    have hlt0 : (0 : Int) ≤ ((E.length - 1 : Nat) : Int) := by omega
    obtain ⟨r, hr⟩ : ∃ r, r = E.length - 1 := ⟨_, rfl⟩
    rw [← hr] at c0 CAST wE hlt hlt2 hlt0
    have wr' : IntKind.i64.wrap (r : Int) = (r : Int) := IntWalk.i64_in _ (by omega)
    obtain ⟨ml, hml⟩ : ∃ m, m = L.length := ⟨_, rfl⟩
    have NO := hide (fun (h : y ≠ (L.length : Int) - 1) => ptO_no (L := L) (E := E) (C := C) (decide_eq_false (by rw [FL]; exact h)))
    have YES := hide (fun (h : y = (L.length : Int) - 1) => ptO_yes (L := L) (E := E) (C := C) (decide_eq_true (by rw [FL]; exact h)))
    clear hE hy hr FL hml
    have hl1000 : L.length ≤ 1000 := by omega
    by_cases hq : y = (L.length : Int) - 1
    · have O := hide (YES.out hq)
      have g1 : (y != (L.length : Int) - 1) = false := by simp [hq]
      have g2 : (y == (L.length : Int) - 1) = true := by simp [hq]
      clear YES NO hq h0
      go_enter Try.func81, Try.ntmps81
      go_upto_region 1 with fail
      refine wp_region_held_drew (S := fun u : World => u.cell? ⟨w.heap.size, 0, none⟩ = some (.slice (some ⟨g, 0, none⟩) L.length c1) ∧ u.cell? ⟨w.heap.size, 1, none⟩ = some (.slice (some ⟨gs, 0, none⟩) (L.length + 1) (L.length + 1)) ∧ u.cell? ⟨w.heap.size, 2, none⟩ = some (.slice (some ⟨gf, 0, none⟩) (L.length + 1) (L.length + 1)) ∧ u.cell? ⟨w.heap.size, 3, none⟩ = some (.slice (some ⟨gb, 0, none⟩) (L.length + 1) (L.length + 1)) ∧ u.cell? ⟨b, o + r, none⟩ = some (.int .i64 y)) (by kernel_rfl) (by first | (simp [go_sem, *]; done) | exact ⟨k0, k1, k2, k3, c0⟩) (fun hHeld => ?_)
      (first | (refine tkY (i := 0) (oi := ?_) (v := ?_) ?_ (by kernel_rfl) ?_ ?_ ?_ (by assumption) ?_; rotate_left 2; (next => simp only [tka, tkb, tkc]; rfl); (next => exact fun _ _ _ h => h); (next => rfl); (next => intro w hSw; (try dsimp only at hSw); go_simp; (try (with_reducible rfl)))) | (refine tkN (i := 0) (oi := ?_) ?_ (by kernel_rfl) ?_ ?_ (by assumption) ?_; rotate_left 1; (next => simp only [tka, tkb, tkc]; rfl); (next => exact fun _ _ _ h => h); (next => rfl))); (try simp only [Act.put, tkd, tke, tkf]); (first | (refine tkY (i := 1) (oi := ?_) (v := ?_) ?_ (by kernel_rfl) ?_ ?_ ?_ (by assumption) ?_; rotate_left 2; (next => simp only [tka, tkb, tkc]; rfl); (next => exact fun _ _ _ h => h); (next => rfl); (next => intro w hSw; (try dsimp only at hSw); go_simp; (try (with_reducible rfl)))) | (refine tkN (i := 1) (oi := ?_) ?_ (by kernel_rfl) ?_ ?_ (by assumption) ?_; rotate_left 1; (next => simp only [tka, tkb, tkc]; rfl); (next => exact fun _ _ _ h => h); (next => rfl))); (try simp only [Act.put, tkd, tke, tkf]); (first | (refine tkY (i := 2) (oi := ?_) (v := ?_) ?_ (by kernel_rfl) ?_ ?_ ?_ (by assumption) ?_; rotate_left 2; (next => simp only [tka, tkb, tkc]; rfl); (next => exact fun _ _ _ h => h); (next => rfl); (next => intro w hSw; (try dsimp only at hSw); go_simp; (try (with_reducible rfl)))) | (refine tkN (i := 2) (oi := ?_) ?_ (by kernel_rfl) ?_ ?_ (by assumption) ?_; rotate_left 1; (next => simp only [tka, tkb, tkc]; rfl); (next => exact fun _ _ _ h => h); (next => rfl))); (try simp only [Act.put, tkd, tke, tkf]); (first | (refine tkY (i := 3) (oi := ?_) (v := ?_) ?_ (by kernel_rfl) ?_ ?_ ?_ (by assumption) ?_; rotate_left 2; (next => simp only [tka, tkb, tkc]; rfl); (next => exact fun _ _ _ h => h); (next => rfl); (next => intro w hSw; (try dsimp only at hSw); go_simp; (try (with_reducible rfl)))) | (refine tkN (i := 3) (oi := ?_) ?_ (by kernel_rfl) ?_ ?_ (by assumption) ?_; rotate_left 1; (next => simp only [tka, tkb, tkc]; rfl); (next => exact fun _ _ _ h => h); (next => rfl))); (try simp only [Act.put, tkd, tke, tkf]); (first | (refine tkY (i := 4) (oi := ?_) (v := ?_) ?_ (by kernel_rfl) ?_ ?_ ?_ (by assumption) ?_; rotate_left 2; (next => simp only [tka, tkb, tkc]; rfl); (next => exact fun _ _ _ h => h); (next => rfl); (next => intro w hSw; (try dsimp only at hSw); go_simp; (try (with_reducible rfl)))) | (refine tkN (i := 4) (oi := ?_) ?_ (by kernel_rfl) ?_ ?_ (by assumption) ?_; rotate_left 1; (next => simp only [tka, tkb, tkc]; rfl); (next => exact fun _ _ _ h => h); (next => rfl))); (try simp only [Act.put, tkd, tke, tkf]); (first | (refine tkY (i := 5) (oi := ?_) (v := ?_) ?_ (by kernel_rfl) ?_ ?_ ?_ (by assumption) ?_; rotate_left 2; (next => simp only [tka, tkb, tkc]; rfl); (next => exact fun _ _ _ h => h); (next => rfl); (next => intro w hSw; (try dsimp only at hSw); go_simp; (try (with_reducible rfl)))) | (refine tkN (i := 5) (oi := ?_) ?_ (by kernel_rfl) ?_ ?_ (by assumption) ?_; rotate_left 1; (next => simp only [tka, tkb, tkc]; rfl); (next => exact fun _ _ _ h => h); (next => rfl))); (try simp only [Act.put, tkd, tke, tkf]); (first | (refine tkY (i := 6) (oi := ?_) (v := ?_) ?_ (by kernel_rfl) ?_ ?_ ?_ (by assumption) ?_; rotate_left 2; (next => simp only [tka, tkb, tkc]; rfl); (next => exact fun _ _ _ h => h); (next => rfl); (next => intro w hSw; (try dsimp only at hSw); go_simp; (try (with_reducible rfl)))) | (refine tkN (i := 6) (oi := ?_) ?_ (by kernel_rfl) ?_ ?_ (by assumption) ?_; rotate_left 1; (next => simp only [tka, tkb, tkc]; rfl); (next => exact fun _ _ _ h => h); (next => rfl))); (try simp only [Act.put, tkd, tke, tkf]); (first | (refine tkY (i := 7) (oi := ?_) (v := ?_) ?_ (by kernel_rfl) ?_ ?_ ?_ (by assumption) ?_; rotate_left 2; (next => simp only [tka, tkb, tkc]; rfl); (next => exact fun _ _ _ h => h); (next => rfl); (next => intro w hSw; (try dsimp only at hSw); go_simp; (try (with_reducible rfl)))) | (refine tkN (i := 7) (oi := ?_) ?_ (by kernel_rfl) ?_ ?_ (by assumption) ?_; rotate_left 1; (next => simp only [tka, tkb, tkc]; rfl); (next => exact fun _ _ _ h => h); (next => rfl))); (try simp only [Act.put, tkd, tke, tkf]); (first | (refine tkY (i := 8) (oi := ?_) (v := ?_) ?_ (by kernel_rfl) ?_ ?_ ?_ (by assumption) ?_; rotate_left 2; (next => simp only [tka, tkb, tkc]; rfl); (next => exact fun _ _ _ h => h); (next => rfl); (next => intro w hSw; (try dsimp only at hSw); go_simp; (try (with_reducible rfl)))) | (refine tkN (i := 8) (oi := ?_) ?_ (by kernel_rfl) ?_ ?_ (by assumption) ?_; rotate_left 1; (next => simp only [tka, tkb, tkc]; rfl); (next => exact fun _ _ _ h => h); (next => rfl))); (try simp only [Act.put, tkd, tke, tkf]); (first | (refine tkY (i := 9) (oi := ?_) (v := ?_) ?_ (by kernel_rfl) ?_ ?_ ?_ (by assumption) ?_; rotate_left 2; (next => simp only [tka, tkb, tkc]; rfl); (next => exact fun _ _ _ h => h); (next => rfl); (next => intro w hSw; (try dsimp only at hSw); go_simp; (try (with_reducible rfl)))) | (refine tkN (i := 9) (oi := ?_) ?_ (by kernel_rfl) ?_ ?_ (by assumption) ?_; rotate_left 1; (next => simp only [tka, tkb, tkc]; rfl); (next => exact fun _ _ _ h => h); (next => rfl))); (try simp only [Act.put, tkd, tke, tkf]); (first | (refine tkY (i := 10) (oi := ?_) (v := ?_) ?_ (by kernel_rfl) ?_ ?_ ?_ (by assumption) ?_; rotate_left 2; (next => simp only [tka, tkb, tkc]; rfl); (next => exact fun _ _ _ h => h); (next => rfl); (next => intro w hSw; (try dsimp only at hSw); go_simp; (try (with_reducible rfl)))) | (refine tkN (i := 10) (oi := ?_) ?_ (by kernel_rfl) ?_ ?_ (by assumption) ?_; rotate_left 1; (next => simp only [tka, tkb, tkc]; rfl); (next => exact fun _ _ _ h => h); (next => rfl))); (try simp only [Act.put, tkd, tke, tkf])
      refine wpAnyH_ready (rs := [11]) (by kernel_rfl) (by simp) ?_; refine AllReadyH.cons (o := ?_) ?_ (fun K hK => ?_) AllReadyH.nil; rotate_left 1; (next => simp only [List.getElem?_toArray, List.getElem?_cons_succ, List.getElem?_cons_zero]; rfl); go_simp
      go_at_call 120
      (with_reducible refine (last_i _ _ _ _ hl1000).mono ?_)
      rintro e u1 ⟨rfl, hb⟩
      (try (with_reducible have hb := bl_undrew hb))
      have k0 := keep_cell hb k0; have k1 := keep_cell hb k1; have k2 := keep_cell hb k2; have k3 := keep_cell hb k3
      have c0 := keep_cell hb c0
      have HB1 := hide (bl_call hb HB0.out)
      clear hb
      (try go_wp2_with fail); refine hK.out _ _ (⟨k0, k1, k2, k3, c0⟩) (fun hHeld => ?_); clear hK K; (try simp only [Act.put, List.setIfInBounds_toArray, List.set_cons_zero, List.set_cons_succ])
      (first | (refine tkY (i := 12) (oi := ?_) (v := ?_) ?_ (by kernel_rfl) ?_ ?_ ?_ (by assumption) ?_; rotate_left 2; (next => simp only [tka, tkb, tkc]; rfl); (next => exact fun _ _ _ h => h); (next => rfl); (next => intro w hSw; (try dsimp only at hSw); go_simp; (try (with_reducible rfl)))) | (refine tkN (i := 12) (oi := ?_) ?_ (by kernel_rfl) ?_ ?_ (by assumption) ?_; rotate_left 1; (next => simp only [tka, tkb, tkc]; rfl); (next => exact fun _ _ _ h => h); (next => rfl))); (try simp only [Act.put, tkd, tke, tkf])
      (first | (refine tkY (i := 13) (oi := ?_) (v := ?_) ?_ (by kernel_rfl) ?_ ?_ ?_ (by assumption) ?_; rotate_left 2; (next => simp only [tka, tkb, tkc]; rfl); (next => exact fun _ _ _ h => h); (next => rfl); (next => intro w hSw; (try dsimp only at hSw); go_simp; (try (with_reducible rfl)))) | (refine tkN (i := 13) (oi := ?_) ?_ (by kernel_rfl) ?_ ?_ (by assumption) ?_; rotate_left 1; (next => simp only [tka, tkb, tkc]; rfl); (next => exact fun _ _ _ h => h); (next => rfl))); (try simp only [Act.put, tkd, tke, tkf])
      refine wpAnyH_done (by kernel_rfl) ?_ _
      go_wp2_with fail
      (with_reducible refine (HTT.out _ HB1.out).mono ?_)
      rintro e u2 ⟨rfl, hb⟩
      have HB2 := hide (bl_call hb HB1.out)
      clear hb k0 k1 k2 k3 c0
      go_wp2
      go_ret2
      exact ⟨by rw [O.out]; first | done | rfl, HB2.out⟩
    · have O := hide (NO.out hq)
      have g1 : (y != (L.length : Int) - 1) = true := by simp [hq]
      have g2 : (y == (L.length : Int) - 1) = false := by simp [hq]
      clear YES NO hq h0
      go_enter Try.func81, Try.ntmps81
      go_upto_region 1 with fail
      refine wp_region_held_drew (S := fun u : World => u.cell? ⟨w.heap.size, 0, none⟩ = some (.slice (some ⟨g, 0, none⟩) L.length c1) ∧ u.cell? ⟨w.heap.size, 1, none⟩ = some (.slice (some ⟨gs, 0, none⟩) (L.length + 1) (L.length + 1)) ∧ u.cell? ⟨w.heap.size, 2, none⟩ = some (.slice (some ⟨gf, 0, none⟩) (L.length + 1) (L.length + 1)) ∧ u.cell? ⟨w.heap.size, 3, none⟩ = some (.slice (some ⟨gb, 0, none⟩) (L.length + 1) (L.length + 1)) ∧ u.cell? ⟨b, o + r, none⟩ = some (.int .i64 y)) (by kernel_rfl) (by first | (simp [go_sem, *]; done) | exact ⟨k0, k1, k2, k3, c0⟩) (fun hHeld => ?_)
      (first | (refine tkY (i := 0) (oi := ?_) (v := ?_) ?_ (by kernel_rfl) ?_ ?_ ?_ (by assumption) ?_; rotate_left 2; (next => simp only [tka, tkb, tkc]; rfl); (next => exact fun _ _ _ h => h); (next => rfl); (next => intro w hSw; (try dsimp only at hSw); go_simp; (try (with_reducible rfl)))) | (refine tkN (i := 0) (oi := ?_) ?_ (by kernel_rfl) ?_ ?_ (by assumption) ?_; rotate_left 1; (next => simp only [tka, tkb, tkc]; rfl); (next => exact fun _ _ _ h => h); (next => rfl))); (try simp only [Act.put, tkd, tke, tkf]); (first | (refine tkY (i := 1) (oi := ?_) (v := ?_) ?_ (by kernel_rfl) ?_ ?_ ?_ (by assumption) ?_; rotate_left 2; (next => simp only [tka, tkb, tkc]; rfl); (next => exact fun _ _ _ h => h); (next => rfl); (next => intro w hSw; (try dsimp only at hSw); go_simp; (try (with_reducible rfl)))) | (refine tkN (i := 1) (oi := ?_) ?_ (by kernel_rfl) ?_ ?_ (by assumption) ?_; rotate_left 1; (next => simp only [tka, tkb, tkc]; rfl); (next => exact fun _ _ _ h => h); (next => rfl))); (try simp only [Act.put, tkd, tke, tkf]); (first | (refine tkY (i := 2) (oi := ?_) (v := ?_) ?_ (by kernel_rfl) ?_ ?_ ?_ (by assumption) ?_; rotate_left 2; (next => simp only [tka, tkb, tkc]; rfl); (next => exact fun _ _ _ h => h); (next => rfl); (next => intro w hSw; (try dsimp only at hSw); go_simp; (try (with_reducible rfl)))) | (refine tkN (i := 2) (oi := ?_) ?_ (by kernel_rfl) ?_ ?_ (by assumption) ?_; rotate_left 1; (next => simp only [tka, tkb, tkc]; rfl); (next => exact fun _ _ _ h => h); (next => rfl))); (try simp only [Act.put, tkd, tke, tkf]); (first | (refine tkY (i := 3) (oi := ?_) (v := ?_) ?_ (by kernel_rfl) ?_ ?_ ?_ (by assumption) ?_; rotate_left 2; (next => simp only [tka, tkb, tkc]; rfl); (next => exact fun _ _ _ h => h); (next => rfl); (next => intro w hSw; (try dsimp only at hSw); go_simp; (try (with_reducible rfl)))) | (refine tkN (i := 3) (oi := ?_) ?_ (by kernel_rfl) ?_ ?_ (by assumption) ?_; rotate_left 1; (next => simp only [tka, tkb, tkc]; rfl); (next => exact fun _ _ _ h => h); (next => rfl))); (try simp only [Act.put, tkd, tke, tkf]); (first | (refine tkY (i := 4) (oi := ?_) (v := ?_) ?_ (by kernel_rfl) ?_ ?_ ?_ (by assumption) ?_; rotate_left 2; (next => simp only [tka, tkb, tkc]; rfl); (next => exact fun _ _ _ h => h); (next => rfl); (next => intro w hSw; (try dsimp only at hSw); go_simp; (try (with_reducible rfl)))) | (refine tkN (i := 4) (oi := ?_) ?_ (by kernel_rfl) ?_ ?_ (by assumption) ?_; rotate_left 1; (next => simp only [tka, tkb, tkc]; rfl); (next => exact fun _ _ _ h => h); (next => rfl))); (try simp only [Act.put, tkd, tke, tkf]); (first | (refine tkY (i := 5) (oi := ?_) (v := ?_) ?_ (by kernel_rfl) ?_ ?_ ?_ (by assumption) ?_; rotate_left 2; (next => simp only [tka, tkb, tkc]; rfl); (next => exact fun _ _ _ h => h); (next => rfl); (next => intro w hSw; (try dsimp only at hSw); go_simp; (try (with_reducible rfl)))) | (refine tkN (i := 5) (oi := ?_) ?_ (by kernel_rfl) ?_ ?_ (by assumption) ?_; rotate_left 1; (next => simp only [tka, tkb, tkc]; rfl); (next => exact fun _ _ _ h => h); (next => rfl))); (try simp only [Act.put, tkd, tke, tkf]); (first | (refine tkY (i := 6) (oi := ?_) (v := ?_) ?_ (by kernel_rfl) ?_ ?_ ?_ (by assumption) ?_; rotate_left 2; (next => simp only [tka, tkb, tkc]; rfl); (next => exact fun _ _ _ h => h); (next => rfl); (next => intro w hSw; (try dsimp only at hSw); go_simp; (try (with_reducible rfl)))) | (refine tkN (i := 6) (oi := ?_) ?_ (by kernel_rfl) ?_ ?_ (by assumption) ?_; rotate_left 1; (next => simp only [tka, tkb, tkc]; rfl); (next => exact fun _ _ _ h => h); (next => rfl))); (try simp only [Act.put, tkd, tke, tkf]); (first | (refine tkY (i := 7) (oi := ?_) (v := ?_) ?_ (by kernel_rfl) ?_ ?_ ?_ (by assumption) ?_; rotate_left 2; (next => simp only [tka, tkb, tkc]; rfl); (next => exact fun _ _ _ h => h); (next => rfl); (next => intro w hSw; (try dsimp only at hSw); go_simp; (try (with_reducible rfl)))) | (refine tkN (i := 7) (oi := ?_) ?_ (by kernel_rfl) ?_ ?_ (by assumption) ?_; rotate_left 1; (next => simp only [tka, tkb, tkc]; rfl); (next => exact fun _ _ _ h => h); (next => rfl))); (try simp only [Act.put, tkd, tke, tkf]); (first | (refine tkY (i := 8) (oi := ?_) (v := ?_) ?_ (by kernel_rfl) ?_ ?_ ?_ (by assumption) ?_; rotate_left 2; (next => simp only [tka, tkb, tkc]; rfl); (next => exact fun _ _ _ h => h); (next => rfl); (next => intro w hSw; (try dsimp only at hSw); go_simp; (try (with_reducible rfl)))) | (refine tkN (i := 8) (oi := ?_) ?_ (by kernel_rfl) ?_ ?_ (by assumption) ?_; rotate_left 1; (next => simp only [tka, tkb, tkc]; rfl); (next => exact fun _ _ _ h => h); (next => rfl))); (try simp only [Act.put, tkd, tke, tkf]); (first | (refine tkY (i := 9) (oi := ?_) (v := ?_) ?_ (by kernel_rfl) ?_ ?_ ?_ (by assumption) ?_; rotate_left 2; (next => simp only [tka, tkb, tkc]; rfl); (next => exact fun _ _ _ h => h); (next => rfl); (next => intro w hSw; (try dsimp only at hSw); go_simp; (try (with_reducible rfl)))) | (refine tkN (i := 9) (oi := ?_) ?_ (by kernel_rfl) ?_ ?_ (by assumption) ?_; rotate_left 1; (next => simp only [tka, tkb, tkc]; rfl); (next => exact fun _ _ _ h => h); (next => rfl))); (try simp only [Act.put, tkd, tke, tkf]); (first | (refine tkY (i := 10) (oi := ?_) (v := ?_) ?_ (by kernel_rfl) ?_ ?_ ?_ (by assumption) ?_; rotate_left 2; (next => simp only [tka, tkb, tkc]; rfl); (next => exact fun _ _ _ h => h); (next => rfl); (next => intro w hSw; (try dsimp only at hSw); go_simp; (try (with_reducible rfl)))) | (refine tkN (i := 10) (oi := ?_) ?_ (by kernel_rfl) ?_ ?_ (by assumption) ?_; rotate_left 1; (next => simp only [tka, tkb, tkc]; rfl); (next => exact fun _ _ _ h => h); (next => rfl))); (try simp only [Act.put, tkd, tke, tkf])
      refine wpAnyH_ready (rs := [11]) (by kernel_rfl) (by simp) ?_; refine AllReadyH.cons (o := ?_) ?_ (fun K hK => ?_) AllReadyH.nil; rotate_left 1; (next => simp only [List.getElem?_toArray, List.getElem?_cons_succ, List.getElem?_cons_zero]; rfl); go_simp
      go_at_call 120
      (with_reducible refine (last_i _ _ _ _ hl1000).mono ?_)
      rintro e u1 ⟨rfl, hb⟩
      (try (with_reducible have hb := bl_undrew hb))
      have k0 := keep_cell hb k0; have k1 := keep_cell hb k1; have k2 := keep_cell hb k2; have k3 := keep_cell hb k3
      have c0 := keep_cell hb c0
      have HB1 := hide (bl_call hb HB0.out)
      clear hb
      (try go_wp2_with fail); refine hK.out _ _ (⟨k0, k1, k2, k3, c0⟩) (fun hHeld => ?_); clear hK K; (try simp only [Act.put, List.setIfInBounds_toArray, List.set_cons_zero, List.set_cons_succ])
      (first | (refine tkY (i := 12) (oi := ?_) (v := ?_) ?_ (by kernel_rfl) ?_ ?_ ?_ (by assumption) ?_; rotate_left 2; (next => simp only [tka, tkb, tkc]; rfl); (next => exact fun _ _ _ h => h); (next => rfl); (next => intro w hSw; (try dsimp only at hSw); go_simp; (try (with_reducible rfl)))) | (refine tkN (i := 12) (oi := ?_) ?_ (by kernel_rfl) ?_ ?_ (by assumption) ?_; rotate_left 1; (next => simp only [tka, tkb, tkc]; rfl); (next => exact fun _ _ _ h => h); (next => rfl))); (try simp only [Act.put, tkd, tke, tkf])
      (first | (refine tkY (i := 13) (oi := ?_) (v := ?_) ?_ (by kernel_rfl) ?_ ?_ ?_ (by assumption) ?_; rotate_left 2; (next => simp only [tka, tkb, tkc]; rfl); (next => exact fun _ _ _ h => h); (next => rfl); (next => intro w hSw; (try dsimp only at hSw); go_simp; (try (with_reducible rfl)))) | (refine tkN (i := 13) (oi := ?_) ?_ (by kernel_rfl) ?_ ?_ (by assumption) ?_; rotate_left 1; (next => simp only [tka, tkb, tkc]; rfl); (next => exact fun _ _ _ h => h); (next => rfl))); (try simp only [Act.put, tkd, tke, tkf])
      refine wpAnyH_done (by kernel_rfl) ?_ _
      go_wp2
      go_ret2
      exact ⟨by rw [O.out]; rfl, HB1.out⟩
set_option maxRecDepth 8000 in
set_option maxHeartbeats 4000000 in
theorem divides_i (w : World) {B gp g c1 gs gf gb : Nat} (L : List It) (hps : PS w B gp g c1 gs gf gb L) (hall : ∀ i, i < L.length → itOk (tg L i) = true) (h1 : 1 ≤ L.length ∧ L.length ≤ 60) (A : Option Addr) (m c : Nat) (E : List Int) (hE : IL w A m E) (hm : m ≤ 1048576) (hwf : okW E) :
    Calls Try.prog 78 #[.agg #[.slice (some ⟨g, 0, none⟩) L.length c1, .slice (some ⟨gs, 0, none⟩) (L.length + 1) (L.length + 1), .slice (some ⟨gf, 0, none⟩) (L.length + 1) (L.length + 1), .slice (some ⟨gb, 0, none⟩) (L.length + 1) (L.length + 1)], .slice A m c] w fun e w' => e = .returned (.bool (ptO L E (fun _ a b => (0, hasL L a b))).2) ∧ Below w.heap.size w w' := by
  obtain rfl : m = E.length := hE.1
  have HP := hide hps.copy
  have k0 := HP.out.k0
  have k1 := HP.out.k1
  have k2 := HP.out.k2
  have k3 := HP.out.k3
  have HB0 := hide (bl_alloc (bl_refl w) (.cells #[.slice (some ⟨g, 0, none⟩) L.length c1, .slice (some ⟨gs, 0, none⟩) (L.length + 1) (L.length + 1), .slice (some ⟨gf, 0, none⟩) (L.length + 1) (L.length + 1), .slice (some ⟨gb, 0, none⟩) (L.length + 1) (L.length + 1)] 92))
  have PT := hide (ptotal_div (w.alloc (.cells #[.slice (some ⟨g, 0, none⟩) L.length c1, .slice (some ⟨gs, 0, none⟩) (L.length + 1) (L.length + 1), .slice (some ⟨gf, 0, none⟩) (L.length + 1) (L.length + 1), .slice (some ⟨gb, 0, none⟩) (L.length + 1) (L.length + 1)] 92)) L HP.out h1 A E.length c E (hE.alloc _) hm (fun _ a b => (0, hasL L a b)) #[.pointer (some ⟨w.heap.size, 0, none⟩)] (fun u hu => total_div u A c E ((hE.alloc _).below hu) hm (-1) (fun _ a b => (0, hasL L a b)) (.pointer (some ⟨w.heap.size, 0, none⟩)) (fun _ _ _ => by simp) (fun v hv i x => div1_i v L ((HP.out.below hu).below hv) hall h1 i _ _ (frm_wf hwf (by have := x.isLt; omega)) (hwf _ x.isLt))))
  obtain ⟨r, hr⟩ : ∃ r, r = ptO L E (fun _ a b => (0, hasL L a b)) := ⟨_, rfl⟩
  rw [← hr] at PT ⊢
  obtain ⟨r1, r2⟩ := r
  clear hps hE hwf hall hr
  go_enter Try.func78, Try.ntmps78
  go_wp2_with fail
  (with_reducible refine PT.out.mono ?_)
  rintro e u2 ⟨rfl, hb⟩
  have HB2 := hide (bl_call hb HB0.out)
  clear hb k0 k1 k2 k3
  go_wp2
  go_ret
  exact ⟨rfl, HB2.out⟩
set_option maxRecDepth 8000 in
set_option maxHeartbeats 4000000 in
theorem ValidBreaks_i (w : World) (A B : Option Addr) (n c m c' : Nat) (L : List It) (E : List Int) (h : TL w A n L) (hn : n ≤ 1048576) (hE : IL w B m E) (hm : m ≤ 1048576) (hwf : okW E) :
    Calls Try.prog 39 #[.slice A n c, .slice B m c'] w fun e w' => e = .returned (.bool (vbO L E)) ∧ Below w.heap.size w w' := by
  have ME := hide (measure_i w A n c L h (by omega))
  obtain rfl : n = L.length := h.1
  have HE := hide hE
  rw [vbO_eq]
  clear h hE
  cases hok : isOk L
  · have O := hide (cbV_no (L := L) (E := E) (C := fun _ a b => (0, hasL L a b)) (by rw [hok]; rfl))
    rw [hok] at ME
    clear hok
    go_enter Try.func39, Try.ntmps39
    go_wp2_with fail
    (with_reducible refine ME.out.mono ?_)
    rintro e u1 ⟨v, rfl, hv, hv0, hb⟩
    obtain rfl := hv0 (by trivial)
    have HB1 := hide hb
    clear hv hv0 hb
    go_wp2
    go_ret
    exact ⟨by rw [O.out]; rfl, bl_alloc HB1.out _⟩
  · have HK := isOk_iff.1 hok
    have HALL := hide HK.1
    have hl60 := HK.2.1
    rw [hok] at ME
    rw [cbV_ok hok]
    obtain ⟨r, hr⟩ : ∃ r, r = ptO L E (fun _ a b => (0, hasL L a b)) := ⟨_, rfl⟩
    have HR := hide hr
    rw [← hr]
    clear HK hok hr
    go_enter Try.func39, Try.ntmps39
    go_wp2_with fail
    (with_reducible refine ME.out.mono ?_)
    rintro e u1 ⟨v, rfl, hv, hv0, hb⟩
    obtain ⟨g, c1, gs, gf, gb, rfl, hrow, hpr⟩ := hv (by trivial)
    have HPS := hide (ps_made hrow hpr)
    have HB1 := hide (bl_alloc hb (.cells #[.slice (some ⟨g, 0, none⟩) L.length c1, .slice (some ⟨gs, 0, none⟩) (L.length + 1) (L.length + 1), .slice (some ⟨gf, 0, none⟩) (L.length + 1) (L.length + 1), .slice (some ⟨gb, 0, none⟩) (L.length + 1) (L.length + 1)] 92))
    have HD := hide (divides_i _ L HPS.out HALL.out hl60 B m c' E (HE.out.below HB1.out) hm hwf)
    rw [← HR.out] at HD
    clear hv hv0 hb hrow hpr
    have k0 := HPS.out.k0
    have k1 := HPS.out.k1
    have k2 := HPS.out.k2
    have k3 := HPS.out.k3
    go_wp2_with fail
    (with_reducible refine HD.out.mono ?_)
    rintro e u2 ⟨rfl, hb⟩
    have HB2 := hide (bl_call hb HB1.out)
    clear hb k0 k1 k2 k3
    go_wp2
    go_ret
    exact ⟨rfl, HB2.out⟩
set_option maxRecDepth 8000 in
set_option maxHeartbeats 4000000 in
theorem CheckBreaks_i (w : World) (A B : Option Addr) (n c m c' : Nat) (L : List It) (E : List Int) (d t : Int) (h : TL w A n L) (hn : n ≤ 1048576) (hE : IL w B m E) (hm : m ≤ 1048576) (hwf : okW E) :
    Calls Try.prog 41 #[.slice A n c, .int .i64 d, .int .i64 t, .slice B m c'] w fun e w' => e = .returned (.tuple #[.int .i64 (cbO L d t E).1, .bool (cbO L d t E).2]) ∧ Below w.heap.size w w' := by
  have ME := hide (measure_i w A n c L h (by omega))
  obtain rfl : n = L.length := h.1
  obtain rfl : m = E.length := hE.1
  have HE := hide hE
  rw [cbO_eq]
  clear h hE
  cases hok : isOk L
  · have O := hide (cbV_no (L := L) (E := E) (C := fun _ a b => coL L a b d t) (by rw [hok]; rfl))
    rw [hok] at ME
    clear hok
    go_enter Try.func41, Try.ntmps41
    go_wp2_with fail
    (with_reducible refine ME.out.mono ?_)
    rintro e u1 ⟨v, rfl, hv, hv0, hb⟩
    obtain rfl := hv0 (by trivial)
    have HB1 := hide hb
    clear hv hv0 hb
    go_wp2
    go_ret2
    exact ⟨by rw [O.out]; rfl, bl_alloc HB1.out _⟩
  · have HK := isOk_iff.1 hok
    have HALL := hide HK.1
    have hl60 := HK.2.1
    rw [hok] at ME
    rw [cbV_ok hok]
    have CB := hide (fun p q => coL_bd HALL.out p q d t)
    obtain ⟨r, hr⟩ : ∃ r, r = ptO L E (fun _ a b => coL L a b d t) := ⟨_, rfl⟩
    have HR := hide hr
    rw [← hr]
    obtain ⟨r1, r2⟩ := r
    clear HK hok hr
    go_enter Try.func41, Try.ntmps41
    go_wp2_with fail
    (with_reducible refine ME.out.mono ?_)
    rintro e u1 ⟨v, rfl, hv, hv0, hb⟩
    obtain ⟨g, c1, gs, gf, gb, rfl, hrow, hpr⟩ := hv (by trivial)
    have HPS := hide (ps_made hrow hpr)
    have HB1 := hide (bl_alloc hb (.cells #[.slice (some ⟨g, 0, none⟩) L.length c1, .slice (some ⟨gs, 0, none⟩) (L.length + 1) (L.length + 1), .slice (some ⟨gf, 0, none⟩) (L.length + 1) (L.length + 1), .slice (some ⟨gb, 0, none⟩) (L.length + 1) (L.length + 1)] 92))
    clear hv hv0 hb hrow hpr
    have k0 := HPS.out.k0
    have k1 := HPS.out.k1
    have k2 := HPS.out.k2
    have k3 := HPS.out.k3
    go_upto_region 4 with fail
    obtain ⟨W, hW⟩ : ∃ W, W = u1.alloc (.cells #[.slice (some ⟨g, 0, none⟩) L.length c1, .slice (some ⟨gs, 0, none⟩) (L.length + 1) (L.length + 1), .slice (some ⟨gf, 0, none⟩) (L.length + 1) (L.length + 1), .slice (some ⟨gb, 0, none⟩) (L.length + 1) (L.length + 1)] 92) := ⟨_, rfl⟩
    have hp1 : u1.heap.size < W.heap.size := by rw [hW]; simp
    rw [← hW] at HPS HB1 k0 k1 k2 k3
    have PT := hide (fun (u : World) (hu : Below W.heap.size W u) (b2 b3 b4 bw : Nat) (hp : PS u w.heap.size b2 g c1 gs gf gb L) (e3 : u.cell? ⟨b3, 0, none⟩ = some (.func (.func 129) #[] #[.pointer (some ⟨bw, 0, none⟩)])) (e4 : u.cell? ⟨b4, 0, none⟩ = some (.int .i64 t)) (ew : u.cell? ⟨bw, 0, none⟩ = some (.int .i64 d)) =>
      ptotal_lines u L hp hl60 B E.length c' E ((HE.out.below HB1.out).below hu) hm (fun _ a b => coL L a b d t) #[.pointer (some ⟨b2, 0, none⟩), .pointer (some ⟨b3, 0, none⟩), .pointer (some ⟨b4, 0, none⟩)] (fun v hv => by
        exact total_lines v B c' E (((HE.out.below HB1.out).below hu).below hv) hm (-1) (fun _ a b => coL L a b d t) _ _ _ (fun _ p q => by have := CB.out p q; show -8000000000 ≤ (coL L p q d t).1 ∧ (coL L p q d t).1 ≤ 8000000000; omega) (fun y hy i x => lines1_i y L ((hp.below hv).below hy) HALL.out hl60 i _ _ d t (frm_wf hwf (by have := x.isLt; omega)) (hwf _ x.isLt) (keep_cell hy (keep_cell hv e3)) (keep_cell hy (keep_cell hv e4)) (keep_cell hy (keep_cell hv ew)))))
    rw [← HR.out] at PT
    rw [← hW]
    have HWW := hide hW
    clear hW
    have S0 := bl_drew (bl_refl W)
    clear hwf
    refine wp_region_held_drew (S := fun u : World => Below W.heap.size W u) (by kernel_rfl) (S0) (fun hHeld => ?_)
    refine tkY (i := 0) (oi := ?_) (v := ?_) ?_ (by kernel_rfl) ?_ ?_ ?_ (by assumption) ?_; rotate_left 2; (next => simp only [tka, tkb, tkc]; rfl); (next => exact fun _ _ _ h => h); (next => rfl); (next => intro w_ hSw; (try dsimp only at hSw); have k0 := keep_cell hSw k0; have k1 := keep_cell hSw k1; have k2 := keep_cell hSw k2; have k3 := keep_cell hSw k3; go_simp; (try (with_reducible rfl))); (try simp only [Act.put, tkd, tke, tkf])
    (first | (refine tkY (i := 1) (oi := ?_) (v := ?_) ?_ (by kernel_rfl) ?_ ?_ ?_ (by assumption) ?_; rotate_left 2; (next => simp only [tka, tkb, tkc]; rfl); (next => exact fun _ _ _ h => h); (next => rfl); (next => intro w hSw; (try dsimp only at hSw); go_simp; (try (with_reducible rfl)))) | (refine tkN (i := 1) (oi := ?_) ?_ (by kernel_rfl) ?_ ?_ (by assumption) ?_; rotate_left 1; (next => simp only [tka, tkb, tkc]; rfl); (next => exact fun _ _ _ h => h); (next => rfl))); (try simp only [Act.put, tkd, tke, tkf])
    refine tkY (i := 2) (oi := ?_) (v := ?_) ?_ (by kernel_rfl) ?_ ?_ ?_ (by assumption) ?_; rotate_left 2; (next => simp only [tka, tkb, tkc]; rfl); (next => exact fun _ _ _ h => h); (next => rfl); (next => intro w_ hSw; (try dsimp only at hSw); have k0 := keep_cell hSw k0; have k1 := keep_cell hSw k1; have k2 := keep_cell hSw k2; have k3 := keep_cell hSw k3; go_simp; (try (with_reducible rfl))); (try simp only [Act.put, tkd, tke, tkf])
    (first | (refine tkY (i := 3) (oi := ?_) (v := ?_) ?_ (by kernel_rfl) ?_ ?_ ?_ (by assumption) ?_; rotate_left 2; (next => simp only [tka, tkb, tkc]; rfl); (next => exact fun _ _ _ h => h); (next => rfl); (next => intro w hSw; (try dsimp only at hSw); go_simp; (try (with_reducible rfl)))) | (refine tkN (i := 3) (oi := ?_) ?_ (by kernel_rfl) ?_ ?_ (by assumption) ?_; rotate_left 1; (next => simp only [tka, tkb, tkc]; rfl); (next => exact fun _ _ _ h => h); (next => rfl))); (try simp only [Act.put, tkd, tke, tkf])
    (first | (refine tkY (i := 5) (oi := ?_) (v := ?_) ?_ (by kernel_rfl) ?_ ?_ ?_ (by assumption) ?_; rotate_left 2; (next => simp only [tka, tkb, tkc]; rfl); (next => exact fun _ _ _ h => h); (next => rfl); (next => intro w hSw; (try dsimp only at hSw); go_simp; (try (with_reducible rfl)))) | (refine tkN (i := 5) (oi := ?_) ?_ (by kernel_rfl) ?_ ?_ (by assumption) ?_; rotate_left 1; (next => simp only [tka, tkb, tkc]; rfl); (next => exact fun _ _ _ h => h); (next => rfl))); (try simp only [Act.put, tkd, tke, tkf])
    refine wpAnyH_ready (rs := [4]) (by kernel_rfl) (by simp) ?_; refine AllReadyH.cons (o := ?_) ?_ (fun K hK => ?_) AllReadyH.nil; rotate_left 1; (next => simp only [List.getElem?_toArray, List.getElem?_cons_succ, List.getElem?_cons_zero]; rfl); go_simp
    go_at_call 83
    (with_reducible refine (sameWidth_i _ _).mono ?_)
    rintro e w' ⟨rfl, rfl⟩
    (try go_wp2_with fail); refine hK.out _ _ ((by repeat' (first | exact bl_refl _ | refine bl_drew ?_ | refine bl_alloc ?_ _))) (fun hHeld => ?_); clear hK K; (try simp only [Act.put, List.setIfInBounds_toArray, List.set_cons_zero, List.set_cons_succ])
    refine wpAnyH_ready (rs := [6]) (by kernel_rfl) (by simp) ?_; refine AllReadyH.cons (o := ?_) ?_ (fun K hK => ?_) AllReadyH.nil; rotate_left 1; (next => simp only [List.getElem?_toArray, List.getElem?_cons_succ, List.getElem?_cons_zero]; rfl); go_simp
    go_at_call 82
    (with_reducible refine (costBy_i _ _ _ _ _ _ _ _).mono ?_)
    rintro e w' ⟨rfl, rfl⟩
    (try go_wp2_with fail); refine hK.out _ _ ((by repeat' (first | exact bl_refl _ | refine bl_drew ?_ | refine bl_alloc ?_ _))) (fun hHeld => ?_); clear hK K; (try simp only [Act.put, List.setIfInBounds_toArray, List.set_cons_zero, List.set_cons_succ])
    refine wpAnyH_ready (rs := [7]) (by kernel_rfl) (by simp) ?_; refine AllReadyH.cons (o := ?_) ?_ (fun K hK => ?_) AllReadyH.nil; rotate_left 1; (next => simp only [List.getElem?_toArray, List.getElem?_cons_succ, List.getElem?_cons_zero]; rfl); go_simp
    go_at_call 81
    (with_reducible refine (PT.out _ ?_ _ _ _ W.heap.size ?_ ?_ ?_ ?_).mono ?_)
    · exact (by repeat' (first | exact bl_refl _ | refine bl_drew ?_ | refine bl_alloc ?_ _))
    · have h5 := (HPS.out.below (bl_alloc (bl_refl _) (.cells #[.int .i64 d] 3))).copy
      rw [show (W.alloc (.cells #[.int .i64 d] 3)).heap.size = W.heap.size + 1 by simp] at h5
      refine h5.below ?_
      exact (by repeat' (first | exact bl_refl _ | refine bl_drew ?_ | refine bl_alloc ?_ _))
    · simp [go_sem]
    · simp [go_sem]
    · simp [go_sem]
    rintro e u2 ⟨rfl, hb⟩
    have HB2 := hide (bl_call hb (show Below W.heap.size W _ from (by repeat' (first | exact bl_refl _ | refine bl_drew ?_ | refine bl_alloc ?_ _))))
    clear hb
    (try go_wp2_with fail); refine hK.out _ _ (HB2.out) (fun hHeld => ?_); clear hK K; (try simp only [Act.put, List.setIfInBounds_toArray, List.set_cons_zero, List.set_cons_succ])
    (first | (refine tkY (i := 8) (oi := ?_) (v := ?_) ?_ (by kernel_rfl) ?_ ?_ ?_ (by assumption) ?_; rotate_left 2; (next => simp only [tka, tkb, tkc]; rfl); (next => exact fun _ _ _ h => h); (next => rfl); (next => intro w hSw; (try dsimp only at hSw); go_simp; (try (with_reducible rfl)))) | (refine tkN (i := 8) (oi := ?_) ?_ (by kernel_rfl) ?_ ?_ (by assumption) ?_; rotate_left 1; (next => simp only [tka, tkb, tkc]; rfl); (next => exact fun _ _ _ h => h); (next => rfl))); (try simp only [Act.put, tkd, tke, tkf])
    (first | (refine tkY (i := 9) (oi := ?_) (v := ?_) ?_ (by kernel_rfl) ?_ ?_ ?_ (by assumption) ?_; rotate_left 2; (next => simp only [tka, tkb, tkc]; rfl); (next => exact fun _ _ _ h => h); (next => rfl); (next => intro w hSw; (try dsimp only at hSw); go_simp; (try (with_reducible rfl)))) | (refine tkN (i := 9) (oi := ?_) ?_ (by kernel_rfl) ?_ ?_ (by assumption) ?_; rotate_left 1; (next => simp only [tka, tkb, tkc]; rfl); (next => exact fun _ _ _ h => h); (next => rfl))); (try simp only [Act.put, tkd, tke, tkf])
    (first | (refine tkY (i := 10) (oi := ?_) (v := ?_) ?_ (by kernel_rfl) ?_ ?_ ?_ (by assumption) ?_; rotate_left 2; (next => simp only [tka, tkb, tkc]; rfl); (next => exact fun _ _ _ h => h); (next => rfl); (next => intro w hSw; (try dsimp only at hSw); go_simp; (try (with_reducible rfl)))) | (refine tkN (i := 10) (oi := ?_) ?_ (by kernel_rfl) ?_ ?_ (by assumption) ?_; rotate_left 1; (next => simp only [tka, tkb, tkc]; rfl); (next => exact fun _ _ _ h => h); (next => rfl))); (try simp only [Act.put, tkd, tke, tkf])
    (first | (refine tkY (i := 11) (oi := ?_) (v := ?_) ?_ (by kernel_rfl) ?_ ?_ ?_ (by assumption) ?_; rotate_left 2; (next => simp only [tka, tkb, tkc]; rfl); (next => exact fun _ _ _ h => h); (next => rfl); (next => intro w hSw; (try dsimp only at hSw); go_simp; (try (with_reducible rfl)))) | (refine tkN (i := 11) (oi := ?_) ?_ (by kernel_rfl) ?_ ?_ (by assumption) ?_; rotate_left 1; (next => simp only [tka, tkb, tkc]; rfl); (next => exact fun _ _ _ h => h); (next => rfl))); (try simp only [Act.put, tkd, tke, tkf])
    refine wpAnyH_done (by kernel_rfl) ?_ _
    go_wp2
    go_ret2
    exact ⟨rfl, bl_call HB2.out HB1.out⟩
end Go.Proofs.Ytafddofajfcffaa

/- The search for the least way: all ways are extended to a break of a paragraph. -/
namespace Go.Proofs.Ytafddofajfcffaa
open Go.ChangeShapes Go.WideShapes Go.ChangeAt Go.RowKit
set_option linter.unusedVariables false
set_option maxRecDepth 4000

set_option maxHeartbeats 4000000 in
theorem extend_lines (w : World) (B S : Nat) (hd : List Wy) (act : Nat) (cnt : Bool) (tt : Int) (C : Int → Int → Int → Int × Bool) (q1 q2 q3 : Value) (hs : WSt w B S hd act cnt) (h0 : 0 < hd.length) (hl : hd.length ≤ 100000) (ha : act ≤ hd.length)
    (hb : ∀ i, i < hd.length → (0 ≤ (tg hd i).p ∧ (tg hd i).p ≤ 1000000) ∧ (-1000000000000000 ≤ (tg hd i).c ∧ (tg hd i).c ≤ 1000000000000000)) (hM : ∀ i a b, -1000000000000 ≤ (C i a b).1 ∧ (C i a b).1 ≤ 1000000000000)
    (HC : ∀ u, Below B w u → ∀ i, act ≤ i → i < hd.length → Calls Try.prog 128 #[.int .i64 (tg hd i).p, .int .i64 (tg hd i).a, .int .i64 tt, q1, q2, q3] u fun e u' => e = .returned (.tuple #[.int .i64 (C (tg hd i).p (tg hd i).a tt).1, .bool (C (tg hd i).p (tg hd i).a tt).2]) ∧ Below u.heap.size u u') :
    Calls Try.prog 138 #[.pointer (some ⟨S, 0, none⟩), .int .i64 tt, .func (.func 128) #[] #[q1, q2, q3]] w fun e w' => (∃ v, e = .returned v) ∧ WSt w' B S (hd ++ extR C cnt tt hd act) act cnt ∧ Below B w w' ∧ KeepsOthers w w' := by
  have HHC := hide HC
  have HB := hide hb
  have HS0 := hide hs
  have hBS := hs.hB
  have c1 := hs.c1
  obtain ⟨g, c, c0, _, _⟩ := hs.own
  have W0 := hide (show WSt w B S (hd ++ []) act cnt by rw [List.append_nil]; exact hs)
  clear HC hb hs
  go_enter Try.func138, Try.ntmps138
  go_wp2
  clear c0 c1
  go_loopw [7] (fun i u => ∃ (k m : Nat) (tl : List Wy), act ≤ k ∧ k + m = hd.length ∧ i = .int .i64 k ∧ extR C cnt tt hd act = extT C cnt tt hd m k tl ∧ tl.length ≤ k ∧ WSt u B S (hd ++ tl) act cnt ∧ Below B w u ∧ KeepsOthers w u) (fun i _ => hd.length - (intOf i).toNat)
  case atStart => exact ⟨act, hd.length - act, [], Nat.le_refl _, by omega, rfl, rfl, by simp, W0.out, Below.refl _ _, ko_refl _⟩
  case round =>
    obtain ⟨k, m, tl, hak, hkm, rfl, hex, htl, hws, hbl, hko⟩ := hrel
    have HKO := hide hko
    have HE := hide hex
    have HW := hide hws
    have HBL := hide hbl
    have hSz := hws.hS
    have hlen := hide (show (hd ++ tl).length = hd.length + tl.length by simp)
    obtain ⟨g, c, c0, hgS, hto⟩ := hws.own
    clear hex hws hbl hko
    rcases Nat.eq_zero_or_pos m with hm | hm
    · subst hm
      obtain rfl : k = hd.length := by omega
      go_wp2
      go_end0
      exact ⟨⟨_, rfl⟩, by rw [HE.out]; exact HW.out, HBL.out, HKO.out⟩
    · have hlt : k < hd.length := by omega
      obtain ⟨m', rfl⟩ : ∃ m', m = m' + 1 := ⟨m - 1, by omega⟩
      obtain ⟨b, o, he, hbl, d0, d1, d2, d3⟩ := hto.reads.at4 (i := k) (by simp; omega)
      injection he with he
      cases he
      rw [tg_left hlt] at d0 d1 d2 d3
      have HCk := hide (fun (u : World) (h : Below B w u) => HHC.out u h k hak hlt)
      obtain ⟨⟨p0, p1⟩, ⟨b0, b1⟩⟩ := HB.out k hlt
      have YES := hide (fun (h : (C (tg hd k).p (tg hd k).a tt).2 = true) => show stW C cnt tt hd k tl = offT cnt (nxW C tt hd k) tl from if_pos h)
      have NO := hide (fun (h : (C (tg hd k).p (tg hd k).a tt).2 = false) => show stW C cnt tt hd k tl = tl from if_neg (by rw [h]; simp))
      have hMk := hM (tg hd k).p (tg hd k).a tt
      have NX := hide (show nxW C tt hd k = ⟨tt, (tg hd k).p + 1, (tg hd k).c + (C (tg hd k).p (tg hd k).a tt).1, k⟩ from rfl)
      rw [NX.out] at YES
      obtain ⟨y, hy⟩ : ∃ y, y = tg hd k := ⟨_, rfl⟩
      rw [← hy] at d0 d1 d2 d3 HCk p0 p1 b0 b1 YES NO hMk
      clear hy NX
      obtain ⟨ya, yp, yc, yb⟩ := y
      rw [Nat.zero_add] at d0 d1 d2 d3
      have ex : extT C cnt tt hd (m' + 1) k tl = extT C cnt tt hd m' (k + 1) (stW C cnt tt hd k tl) := rfl
      have EX := hide ex
      clear ex hto
      obtain ⟨v, hv⟩ : ∃ v, v = (C yp ya tt).1 := ⟨_, rfl⟩
      obtain ⟨fl, hfl⟩ : ∃ v, v = (C yp ya tt).2 := ⟨_, rfl⟩
      simp only at HCk YES NO p0 p1 b0 b1 hMk
      rw [← hv, ← hfl] at HCk
      rw [← hv, ← hfl] at YES
      rw [← hfl] at NO
      rw [← hv] at hMk
      clear hv hfl
      have hBw : B ≤ wr.heap.size := by omega
      go_wp2_with fail
      (with_reducible refine (HCk.out _ (HBL.out.alloc hBw _)).mono ?_)
      rintro e u1 ⟨rfl, hb1⟩
      have W1 := hide ((HW.out.alloc _).below hb1 (Nat.le_refl _))
      have KO1 := hide (HKO.out.trans ((ko_alloc (ko_refl wr) _).trans (ko_below hb1)))
      have BL1 := hide ((HBL.out.alloc hBw _).trans (hb1.mono (show B ≤ _ by simp; omega)))
      have e0 := keep_cell hb1 (show (wr.alloc (.cells #[.int .i64 ya, .int .i64 yp, .int .i64 yc, .int .i64 yb] 152)).cell? ⟨wr.heap.size, 0, none⟩ = some (.int .i64 ya) by simp [go_sem])
      have e1 := keep_cell hb1 (show (wr.alloc (.cells #[.int .i64 ya, .int .i64 yp, .int .i64 yc, .int .i64 yb] 152)).cell? ⟨wr.heap.size, 1, none⟩ = some (.int .i64 yp) by simp [go_sem])
      have e2 := keep_cell hb1 (show (wr.alloc (.cells #[.int .i64 ya, .int .i64 yp, .int .i64 yc, .int .i64 yb] 152)).cell? ⟨wr.heap.size, 2, none⟩ = some (.int .i64 yc) by simp [go_sem])
      have e3 := keep_cell hb1 (show (wr.alloc (.cells #[.int .i64 ya, .int .i64 yp, .int .i64 yc, .int .i64 yb] 152)).cell? ⟨wr.heap.size, 3, none⟩ = some (.int .i64 yb) by simp [go_sem])
      have hz1 := hb1.size
      simp at hz1
      clear hb1 c0 d0 d1 d2 d3 HCk
      cases fl
      · have N1 := hide (NO.out rfl)
        clear YES NO
        go_wp2
        go_roundw
        case rel => exact ⟨k + 1, m', tl, by omega, by omega, by go_num, by rw [HE.out, EX.out, N1.out], by omega, W1.out, BL1.out, KO1.out⟩
        case measure => simp [intOf]; omega
      · have Y1 := hide (YES.out rfl)
        have hol := offT_len (cnt := cnt) (x := ⟨tt, yp + 1, yc + v, k⟩) (l := tl)
        clear YES NO
        go_wp2_with (go_at_call 160; (with_reducible refine (offer_i _ B S hd tl act cnt ⟨tt, yp + 1, yc + v, k⟩ W1.out h0 (by have := hlen.out; omega)).mono ?_); rintro e u2 ⟨⟨v0, rfl⟩, hw2, hb2, hk2⟩; have W2 := hide hw2; have BL2 := hide (BL1.out.trans hb2); have KO2 := hide (KO1.out.trans hk2); clear hw2 hb2 hk2)
        go_roundw
        case rel => exact ⟨k + 1, m', _, by omega, by omega, by go_num, by rw [HE.out, EX.out, Y1.out], by omega, W2.out, BL2.out, KO2.out⟩
        case measure => simp [intOf]; omega
set_option maxHeartbeats 4000000 in
theorem extend_counts (w : World) (B S : Nat) (hd : List Wy) (act : Nat) (cnt : Bool) (tt : Int) (C : Int → Int → Int → Int × Bool) (q1 q2 q3 : Value) (hs : WSt w B S hd act cnt) (h0 : 0 < hd.length) (hl : hd.length ≤ 100000) (ha : act ≤ hd.length)
    (hb : ∀ i, i < hd.length → (0 ≤ (tg hd i).p ∧ (tg hd i).p ≤ 1000000) ∧ (-1000000000000000 ≤ (tg hd i).c ∧ (tg hd i).c ≤ 1000000000000000)) (hM : ∀ i a b, -1000000000000 ≤ (C i a b).1 ∧ (C i a b).1 ≤ 1000000000000)
    (HC : ∀ u, Below B w u → ∀ i, act ≤ i → i < hd.length → Calls Try.prog 101 #[.int .i64 (tg hd i).p, .int .i64 (tg hd i).a, .int .i64 tt, q1, q2, q3] u fun e u' => e = .returned (.tuple #[.int .i64 (C (tg hd i).p (tg hd i).a tt).1, .bool (C (tg hd i).p (tg hd i).a tt).2]) ∧ Below u.heap.size u u') :
    Calls Try.prog 138 #[.pointer (some ⟨S, 0, none⟩), .int .i64 tt, .func (.func 101) #[] #[q1, q2, q3]] w fun e w' => (∃ v, e = .returned v) ∧ WSt w' B S (hd ++ extR C cnt tt hd act) act cnt ∧ Below B w w' ∧ KeepsOthers w w' := by
  have HHC := hide HC
  have HB := hide hb
  have HS0 := hide hs
  have hBS := hs.hB
  have c1 := hs.c1
  obtain ⟨g, c, c0, _, _⟩ := hs.own
  have W0 := hide (show WSt w B S (hd ++ []) act cnt by rw [List.append_nil]; exact hs)
  clear HC hb hs
  go_enter Try.func138, Try.ntmps138
  go_wp2
  clear c0 c1
  go_loopw [7] (fun i u => ∃ (k m : Nat) (tl : List Wy), act ≤ k ∧ k + m = hd.length ∧ i = .int .i64 k ∧ extR C cnt tt hd act = extT C cnt tt hd m k tl ∧ tl.length ≤ k ∧ WSt u B S (hd ++ tl) act cnt ∧ Below B w u ∧ KeepsOthers w u) (fun i _ => hd.length - (intOf i).toNat)
  case atStart => exact ⟨act, hd.length - act, [], Nat.le_refl _, by omega, rfl, rfl, by simp, W0.out, Below.refl _ _, ko_refl _⟩
  case round =>
    obtain ⟨k, m, tl, hak, hkm, rfl, hex, htl, hws, hbl, hko⟩ := hrel
    have HKO := hide hko
    have HE := hide hex
    have HW := hide hws
    have HBL := hide hbl
    have hSz := hws.hS
    have hlen := hide (show (hd ++ tl).length = hd.length + tl.length by simp)
    obtain ⟨g, c, c0, hgS, hto⟩ := hws.own
    clear hex hws hbl hko
    rcases Nat.eq_zero_or_pos m with hm | hm
    · subst hm
      obtain rfl : k = hd.length := by omega
      go_wp2
      go_end0
      exact ⟨⟨_, rfl⟩, by rw [HE.out]; exact HW.out, HBL.out, HKO.out⟩
    · have hlt : k < hd.length := by omega
      obtain ⟨m', rfl⟩ : ∃ m', m = m' + 1 := ⟨m - 1, by omega⟩
      obtain ⟨b, o, he, hbl, d0, d1, d2, d3⟩ := hto.reads.at4 (i := k) (by simp; omega)
      injection he with he
      cases he
      rw [tg_left hlt] at d0 d1 d2 d3
      have HCk := hide (fun (u : World) (h : Below B w u) => HHC.out u h k hak hlt)
      obtain ⟨⟨p0, p1⟩, ⟨b0, b1⟩⟩ := HB.out k hlt
      have YES := hide (fun (h : (C (tg hd k).p (tg hd k).a tt).2 = true) => show stW C cnt tt hd k tl = offT cnt (nxW C tt hd k) tl from if_pos h)
      have NO := hide (fun (h : (C (tg hd k).p (tg hd k).a tt).2 = false) => show stW C cnt tt hd k tl = tl from if_neg (by rw [h]; simp))
      have hMk := hM (tg hd k).p (tg hd k).a tt
      have NX := hide (show nxW C tt hd k = ⟨tt, (tg hd k).p + 1, (tg hd k).c + (C (tg hd k).p (tg hd k).a tt).1, k⟩ from rfl)
      rw [NX.out] at YES
      obtain ⟨y, hy⟩ : ∃ y, y = tg hd k := ⟨_, rfl⟩
      rw [← hy] at d0 d1 d2 d3 HCk p0 p1 b0 b1 YES NO hMk
      clear hy NX
      obtain ⟨ya, yp, yc, yb⟩ := y
      rw [Nat.zero_add] at d0 d1 d2 d3
      have ex : extT C cnt tt hd (m' + 1) k tl = extT C cnt tt hd m' (k + 1) (stW C cnt tt hd k tl) := rfl
      have EX := hide ex
      clear ex hto
      obtain ⟨v, hv⟩ : ∃ v, v = (C yp ya tt).1 := ⟨_, rfl⟩
      obtain ⟨fl, hfl⟩ : ∃ v, v = (C yp ya tt).2 := ⟨_, rfl⟩
      simp only at HCk YES NO p0 p1 b0 b1 hMk
      rw [← hv, ← hfl] at HCk
      rw [← hv, ← hfl] at YES
      rw [← hfl] at NO
      rw [← hv] at hMk
      clear hv hfl
      have hBw : B ≤ wr.heap.size := by omega
      go_wp2_with fail
      (with_reducible refine (HCk.out _ (HBL.out.alloc hBw _)).mono ?_)
      rintro e u1 ⟨rfl, hb1⟩
      have W1 := hide ((HW.out.alloc _).below hb1 (Nat.le_refl _))
      have KO1 := hide (HKO.out.trans ((ko_alloc (ko_refl wr) _).trans (ko_below hb1)))
      have BL1 := hide ((HBL.out.alloc hBw _).trans (hb1.mono (show B ≤ _ by simp; omega)))
      have e0 := keep_cell hb1 (show (wr.alloc (.cells #[.int .i64 ya, .int .i64 yp, .int .i64 yc, .int .i64 yb] 152)).cell? ⟨wr.heap.size, 0, none⟩ = some (.int .i64 ya) by simp [go_sem])
      have e1 := keep_cell hb1 (show (wr.alloc (.cells #[.int .i64 ya, .int .i64 yp, .int .i64 yc, .int .i64 yb] 152)).cell? ⟨wr.heap.size, 1, none⟩ = some (.int .i64 yp) by simp [go_sem])
      have e2 := keep_cell hb1 (show (wr.alloc (.cells #[.int .i64 ya, .int .i64 yp, .int .i64 yc, .int .i64 yb] 152)).cell? ⟨wr.heap.size, 2, none⟩ = some (.int .i64 yc) by simp [go_sem])
      have e3 := keep_cell hb1 (show (wr.alloc (.cells #[.int .i64 ya, .int .i64 yp, .int .i64 yc, .int .i64 yb] 152)).cell? ⟨wr.heap.size, 3, none⟩ = some (.int .i64 yb) by simp [go_sem])
      have hz1 := hb1.size
      simp at hz1
      clear hb1 c0 d0 d1 d2 d3 HCk
      cases fl
      · have N1 := hide (NO.out rfl)
        clear YES NO
        go_wp2
        go_roundw
        case rel => exact ⟨k + 1, m', tl, by omega, by omega, by go_num, by rw [HE.out, EX.out, N1.out], by omega, W1.out, BL1.out, KO1.out⟩
        case measure => simp [intOf]; omega
      · have Y1 := hide (YES.out rfl)
        have hol := offT_len (cnt := cnt) (x := ⟨tt, yp + 1, yc + v, k⟩) (l := tl)
        clear YES NO
        go_wp2_with (go_at_call 160; (with_reducible refine (offer_i _ B S hd tl act cnt ⟨tt, yp + 1, yc + v, k⟩ W1.out h0 (by have := hlen.out; omega)).mono ?_); rintro e u2 ⟨⟨v0, rfl⟩, hw2, hb2, hk2⟩; have W2 := hide hw2; have BL2 := hide (BL1.out.trans hb2); have KO2 := hide (KO1.out.trans hk2); clear hw2 hb2 hk2)
        go_roundw
        case rel => exact ⟨k + 1, m', _, by omega, by omega, by go_num, by rw [HE.out, EX.out, Y1.out], by omega, W2.out, BL2.out, KO2.out⟩
        case measure => simp [intOf]; omega
end Go.Proofs.Ytafddofajfcffaa
