/- RowBox: what it returns. -/
import Derived.Test.YtbbicijmekinkaaBoxRow
namespace Go.Proofs.Ytbbicijmekinkaa
open Go.ChangeShapes Go.WideShapes Go.ChangeAt Go.RowKit
set_option linter.unusedVariables false

set_option maxHeartbeats 8000000 in
theorem foldRow_i (w : World) (A : Option Addr) (n c : Nat) (L : List Gp) (h : TL w A n L) (hn : n ≤ 4611686018427387904) :
    Calls Try.prog 42 #[.slice A n c, .func (.func 43) #[] #[]] w fun e w' => e = .returned (fov jr L) ∧ Below w.heap.size w w' := by
  obtain rfl : n = L.length := h.1
  have HI := hide h
  clear h
  rcases (by omega : 20 < L.length ∨ L.length ≤ 20) with h20 | h20
  · have E := hide (fov_no (J := jr) (L := L) (by rw [fob, bok_no (fun x => by omega)]; rfl))
    go_enter Try.func42, Try.ntmps42
    go_wp2
    (refine bodyPost_ret (v := .tuple #[gv 0 0 0, .bool false]) (by simp [results, Try.results42, go_sem, *]) rfl ⟨by rw [E.out], ?_⟩; (repeat' (first | with_reducible exact bl_refl _ | with_reducible assumption | with_reducible refine bl_alloc ?_ _ | with_reducible refine bl_set ?_ ?_ _ | with_reducible refine bl_drewN ?_ _ | with_reducible refine bl_drew ?_ | with_reducible refine bl_call (by assumption) ?_)); (all_goals (first | omega | (simp; done) | (simp; omega))))
  go_enter Try.func42, Try.ntmps42
  go_wp2
  go_loopw [15] (fun i u => ∃ (p : Nat) (P Q R : Int), p ≤ L.length ∧ i = .int .i64 p ∧ fo jr L p = ⟨P, Q, R⟩ ∧ BTo L p ∧ Bx u (w.heap.size + 1) P Q R ∧ Bx u w.heap.size 0 0 0 ∧ Below w.heap.size w u) (fun i _ => L.length - (intOf i).toNat)
  case atStart =>
    refine ⟨0, 0, 0, 0, by omega, rfl, rfl, BTo.zero _, ⟨⟨?_, ?_, ?_⟩, ?_, ?_, ?_⟩, ⟨⟨?_, ?_, ?_⟩, ?_, ?_, ?_⟩, ?_⟩
    all_goals first | (simp [go_sem]; done) | ((repeat' (first | with_reducible exact bl_refl _ | with_reducible assumption | with_reducible refine bl_alloc ?_ _ | with_reducible refine bl_set ?_ ?_ _ | with_reducible refine bl_drewN ?_ _ | with_reducible refine bl_drew ?_ | with_reducible refine bl_call (by assumption) ?_)); (all_goals (first | omega | (simp; done) | (simp; omega))))
  case round =>
    obtain ⟨p, P, Q, R, hp, rfl, hfo, hbt, hk, hj, hbl⟩ := hrel
    have HFO := hide hfo
    have HBT := hide hbt
    have HK := hide hk
    have HJ := hide hj
    have HB := hide hbl
    have hlw := hj.lt
    have hlk := hk.lt
    by_cases hlt : p < L.length
    · obtain ⟨b, o, hA, hb0, hcell⟩ := HI.out.at_ hlt
      subst hA
      obtain ⟨X, Y, Z, hx⟩ : ∃ X Y Z, tg L p = ⟨X, Y, Z⟩ := ⟨(tg L p).a, (tg L p).b, (tg L p).v, rfl⟩
      have c0 : wr.cell? ⟨b, o + p * 3, none⟩ = some (.int .i64 X) := keep_cell hbl (by have := hcell 0 (by decide); rw [hx] at this; exact this)
      have c1 : wr.cell? ⟨b, o + p * 3 + 1, none⟩ = some (.int .i64 Y) := keep_cell hbl (by have := hcell 1 (by decide); rw [hx] at this; exact this)
      have c2 : wr.cell? ⟨b, o + p * 3 + 2, none⟩ = some (.int .i64 Z) := keep_cell hbl (by have := hcell 2 (by decide); rw [hx] at this; exact this)
      have HX := hide hx
      clear hcell hfo hbt hk hj hbl hx
      cases q : vb X Y Z
      · have E := hide (fov_no (J := jr) (L := L) (by rw [fob, bok_bad hlt (by rw [HX.out]; exact q)]; rfl))
        go_wp2_with fail
        (with_reducible refine (ValidBox_i _ _ _ _).mono ?_)
        rintro e u1 ⟨rfl, hb⟩
        rw [q]
        obtain ⟨⟨j0, j1, j2⟩, g0, g1, g2⟩ := (HJ.out.alloc _).below hb
        have HB1 := hide (bl_call hb (bl_alloc HB.out _))
        have hz := hb.size
        simp at hz
        clear hb
        go_wp2
        refine bodyPost_ret (v := .tuple #[gv 0 0 0, .bool false]) (by simp [results, Try.results42, go_sem, *]) rfl ⟨by rw [E.out], ?_⟩
        have hb := HB1.out
        repeat' (first | with_reducible exact bl_refl _ | with_reducible assumption | with_reducible refine bl_alloc ?_ _ | with_reducible refine bl_set ?_ ?_ _ | with_reducible refine bl_drewN ?_ _ | with_reducible refine bl_drew ?_ | with_reducible refine bl_call (by assumption) ?_)
        all_goals (first | omega | (simp; done) | (simp; omega))
      · have ST := hide (HBT.out.step (k := p) (by rw [HX.out]; exact q))
        have hbd := fo_bd jr_bd (L := L) (k := p) HBT.out
        rw [HFO.out] at hbd
        unfold BB at hbd
        obtain ⟨⟨P0, P1⟩, ⟨Q0, Q1⟩, R0, R1⟩ := hbd
        obtain ⟨⟨X0, X1⟩, ⟨Y0, Y1⟩, Z0, Z1⟩ := vb_iff.1 q
        simp only at P0 P1
        have PB : P ≤ 1000000 := by omega
        have XB : X ≤ 1000000 := by omega
        clear P1 Q0 Q1 R0 R1 X1 Y0 Y1 Z0 Z1
        go_wp2_with fail
        (with_reducible refine (ValidBox_i _ _ _ _).mono ?_)
        rintro e u1 ⟨rfl, hb⟩
        rw [q]
        have HM1 := hide ((Bx.new wr X Y Z _).below hb)
        have HK1 := hide ((HK.out.alloc _).below hb)
        have HJ1 := hide ((HJ.out.alloc _).below hb)
        have HB1 := hide (bl_call hb (bl_alloc HB.out _))
        have hz := hb.size
        simp at hz
        clear hb c0 c1 c2
        rcases Nat.eq_zero_or_pos p with hp0 | hp0
        · have g0 : ((p : Int) == 0) = true := beq_iff_eq.2 (by omega)
          have N : Hid (fo jr L (p + 1) = ⟨X, Y, Z⟩) := hide (by
            subst hp0
            rw [fo_one]
            exact HX.out)
          obtain ⟨⟨m0, m1, m2⟩, n0, n1, n2⟩ := HM1.out
          obtain ⟨⟨k0, k1, k2⟩, f0, f1, f2⟩ := HK1.out
          obtain ⟨⟨j0, j1, j2⟩, g0, g1, g2⟩ := HJ1.out
          go_wp2
          go_roundw
          case rel =>
            refine ⟨p + 1, _, _, _, by omega, by go_num, N.out, ST.out, ⟨⟨?_, ?_, ?_⟩, ?_, ?_, ?_⟩, ⟨⟨?_, ?_, ?_⟩, ?_, ?_, ?_⟩, ?_⟩
            all_goals first | (simp [go_sem, *]; done) | (have hb := HB1.out; (repeat' (first | with_reducible exact bl_refl _ | with_reducible assumption | with_reducible refine bl_alloc ?_ _ | with_reducible refine bl_set ?_ ?_ _ | with_reducible refine bl_drewN ?_ _ | with_reducible refine bl_drew ?_ | with_reducible refine bl_call (by assumption) ?_)); (all_goals (first | omega | (simp; done) | (simp; omega))))
          case measure => simp [intOf]; omega
        · have g0 : ((p : Int) == 0) = false := beq_eq_false_iff_ne.2 (by omega)
          have N : Hid (fo jr L (p + 1) = ⟨P + X, max Q Y, max R Z⟩) := hide (by
            rw [fo_more jr L hp0, HFO.out, HX.out]
            rfl)
          obtain ⟨⟨m0, m1, m2⟩, n0, n1, n2⟩ := HM1.out
          obtain ⟨⟨k0, k1, k2⟩, f0, f1, f2⟩ := HK1.out
          go_wp2_with fail
          (with_reducible refine (rowJoin_i _ _ _ _ _ _ _ P0 PB X0 XB).mono ?_)
          rintro e u2 ⟨rfl, hb⟩
          clear m0 m1 m2 n0 n1 n2 k0 k1 k2 f0 f1 f2
          obtain ⟨⟨k0, k1, k2⟩, f0, f1, f2⟩ := HK1.out.below hb
          obtain ⟨⟨j0, j1, j2⟩, g0, g1, g2⟩ := HJ1.out.below hb
          have HB2 := hide (bl_call hb HB1.out)
          have hz2 := hb.size
          obtain ⟨s, hs⟩ : ∃ s, s = max Q Y := ⟨_, rfl⟩
          obtain ⟨t, ht⟩ : ∃ t, t = max R Z := ⟨_, rfl⟩
          rw [← hs, ← ht] at N
          rw [← hs, ← ht]
          clear hb hs ht
          go_wp2
          go_roundw
          case rel =>
            refine ⟨p + 1, _, _, _, by omega, by go_num, N.out, ST.out, ⟨⟨?_, ?_, ?_⟩, ?_, ?_, ?_⟩, ⟨⟨?_, ?_, ?_⟩, ?_, ?_, ?_⟩, ?_⟩
            all_goals first | (simp [go_sem, *]; done) | (have hb := HB2.out; (repeat' (first | with_reducible exact bl_refl _ | with_reducible assumption | with_reducible refine bl_alloc ?_ _ | with_reducible refine bl_set ?_ ?_ _ | with_reducible refine bl_drewN ?_ _ | with_reducible refine bl_drew ?_ | with_reducible refine bl_call (by assumption) ?_)); (all_goals (first | omega | (simp; done) | (simp; omega))))
          case measure => simp [intOf]; omega
    · have hpl : L.length = p := by omega
      have BO := hide (bok_iff.2 ⟨h20, by rw [hpl]; exact HBT.out⟩)
      have F0 := fov_no (J := jr) (L := L)
      have F1 := fov_yes (J := jr) (L := L)
      have e1 : fob jr L = vb P Q R := by
        rw [fob, BO.out, hpl, HFO.out]; rfl
      rw [e1] at F0 F1
      rw [show fo jr L L.length = ⟨P, Q, R⟩ from by rw [hpl]; exact HFO.out] at F1
      obtain ⟨⟨k0, k1, k2⟩, f0, f1, f2⟩ := hk
      clear e1 hfo hbt hj hbl hpl
      cases q : vb P Q R
      · have E := hide (F0 q)
        clear F0 F1
        go_wp2_with fail
        (with_reducible refine (ValidBox_i _ _ _ _).mono ?_)
        rintro e u1 ⟨rfl, hb⟩
        rw [q]
        obtain ⟨⟨j0, j1, j2⟩, g0, g1, g2⟩ := HJ.out.below hb
        have HB1 := hide (bl_call hb HB.out)
        have hz := hb.size
        clear hb k0 k1 k2 f0 f1 f2
        go_wp2
        refine bodyPost_ret (v := .tuple #[gv 0 0 0, .bool false]) (by simp [results, Try.results42, go_sem, *]) rfl ⟨by rw [E.out], ?_⟩
        have hb := HB1.out
        repeat' (first | with_reducible exact bl_refl _ | with_reducible assumption | with_reducible refine bl_alloc ?_ _ | with_reducible refine bl_set ?_ ?_ _ | with_reducible refine bl_drewN ?_ _ | with_reducible refine bl_drew ?_ | with_reducible refine bl_call (by assumption) ?_)
        all_goals (first | omega | (simp; done) | (simp; omega))
      · have E := hide (F1 q)
        clear F0 F1
        go_wp2_with fail
        (with_reducible refine (ValidBox_i _ _ _ _).mono ?_)
        rintro e u1 ⟨rfl, hb⟩
        rw [q]
        obtain ⟨⟨j0, j1, j2⟩, g0, g1, g2⟩ := HJ.out.below hb
        have HB1 := hide (bl_call hb HB.out)
        have hz := hb.size
        clear k0 k1 k2 f0 f1 f2
        obtain ⟨⟨k0, k1, k2⟩, f0, f1, f2⟩ := HK.out.below hb
        clear hb
        go_wp2
        refine bodyPost_ret (v := .tuple #[gv P Q R, .bool true]) (by simp [results, Try.results42, go_sem, *]) rfl ⟨by rw [E.out], ?_⟩
        have hb := HB1.out
        repeat' (first | with_reducible exact bl_refl _ | with_reducible assumption | with_reducible refine bl_alloc ?_ _ | with_reducible refine bl_set ?_ ?_ _ | with_reducible refine bl_drewN ?_ _ | with_reducible refine bl_drew ?_ | with_reducible refine bl_call (by assumption) ?_)
        all_goals (first | omega | (simp; done) | (simp; omega))

theorem RowBox_i (w : World) (A : Option Addr) (n c : Nat) (L : List Gp) (h : TL w A n L) (hn : n ≤ 4611686018427387904) :
    Calls Try.prog 26 #[.slice A n c] w fun e w' => e = .returned (fov jr L) ∧ Below w.heap.size w w' := by
  have HI := hide h
  clear h
  obtain ⟨x, t, E⟩ := fov_form jr L
  obtain ⟨P, Q, R⟩ := x
  have FI := fun (u : World) (hh : TL u A n L) => foldRow_i u A n c L hh hn
  rw [E] at FI
  have HFI := hide FI
  have HE := hide E
  clear FI E
  go_enter Try.func26, Try.ntmps26
  go_wp2_with (go_at_call 42; (with_reducible refine (HFI.out _ (HI.out.below (by (repeat' (first | with_reducible exact bl_refl _ | with_reducible assumption | with_reducible refine bl_alloc ?_ _ | with_reducible refine bl_set ?_ ?_ _ | with_reducible refine bl_drewN ?_ _ | with_reducible refine bl_drew ?_ | with_reducible refine bl_call (by assumption) ?_)); (all_goals (first | omega | (simp; done) | (simp; omega)))))).mono ?_); rintro e w' ⟨rfl, hb⟩; (try (with_reducible have hb := bl_undrew hb)); obtain ⟨hc, hf⟩ := bcell hb; (try ((with_reducible have hq := bcell1 hb); obtain ⟨hc, hf⟩ := hq)); (try ((with_reducible have hq := bcell2 hb); obtain ⟨hc, hf⟩ := hq)); have hz := bl_sz hb; (try simp at hz); (try (have z0 : w.heap.size < w'.heap.size := (by omega); have y0 := Nat.le_of_lt z0)); (try (have z1 : w.heap.size + 1 < w'.heap.size := (by omega); have y1 := Nat.le_of_lt z1)); (try (have z2 : w.heap.size + 1 + 1 < w'.heap.size := (by omega); have y2 := Nat.le_of_lt z2)); (try (have z3 : w.heap.size + 1 + 1 + 1 < w'.heap.size := (by omega); have y3 := Nat.le_of_lt z3)); (try (have z4 : u1.heap.size < w'.heap.size := (by omega); have y4 := Nat.le_of_lt z4)); (try (have z5 : u1.heap.size + 1 < w'.heap.size := (by omega); have y5 := Nat.le_of_lt z5)); (try (have z6 : u2.heap.size < w'.heap.size := (by omega); have y6 := Nat.le_of_lt z6)); (try (have z7 : u2.heap.size + 1 < w'.heap.size := (by omega); have y7 := Nat.le_of_lt z7)); (try (have z8 : u3.heap.size < w'.heap.size := (by omega); have y8 := Nat.le_of_lt z8)); (try (have z9 : u3.heap.size + 1 < w'.heap.size := (by omega); have y9 := Nat.le_of_lt z9)); (try (have z10 : u4.heap.size < w'.heap.size := (by omega); have y10 := Nat.le_of_lt z10)); (try (have z11 : u4.heap.size + 1 < w'.heap.size := (by omega); have y11 := Nat.le_of_lt z11)); (try (have z12 : u5.heap.size < w'.heap.size := (by omega); have y12 := Nat.le_of_lt z12)); (try (have z13 : u5.heap.size + 1 < w'.heap.size := (by omega); have y13 := Nat.le_of_lt z13)); (try (have z14 : u6.heap.size < w'.heap.size := (by omega); have y14 := Nat.le_of_lt z14)); (try (have z15 : u6.heap.size + 1 < w'.heap.size := (by omega); have y15 := Nat.le_of_lt z15)); (try (have zg : g < w'.heap.size := (by omega); have yg := Nat.le_of_lt zg)); (try (have zc : wc.heap.size < w'.heap.size := (by omega); have yc := Nat.le_of_lt zc)); (try (have zd : wc.heap.size + 1 < w'.heap.size := (by omega); have yd := Nat.le_of_lt zd)); (first | (have _k := u7; clear _k; rename World => u8) | (have _k := u6; clear _k; rename World => u7) | (have _k := u5; clear _k; rename World => u6) | (have _k := u4; clear _k; rename World => u5) | (have _k := u3; clear _k; rename World => u4) | (have _k := u2; clear _k; rename World => u3) | (have _k := u1; clear _k; rename World => u2) | (rename World => u1)))
  refine bodyPost_ret (v := .tuple #[gv P Q R, .bool t]) (by simp [results, Try.results26, go_sem, *]) rfl ⟨by rw [HE.out], ?_⟩
  repeat' (first | with_reducible exact bl_refl _ | with_reducible assumption | with_reducible refine bl_alloc ?_ _ | with_reducible refine bl_set ?_ ?_ _ | with_reducible refine bl_drewN ?_ _ | with_reducible refine bl_drew ?_ | with_reducible refine bl_call (by assumption) ?_)
  all_goals (first | omega | (simp; done) | (simp; omega))
end Go.Proofs.Ytbbicijmekinkaa
