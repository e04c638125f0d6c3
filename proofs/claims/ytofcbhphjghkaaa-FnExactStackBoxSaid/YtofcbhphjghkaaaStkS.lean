/- The model's stack of boxes. -/
import Derived.Test.YtofcbhphjghkaaaStkB
import Derived.Deep.RegionWith
namespace Go.Proofs.Ytofcbhphjghkaaa
open Go.ChangeShapes Go.WideShapes Go.ChangeAt Go.RowKit
set_option linter.unusedVariables false
set_option maxRecDepth 4000

theorem fo_v (sk : Int) (L : List Gp) (m : Nat) : (fo (js sk) L (m + 1)).v = (tg L m).v := by
  rcases Nat.eq_zero_or_pos m with h | h
  · subst h; rfl
  · rw [fo_more _ _ h]; rfl
/-- How the stack of k + 1 boxes comes from that of k. -/
theorem fo_js {sk : Int} {L : List Gp} {m : Nat} {P Q R a b c : Int} (h : fo (js sk) L (m + 1) = ⟨P, Q, R⟩) (ht : tg L (m + 1) = ⟨a, b, c⟩) :
    fo (js sk) L (m + 1 + 1) = ⟨max P a, Q + R + il sk R b + b, c⟩ := by
  rw [fo_more _ _ (by omega), h, ht]
  rfl
set_option maxHeartbeats 12000000 in
theorem stack_s (w : World) (A : Option Addr) (n c : Nat) (sk : Int) (L : List Gp) (h : TL w A n L) (hk : BTo L L.length) (hl : L.length ≤ 20) (s0 : 0 ≤ sk) (s1 : sk ≤ 10000) :
    Calls Try.prog 58 #[.slice A n c, .int .i64 sk] w fun e w' => e = .returned (rv3 (fo (js sk) L L.length)) ∧ Below w.heap.size w w' := by
  obtain rfl : n = L.length := h.1
  have HI := hide h
  have HK := hide hk
  clear h hk
  go_enter Try.func58, Try.ntmps58
  go_wp2
  go_loopw [6] (fun i u => ∃ (p : Nat) (P Q R : Int), p ≤ L.length ∧ i = .int .i64 p ∧ fo (js sk) L p = ⟨P, Q, R⟩ ∧ Bx u (w.heap.size + 1) P Q R ∧ Bx u w.heap.size 0 0 0 ∧ Below w.heap.size w u) (fun i _ => L.length - (intOf i).toNat)
  case atStart =>
    refine ⟨0, 0, 0, 0, by omega, rfl, rfl, ⟨⟨?_, ?_, ?_⟩, ?_, ?_, ?_⟩, ⟨⟨?_, ?_, ?_⟩, ?_, ?_, ?_⟩, ?_⟩
    all_goals first | (simp [go_sem]; done) | ((repeat' (first | with_reducible exact bl_refl _ | with_reducible assumption | with_reducible refine bl_alloc ?_ _ | with_reducible refine bl_set ?_ ?_ _ | with_reducible refine bl_drewN ?_ _ | with_reducible refine bl_drew ?_ | with_reducible refine bl_call (by assumption) ?_)); (all_goals (first | omega | (simp; done) | (simp; omega))))
  case round =>
    obtain ⟨p, P, Q, R, hp, rfl, hfo, ⟨⟨k0, k1, k2⟩, f0, f1, f2⟩, ⟨⟨j0, j1, j2⟩, g0, g1, g2⟩, hbl⟩ := hrel
    have HFO := hide hfo
    have HB := hide hbl
    have hlk : w.heap.size + 1 < wr.heap.size := World.block_lt_of_cell? wr _ k0
    by_cases hlt : p < L.length
    · obtain ⟨b, o, hA, hb0, hcell⟩ := HI.out.at_ hlt
      subst hA
      have HCL := hide (fun (q : Nat) (hq : q < L.length) => (show wr.cell? ⟨b, o + q * 3, none⟩ = some (.int .i64 (tg L q).a) ∧ wr.cell? ⟨b, o + q * 3 + 1, none⟩ = some (.int .i64 (tg L q).b) ∧ wr.cell? ⟨b, o + q * 3 + 2, none⟩ = some (.int .i64 (tg L q).v) by
        obtain ⟨b', o', hA', _, hc'⟩ := HI.out.at_ hq
        injection hA' with hA'
        injection hA' with e1 e2 e3
        subst e1 e2
        exact ⟨keep_cell hbl (hc' 0 (by decide)), keep_cell hbl (hc' 1 (by decide)), keep_cell hbl (hc' 2 (by decide))⟩))
      obtain ⟨X, Y, Z, hx⟩ : ∃ X Y Z, tg L p = ⟨X, Y, Z⟩ := ⟨(tg L p).a, (tg L p).b, (tg L p).v, rfl⟩
      have hv := vbx_iff.1 (HK.out p hlt)
      rw [hx] at hv
      obtain ⟨c0, c1, c2⟩ := HCL.out p hlt
      rw [hx] at c0 c1 c2
      simp only at c0 c1 c2
      obtain ⟨⟨X0, X1⟩, ⟨Y0, Y1⟩, Z0, Z1⟩ := hv
      simp only at X0 X1 Y0 Y1 Z0 Z1
      have ne0 : ¬ b = w.heap.size := by omega
      have ne1 : ¬ b = w.heap.size + 1 := by omega
      have hbw : b < wr.heap.size := by omega
      rcases Nat.eq_zero_or_pos p with hp0 | hp0
      · subst hp0
        simp only [Nat.zero_mul, Nat.add_zero] at c0 c1 c2
        have N := hide (show fo (js sk) L (0 + 1) = ⟨X, Y, Z⟩ from by rw [← hx]; rfl)
        rw [show fo (js sk) L 0 = ⟨0, 0, 0⟩ from rfl] at hfo
        injection hfo with e1 e2 e3
        subst e1 e2 e3
        have hm : max 0 X = X := by omega
        rcases (by omega : 0 < X ∨ X ≤ 0) with hm1 | hm1
        all_goals
          (try have hX0 : X = 0 := by omega)
          (try subst hX0)
          clear hm hx HFO hcell hb0
          go_wp2
          go_region
          go_wp2
          go_region
          go_wp2
          go_roundw
          case rel =>
            refine ⟨0 + 1, _, _, _, by omega, by go_num, N.out, ⟨⟨?_, ?_, ?_⟩, ?_, ?_, ?_⟩, ⟨⟨?_, ?_, ?_⟩, ?_, ?_, ?_⟩, ?_⟩
            all_goals first | (simp [go_sem, *]; done) | ((repeat' (first | with_reducible exact bl_refl _ | with_reducible assumption | with_reducible refine bl_alloc ?_ _ | with_reducible refine bl_set ?_ ?_ _ | with_reducible refine bl_drewN ?_ _ | with_reducible refine bl_drew ?_ | with_reducible refine bl_call (by assumption) ?_)); (all_goals (first | omega | (simp; done) | (simp; omega))))
          case measure => simp [intOf]; omega
      · obtain ⟨m, hm⟩ : ∃ m, p = m + 1 := ⟨p - 1, by omega⟩
        have em : (p : Int) - 1 = (m : Int) := by omega
        have hml : m < L.length := by omega
        have hv0 := vbx_iff.1 (HK.out m hml)
        have VR : (tg L m).v = R := by rw [← fo_v sk L m, ← hm, hfo]
        have N0 := hide (fo_js (hm ▸ hfo) (hm ▸ hx))
        rw [← hm] at N0
        obtain ⟨d0, d1, d2⟩ := HCL.out m hml
        rw [VR] at d2 hv0
        obtain ⟨U, hU⟩ : ∃ U, U = (tg L m).a := ⟨_, rfl⟩
        obtain ⟨V, hV⟩ : ∃ V, V = (tg L m).b := ⟨_, rfl⟩
        rw [← hU] at d0
        rw [← hV] at d1
        obtain ⟨_, _, R0, R1⟩ := hv0
        have hbd := fo_bd (js_bd s0 s1) (L := L) (k := p) (fun i hi => HK.out i (by omega))
        rw [hfo] at hbd
        obtain ⟨⟨P0, P1⟩, ⟨Q0, Q1⟩, _⟩ := hbd
        simp only at P0 P1 Q0 Q1
        have QB : Q ≤ 1000000 := by omega
        obtain ⟨t, ht⟩ : ∃ t, t = il sk R Y := ⟨_, rfl⟩
        have IB : 1 ≤ il sk R Y ∧ il sk R Y ≤ 10001 := by unfold il; omega
        have CI := fun (u : World) => interline_s U V R X Y Z sk u s0 s1 R0 R1 Y0 Y1
        rw [← ht] at CI IB N0
        obtain ⟨t0, t1⟩ := IB
        have HCI := hide CI
        have HMS := hide (fun (s : Int) (h1 : max P X = s) => (show fo (js sk) L (p + 1) = ⟨s, Q + R + t + Y, Z⟩ by rw [N0.out, ← h1]))
        have hp1 : (0 : Int) < (p : Int) := by omega
        have wm : IntKind.i64.wrap (m : Int) = (m : Int) := IntWalk.i64_in _ (by omega)
        have hm0 : (0 : Int) ≤ (m : Int) := by omega
        have hm2 : (m : Int) < (L.length : Int) := by omega
        have hm3 : (m : Int) ≤ (L.length : Int) := by omega
        have hp2 : (0 : Int) ≤ (p : Int) := by omega
        have hp3 : (p : Int) < (L.length : Int) := by omega
        have hp4 : (p : Int) ≤ (L.length : Int) := by omega
        clear CI ht hU hV VR hfo hx hcell hb0 HCL P1 Q1 N0 HFO
        have hpm := hide hm
        clear hm
        obtain ⟨S, hS⟩ : ∃ S, S = max P X := ⟨_, rfl⟩
        have HN := hide (HMS.out _ hS.symm)
        clear HMS
        rcases (by omega : P < X ∨ X ≤ P) with hm1 | hm1
        · have e : S = X := by omega
          rw [e] at HN
          clear e hS
          go_wp2
          go_region
          go_wp2
          go_region_with (first | (go_at_call 78; (with_reducible refine (HCI.out _).mono ?_); rintro e u1 ⟨rfl, hb⟩; (try (with_reducible have hb := bl_undrew hb)); (have xk0 : u1.cell? ⟨w.heap.size + 1, 0, none⟩ = some (.int .i64 (X)) := keep_cell hb (by simp [go_sem, *])); (have xk1 : u1.cell? ⟨w.heap.size + 1, 1, none⟩ = some (.int .i64 (Q)) := keep_cell hb (by simp [go_sem, *])); (have xk2 : u1.cell? ⟨w.heap.size + 1, 2, none⟩ = some (.int .i64 (R)) := keep_cell hb (by simp [go_sem, *])); (have xc0 : u1.cell? ⟨b, o + p * 3, none⟩ = some (.int .i64 (X)) := keep_cell hb (by simp [go_sem, *])); (have xc1 : u1.cell? ⟨b, o + p * 3 + 1, none⟩ = some (.int .i64 (Y)) := keep_cell hb (by simp [go_sem, *])); (have xc2 : u1.cell? ⟨b, o + p * 3 + 2, none⟩ = some (.int .i64 (Z)) := keep_cell hb (by simp [go_sem, *])); (have xd0 : u1.cell? ⟨b, o + m * 3, none⟩ = some (.int .i64 (U)) := keep_cell hb (by simp [go_sem, *])); (have xd1 : u1.cell? ⟨b, o + m * 3 + 1, none⟩ = some (.int .i64 (V)) := keep_cell hb (by simp [go_sem, *])); (have xd2 : u1.cell? ⟨b, o + m * 3 + 2, none⟩ = some (.int .i64 (R)) := keep_cell hb (by simp [go_sem, *])); (have xj0 : u1.cell? ⟨w.heap.size, 0, none⟩ = some (.int .i64 (0)) := keep_cell hb (by simp [go_sem, *])); (have xj1 : u1.cell? ⟨w.heap.size, 1, none⟩ = some (.int .i64 (0)) := keep_cell hb (by simp [go_sem, *])); (have xj2 : u1.cell? ⟨w.heap.size, 2, none⟩ = some (.int .i64 (0)) := keep_cell hb (by simp [go_sem, *])); (have xf0 : u1.frozen? ⟨w.heap.size + 1, 0, none⟩ = false := (hb.frozen (p := ⟨w.heap.size + 1, 0, none⟩) (by first | (simp; done) | (simp; omega))).trans (by simp [go_sem, *])); (have xf1 : u1.frozen? ⟨w.heap.size + 1, 1, none⟩ = false := (hb.frozen (p := ⟨w.heap.size + 1, 1, none⟩) (by first | (simp; done) | (simp; omega))).trans (by simp [go_sem, *])); (have xf2 : u1.frozen? ⟨w.heap.size + 1, 2, none⟩ = false := (hb.frozen (p := ⟨w.heap.size + 1, 2, none⟩) (by first | (simp; done) | (simp; omega))).trans (by simp [go_sem, *])); (have xg0 : u1.frozen? ⟨w.heap.size, 0, none⟩ = false := (hb.frozen (p := ⟨w.heap.size, 0, none⟩) (by first | (simp; done) | (simp; omega))).trans (by simp [go_sem, *])); (have xg1 : u1.frozen? ⟨w.heap.size, 1, none⟩ = false := (hb.frozen (p := ⟨w.heap.size, 1, none⟩) (by first | (simp; done) | (simp; omega))).trans (by simp [go_sem, *])); (have xg2 : u1.frozen? ⟨w.heap.size, 2, none⟩ = false := (hb.frozen (p := ⟨w.heap.size, 2, none⟩) (by first | (simp; done) | (simp; omega))).trans (by simp [go_sem, *])); have hz := hb.size; simp at hz; (have hlm : w.heap.size + 1 < u1.heap.size := by omega); (have hbu : b < u1.heap.size := by omega)))
          all_goals
            have W1 : IntKind.i64.wrap (Q + R) = Q + R := IntWalk.i64_in _ (by omega)
            have W2 : IntKind.i64.wrap (Q + R + t) = Q + R + t := IntWalk.i64_in _ (by omega)
            have W3 : IntKind.i64.wrap (Q + R + t + Y) = Q + R + t + Y := IntWalk.i64_in _ (by omega)
            rw [W1, W2]
            go_wp2
            go_region
            go_wp2
            go_roundw
            case rel =>
              refine ⟨p + 1, _, _, _, by omega, by go_num, HN.out, ⟨⟨?_, ?_, ?_⟩, ?_, ?_, ?_⟩, ⟨⟨?_, ?_, ?_⟩, ?_, ?_, ?_⟩, ?_⟩
              all_goals first | (simp [go_sem, *]; done) | ((repeat' (first | with_reducible exact bl_refl _ | with_reducible assumption | with_reducible refine bl_alloc ?_ _ | with_reducible refine bl_set ?_ ?_ _ | with_reducible refine bl_drewN ?_ _ | with_reducible refine bl_drew ?_ | with_reducible refine bl_call (by assumption) ?_)); (all_goals (first | omega | (simp; done) | (simp; omega))))
            case measure => simp [intOf]; omega
        · have e : S = P := by omega
          rw [e] at HN
          clear e hS
          go_wp2
          go_region
          go_wp2
          go_region_with (first | (go_at_call 78; (with_reducible refine (HCI.out _).mono ?_); rintro e u1 ⟨rfl, hb⟩; (try (with_reducible have hb := bl_undrew hb)); (have xk0 : u1.cell? ⟨w.heap.size + 1, 0, none⟩ = some (.int .i64 (P)) := keep_cell hb (by simp [go_sem, *])); (have xk1 : u1.cell? ⟨w.heap.size + 1, 1, none⟩ = some (.int .i64 (Q)) := keep_cell hb (by simp [go_sem, *])); (have xk2 : u1.cell? ⟨w.heap.size + 1, 2, none⟩ = some (.int .i64 (R)) := keep_cell hb (by simp [go_sem, *])); (have xc0 : u1.cell? ⟨b, o + p * 3, none⟩ = some (.int .i64 (X)) := keep_cell hb (by simp [go_sem, *])); (have xc1 : u1.cell? ⟨b, o + p * 3 + 1, none⟩ = some (.int .i64 (Y)) := keep_cell hb (by simp [go_sem, *])); (have xc2 : u1.cell? ⟨b, o + p * 3 + 2, none⟩ = some (.int .i64 (Z)) := keep_cell hb (by simp [go_sem, *])); (have xd0 : u1.cell? ⟨b, o + m * 3, none⟩ = some (.int .i64 (U)) := keep_cell hb (by simp [go_sem, *])); (have xd1 : u1.cell? ⟨b, o + m * 3 + 1, none⟩ = some (.int .i64 (V)) := keep_cell hb (by simp [go_sem, *])); (have xd2 : u1.cell? ⟨b, o + m * 3 + 2, none⟩ = some (.int .i64 (R)) := keep_cell hb (by simp [go_sem, *])); (have xj0 : u1.cell? ⟨w.heap.size, 0, none⟩ = some (.int .i64 (0)) := keep_cell hb (by simp [go_sem, *])); (have xj1 : u1.cell? ⟨w.heap.size, 1, none⟩ = some (.int .i64 (0)) := keep_cell hb (by simp [go_sem, *])); (have xj2 : u1.cell? ⟨w.heap.size, 2, none⟩ = some (.int .i64 (0)) := keep_cell hb (by simp [go_sem, *])); (have xf0 : u1.frozen? ⟨w.heap.size + 1, 0, none⟩ = false := (hb.frozen (p := ⟨w.heap.size + 1, 0, none⟩) (by first | (simp; done) | (simp; omega))).trans (by simp [go_sem, *])); (have xf1 : u1.frozen? ⟨w.heap.size + 1, 1, none⟩ = false := (hb.frozen (p := ⟨w.heap.size + 1, 1, none⟩) (by first | (simp; done) | (simp; omega))).trans (by simp [go_sem, *])); (have xf2 : u1.frozen? ⟨w.heap.size + 1, 2, none⟩ = false := (hb.frozen (p := ⟨w.heap.size + 1, 2, none⟩) (by first | (simp; done) | (simp; omega))).trans (by simp [go_sem, *])); (have xg0 : u1.frozen? ⟨w.heap.size, 0, none⟩ = false := (hb.frozen (p := ⟨w.heap.size, 0, none⟩) (by first | (simp; done) | (simp; omega))).trans (by simp [go_sem, *])); (have xg1 : u1.frozen? ⟨w.heap.size, 1, none⟩ = false := (hb.frozen (p := ⟨w.heap.size, 1, none⟩) (by first | (simp; done) | (simp; omega))).trans (by simp [go_sem, *])); (have xg2 : u1.frozen? ⟨w.heap.size, 2, none⟩ = false := (hb.frozen (p := ⟨w.heap.size, 2, none⟩) (by first | (simp; done) | (simp; omega))).trans (by simp [go_sem, *])); have hz := hb.size; simp at hz; (have hlm : w.heap.size + 1 < u1.heap.size := by omega); (have hbu : b < u1.heap.size := by omega)))
          all_goals
            have W1 : IntKind.i64.wrap (Q + R) = Q + R := IntWalk.i64_in _ (by omega)
            have W2 : IntKind.i64.wrap (Q + R + t) = Q + R + t := IntWalk.i64_in _ (by omega)
            have W3 : IntKind.i64.wrap (Q + R + t + Y) = Q + R + t + Y := IntWalk.i64_in _ (by omega)
            rw [W1, W2]
            go_wp2
            go_region
            go_wp2
            go_roundw
            case rel =>
              refine ⟨p + 1, _, _, _, by omega, by go_num, HN.out, ⟨⟨?_, ?_, ?_⟩, ?_, ?_, ?_⟩, ⟨⟨?_, ?_, ?_⟩, ?_, ?_, ?_⟩, ?_⟩
              all_goals first | (simp [go_sem, *]; done) | ((repeat' (first | with_reducible exact bl_refl _ | with_reducible assumption | with_reducible refine bl_alloc ?_ _ | with_reducible refine bl_set ?_ ?_ _ | with_reducible refine bl_drewN ?_ _ | with_reducible refine bl_drew ?_ | with_reducible refine bl_call (by assumption) ?_)); (all_goals (first | omega | (simp; done) | (simp; omega))))
            case measure => simp [intOf]; omega
    · have E := hide (show fo (js sk) L L.length = ⟨P, Q, R⟩ by rw [show L.length = p from by omega]; exact HFO.out)
      go_wp2
      refine bodyPost_ret (v := rv3 ⟨P, Q, R⟩) (by simp [results, Try.results58, go_sem, *]) rfl ⟨by rw [E.out], ?_⟩
      repeat' (first | with_reducible exact bl_refl _ | with_reducible assumption | with_reducible refine bl_alloc ?_ _ | with_reducible refine bl_set ?_ ?_ _ | with_reducible refine bl_drewN ?_ _ | with_reducible refine bl_drew ?_ | with_reducible refine bl_call (by assumption) ?_)
      all_goals (first | omega | (simp; done) | (simp; omega))
end Go.Proofs.Ytofcbhphjghkaaa
