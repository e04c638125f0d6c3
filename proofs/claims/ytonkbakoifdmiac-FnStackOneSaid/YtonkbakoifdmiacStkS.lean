/- The model's stack of boxes. -/
import Derived.Test.YtonkbakoifdmiacStkB
import Derived.Deep.RegionWith
import Derived.Deep.CutRange
namespace Go.Proofs.Ytonkbakoifdmiac
open Go.ChangeShapes Go.WideShapes Go.ChangeAt Go.RowKit
set_option linter.unusedVariables false
set_option maxRecDepth 4000

theorem fo_v (sk : Int) (L : List Gp) (m : Nat) : (fo (js sk) L (m + 1)).v = (tg L m).v := by
  rcases Nat.eq_zero_or_pos m with h | h
  · subst h; rfl
  · rw [fo_more _ _ h]; rfl
/-- How the stack of k + 1 boxes comes from that of k. -/
theorem fo_js {sk : Int} {L : List Gp} {m : Nat} {P Q R a b c : Int} (h : fo (js sk) L (m + 1) = ⟨P, Q, R⟩) (ht : tg L (m + 1) = ⟨a, b, c⟩) :
    fo (js sk) L (m + 1 + 1) = ⟨max P a, Q + R + il sk R b + b, c⟩ := by
  rw [fo_more _ _ (by omega), h, ht]
  rfl
theorem Bx.set1 {u : World} {g : Nat} {a b c : Int} (h : Bx u g a b c) (z : Int) : Bx (u.setCell ⟨g, 1, none⟩ (.int .i64 z)) g a z c := by
  obtain ⟨⟨h0, h1, h2⟩, f0, f1, f2⟩ := h
  refine ⟨⟨keep_set h0 (by simp) _, ?_, keep_set h2 (by simp) _⟩, ?_, ?_, ?_⟩
  · rw [World.cell?_setCell_same (h := h1)]
  all_goals simpa
theorem Bx.far {u : World} {g q : Nat} {a b c : Int} (h : Bx u g a b c) (k : Nat) (hne : g ≠ q) (v : Value) : Bx (u.setCell ⟨q, k, none⟩ v) g a b c := by
  obtain ⟨⟨h0, h1, h2⟩, f0, f1, f2⟩ := h
  have ne : ∀ o, (⟨g, o, none⟩ : Addr) ≠ ⟨q, k, none⟩ := fun o e => hne (by injection e)
  refine ⟨⟨keep_set h0 (ne 0) _, keep_set h1 (ne 1) _, keep_set h2 (ne 2) _⟩, ?_, ?_, ?_⟩
  all_goals simpa
theorem Bx.drewN {u : World} {g : Nat} {a b c : Int} (h : Bx u g a b c) (k : Nat) : Bx (u.drewN k) g a b c := h
set_option maxHeartbeats 4000000 in
theorem stack_s (w : World) (A : Option Addr) (n c : Nat) (sk : Int) (L : List Gp) (h : TL w A n L) (hk : BTo L L.length) (hl : L.length ≤ 20) (s0 : 0 ≤ sk) (s1 : sk ≤ 10000) :
    Calls Try.prog 45 #[.slice A n c, .int .i64 sk] w fun e w' => e = .returned (rv3 (fo (js sk) L L.length)) ∧ Below w.heap.size w w' := by
  obtain rfl : n = L.length := h.1
  have HI := hide h
  have HK := hide hk
  clear h hk
  go_enter Try.func45, Try.ntmps45
  go_wp2
  go_loopg [6] L.length (fun k i u => ∃ (p : Nat) (P Q R : Int), p ≤ L.length ∧ L.length - p ≤ k ∧ i = .int .i64 p ∧ fo (js sk) L p = ⟨P, Q, R⟩ ∧ Bx u (w.heap.size + 1) P Q R ∧ Bx u w.heap.size 0 0 0 ∧ Below w.heap.size w u)
  case atStart =>
    refine ⟨0, 0, 0, 0, by omega, by omega, rfl, rfl, ⟨⟨?_, ?_, ?_⟩, ?_, ?_, ?_⟩, ⟨⟨?_, ?_, ?_⟩, ?_, ?_, ?_⟩, ?_⟩
    all_goals first | (simp [go_sem]; done) | ((repeat' (first | with_reducible exact bl_refl _ | with_reducible assumption | with_reducible refine bl_alloc ?_ _ | with_reducible refine bl_set ?_ ?_ _ | with_reducible refine bl_drewN ?_ _ | with_reducible refine bl_drew ?_ | with_reducible refine bl_call (by assumption) ?_)); (all_goals (first | omega | (simp; done) | (simp; omega))))
  case round =>
    obtain ⟨p, P, Q, R, hp, hkk, rfl, hfo, ⟨⟨k0, k1, k2⟩, f0, f1, f2⟩, ⟨⟨j0, j1, j2⟩, g0, g1, g2⟩, hbl⟩ := hrel
    have HFO := hide hfo
    have HB := hide hbl
    have hlk : w.heap.size + 1 < wr.heap.size := World.block_lt_of_cell? wr _ k0
    by_cases hlt : p < L.length
    · obtain ⟨b, o, hA, hb0, hcell⟩ := HI.out.at_ hlt
      subst hA
      have HCL := hide (fun (u : World) (hu : Below w.heap.size w u) (q : Nat) (hq : q < L.length) => (show u.cell? ⟨b, o + q * 3, none⟩ = some (.int .i64 (tg L q).a) ∧ u.cell? ⟨b, o + q * 3 + 1, none⟩ = some (.int .i64 (tg L q).b) ∧ u.cell? ⟨b, o + q * 3 + 2, none⟩ = some (.int .i64 (tg L q).v) by
        obtain ⟨b', o', hA', _, hc'⟩ := HI.out.at_ hq
        injection hA' with hA'
        injection hA' with e1 e2 e3
        subst e1 e2
        exact ⟨keep_cell hu (hc' 0 (by decide)), keep_cell hu (hc' 1 (by decide)), keep_cell hu (hc' 2 (by decide))⟩))
      obtain ⟨X, Y, Z, hx⟩ : ∃ X Y Z, tg L p = ⟨X, Y, Z⟩ := ⟨(tg L p).a, (tg L p).b, (tg L p).v, rfl⟩
      have hv := vbx_iff.1 (HK.out p hlt)
      rw [hx] at hv
      have CX := fun (u : World) (hu : Below w.heap.size w u) => HCL.out u hu p hlt
      simp only [hx] at CX
      have HCX := hide CX
      obtain ⟨c0, c1, c2⟩ := CX wr hbl
      clear CX
      obtain ⟨⟨X0, X1⟩, ⟨Y0, Y1⟩, Z0, Z1⟩ := hv
      simp only at X0 X1 Y0 Y1 Z0 Z1
      have ne0 : ¬ b = w.heap.size := by omega
      have ne1 : ¬ b = w.heap.size + 1 := by omega
      have hbw : b < wr.heap.size := by omega
      rcases Nat.eq_zero_or_pos p with hp0 | hp0
      · subst hp0
        simp only [Nat.zero_mul, Nat.add_zero] at c0 c1 c2
        have N := hide (show fo (js sk) L (0 + 1) = ⟨X, Y, Z⟩ from by rw [← hx]; rfl)
        rw [show fo (js sk) L 0 = ⟨0, 0, 0⟩ from rfl] at hfo
        injection hfo with e1 e2 e3
        subst e1 e2 e3
        have hm : max 0 X = X := by omega
        rcases (by omega : 0 < X ∨ X ≤ 0) with hm1 | hm1
        all_goals
          (try have hX0 : X = 0 := by omega)
          (try subst hX0)
          clear hm hx HFO hcell hb0
          go_wp2
          go_region
          go_wp2
          go_region
          go_wp2
          go_roundg (L.length - 1)
          case rel =>
            refine ⟨0 + 1, _, _, _, by omega, by omega, by go_num, N.out, ⟨⟨?_, ?_, ?_⟩, ?_, ?_, ?_⟩, ⟨⟨?_, ?_, ?_⟩, ?_, ?_, ?_⟩, ?_⟩
            all_goals first | (simp [go_sem, *]; done) | ((repeat' (first | with_reducible exact bl_refl _ | with_reducible assumption | with_reducible refine bl_alloc ?_ _ | with_reducible refine bl_set ?_ ?_ _ | with_reducible refine bl_drewN ?_ _ | with_reducible refine bl_drew ?_ | with_reducible refine bl_call (by assumption) ?_)); (all_goals (first | omega | (simp; done) | (simp; omega))))
          case measure => omega
      · obtain ⟨m, hm⟩ : ∃ m, p = m + 1 := ⟨p - 1, by omega⟩
        have em : (p : Int) - 1 = (m : Int) := by omega
        have hml : m < L.length := by omega
        have hv0 := vbx_iff.1 (HK.out m hml)
        have VR : (tg L m).v = R := by rw [← fo_v sk L m, ← hm, hfo]
        have N0 := hide (fo_js (hm ▸ hfo) (hm ▸ hx))
        rw [← hm] at N0
        have CD := fun (u : World) (hu : Below w.heap.size w u) => HCL.out u hu m hml
        simp only [VR] at CD
        rw [VR] at hv0
        obtain ⟨U, hU⟩ : ∃ U, U = (tg L m).a := ⟨_, rfl⟩
        obtain ⟨V, hV⟩ : ∃ V, V = (tg L m).b := ⟨_, rfl⟩
        rw [← hU, ← hV] at CD
        have HCD := hide CD
        obtain ⟨_, _, R0, R1⟩ := hv0
        have hbd := fo_bd (js_bd s0 s1) (L := L) (k := p) (fun i hi => HK.out i (by omega))
        rw [hfo] at hbd
        obtain ⟨⟨P0, P1⟩, ⟨Q0, Q1⟩, _⟩ := hbd
        simp only at P0 P1 Q0 Q1
        have QB : Q ≤ 1000000 := by omega
        obtain ⟨t, ht⟩ : ∃ t, t = il sk R Y := ⟨_, rfl⟩
        have IB : 1 ≤ il sk R Y ∧ il sk R Y ≤ 10001 := by unfold il; omega
        have CI := fun (u : World) => interline_s U V R X Y Z sk u s0 s1 R0 R1 Y0 Y1
        rw [← ht] at CI IB N0
        obtain ⟨t0, t1⟩ := IB
        have HCI := hide CI
        obtain ⟨S, hS⟩ : ∃ S, S = max P X := ⟨_, rfl⟩
        have HN := hide (show fo (js sk) L (p + 1) = ⟨S, Q + R + t + Y, Z⟩ by rw [N0.out, ← hS])
        have HSX := hide (show (P < X → S = X) ∧ (X ≤ P → S = P) from ⟨fun h => by omega, fun h => by omega⟩)
        have S0 : 0 ≤ S := by omega
        have S1 : S ≤ 1000000 := by omega
        have hp1 : (0 : Int) < (p : Int) := by omega
        have wm : IntKind.i64.wrap (m : Int) = (m : Int) := IntWalk.i64_in _ (by omega)
        have hm0 : (0 : Int) ≤ (m : Int) := by omega
        have hm2 : (m : Int) < (L.length : Int) := by omega
        have hm3 : (m : Int) ≤ (L.length : Int) := by omega
        have hp2 : (0 : Int) ≤ (p : Int) := by omega
        have hp3 : (p : Int) < (L.length : Int) := by omega
        have hp4 : (p : Int) ≤ (L.length : Int) := by omega
        have HBK := hide (show Bx wr (w.heap.size + 1) P Q R from ⟨⟨k0, k1, k2⟩, f0, f1, f2⟩)
        have HBJ := hide (show Bx wr w.heap.size 0 0 0 from ⟨⟨j0, j1, j2⟩, g0, g1, g2⟩)
        clear CI CD ht hU hV VR hfo hx hcell hb0 HCL P1 Q1 N0 HFO hS hbl
        have hpm := hide hm
        clear hm
        go_wp2
        go_cut [] from 8 to 61 (fun wx => Bx wx (w.heap.size + 1) S Q R ∧ Bx wx w.heap.size 0 0 0 ∧ Below w.heap.size w wx)
        case first =>
          rcases (by omega : P < X ∨ X ≤ P) with hm1 | hm1
          · obtain rfl := HSX.out.1 hm1
            go_region
            all_goals (try go_wp2_with fail)
            all_goals go_meet
            all_goals
              refine ⟨⟨⟨?_, ?_, ?_⟩, ?_, ?_, ?_⟩, ⟨⟨?_, ?_, ?_⟩, ?_, ?_, ?_⟩, ?_⟩
              all_goals first | (simp [go_sem, *]; done) | exact bl_set (bl_drew HB.out) (by show w.heap.size ≤ w.heap.size + 1; omega) _ | exact bl_set (bl_drewN HB.out _) (by show w.heap.size ≤ w.heap.size + 1; omega) _ | exact bl_set HB.out (by show w.heap.size ≤ w.heap.size + 1; omega) _ | exact bl_drew (bl_set HB.out (by show w.heap.size ≤ w.heap.size + 1; omega) _)
          · obtain rfl := HSX.out.2 hm1
            go_region
            all_goals (try go_wp2_with fail)
            all_goals go_meet
            all_goals
              refine ⟨⟨⟨?_, ?_, ?_⟩, ?_, ?_, ?_⟩, ⟨⟨?_, ?_, ?_⟩, ?_, ?_, ?_⟩, ?_⟩
              all_goals first | (simp [go_sem, *]; done) | exact bl_set (bl_drew HB.out) (by show w.heap.size ≤ w.heap.size + 1; omega) _ | exact bl_set (bl_drewN HB.out _) (by show w.heap.size ≤ w.heap.size + 1; omega) _ | exact bl_set HB.out (by show w.heap.size ≤ w.heap.size + 1; omega) _ | exact bl_drew (bl_set HB.out (by show w.heap.size ≤ w.heap.size + 1; omega) _)
        case rest =>
          obtain ⟨hbk, hbj, hbw⟩ := hcut
          have HBK2 := hide hbk
          have HBJ2 := hide hbj
          have HBW := hide hbw
          obtain ⟨⟨x0, x1, x2⟩, y0, y1, y2⟩ := hbk
          obtain ⟨c0, c1, c2⟩ := HCX.out wc hbw
          obtain ⟨d0, d1, d2⟩ := HCD.out wc hbw
          have hz := hbw.size
          have hlk2 : w.heap.size + 1 < wc.heap.size := World.block_lt_of_cell? wc _ x0
          have hbc : b < wc.heap.size := World.block_lt_of_cell? wc _ c0
          have WQ := hide (show IntKind.i64.wrap (Q + R) = Q + R from IntWalk.i64_in _ (by omega))
          have WT := hide (show IntKind.i64.wrap (Q + R + t) = Q + R + t from IntWalk.i64_in _ (by omega))
          have WY := hide (show IntKind.i64.wrap (Q + R + t + Y) = Q + R + t + Y from IntWalk.i64_in _ (by omega))
          clear hbj hbw X0 X1 Y0 Y1 Z0 Z1 R0 R1 P0 Q0 QB t0 t1 S0 S1 k0 k1 k2 f0 f1 f2 j0 j1 j2 g0 g1 g2 HBK HBJ HSX HB
          go_wp2
          go_cut [] from 8 to 61 (fun wx => Bx wx (w.heap.size + 1) S (Q + R + t) R ∧ Bx wx w.heap.size 0 0 0 ∧ Below w.heap.size w wx)
          case first =>
            go_region_with (first | (go_at_call 66; (with_reducible refine (HCI.out _).mono ?_); rintro e u1 ⟨rfl, hb⟩; (try (with_reducible have hb := bl_undrew hb)); have xk1 := keep_cell hb x1; have xd2 := keep_cell hb d2; have xg := (hb.frozen (p := ⟨w.heap.size + 1, 1, none⟩) hlk2).trans y1; have hz2 := hb.size; (have hlm : w.heap.size + 1 < u1.heap.size := by omega); (have hbu : b < u1.heap.size := by omega)))
            all_goals (try go_wp2_with fail)
            all_goals go_meet
            all_goals
              (try simp only [WQ.out, WT.out])
              exact ⟨(HBK2.out.below hb).set1 _, (HBJ2.out.below hb).far 1 (by omega) _, bl_set (bl_call hb HBW.out) (by show w.heap.size ≤ w.heap.size + 1; omega) _⟩
          case rest =>
            clear x0 x1 x2 y0 y1 y2 c0 c1 c2 d0 d1 d2 HBK2 HBJ2 HBW hlk2 hbc
            obtain ⟨⟨⟨x0, x1, x2⟩, y0, y1, y2⟩, ⟨⟨v0, v1, v2⟩, q0, q1, q2⟩, hbw⟩ := hcut
            obtain ⟨c0, c1, c2⟩ := HCX.out wc hbw
            have hlk2 : w.heap.size + 1 < wc.heap.size := World.block_lt_of_cell? wc _ x0
            have hbc : b < wc.heap.size := World.block_lt_of_cell? wc _ c0
            have WY2 := WY.out
            have HBW := hide hbw
            clear hbw
            go_wp2
            go_region
            all_goals
              go_wp2
              go_roundg (L.length - (p + 1))
              case rel =>
                refine ⟨p + 1, _, _, _, by omega, by omega, by go_num, HN.out, ⟨⟨?_, ?_, ?_⟩, ?_, ?_, ?_⟩, ⟨⟨?_, ?_, ?_⟩, ?_, ?_, ?_⟩, ?_⟩
                all_goals first | (simp [go_sem, *]; done) | ((repeat' (first | with_reducible exact bl_refl _ | with_reducible assumption | with_reducible refine bl_alloc ?_ _ | with_reducible refine bl_set ?_ ?_ _ | with_reducible refine bl_drewN ?_ _ | with_reducible refine bl_drew ?_ | with_reducible refine bl_call (by assumption) ?_)); all_goals first | exact HBW.out | (show w.heap.size ≤ w.heap.size + 1; omega) | (simp; done) | (simp; omega))
              case measure => omega
    · have E := hide (show fo (js sk) L L.length = ⟨P, Q, R⟩ by rw [show L.length = p from by omega]; exact HFO.out)
      go_wp2
      refine bodyPost_ret (v := rv3 ⟨P, Q, R⟩) (by simp [results, Try.results45, go_sem, *]) rfl ⟨by rw [E.out], ?_⟩
      repeat' (first | with_reducible exact bl_refl _ | with_reducible assumption | with_reducible refine bl_alloc ?_ _ | with_reducible refine bl_set ?_ ?_ _ | with_reducible refine bl_drewN ?_ _ | with_reducible refine bl_drew ?_ | with_reducible refine bl_call (by assumption) ?_)
      all_goals (first | omega | (simp; done) | (simp; omega))
end Go.Proofs.Ytonkbakoifdmiac
