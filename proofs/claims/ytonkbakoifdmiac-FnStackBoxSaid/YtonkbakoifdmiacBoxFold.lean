/- Boxes that are joined one after the other, by whatever joins two of them. -/
import Derived.Test.YtonkbakoifdmiacBoxM
import Derived.Test.YtonkbakoifdmiacExBox
import Derived.LoopTactic
import Derived.Deep.RegionWith
namespace Go.Proofs.Ytonkbakoifdmiac
open Go.ChangeShapes Go.WideShapes Go.ChangeAt Go.RowKit
set_option linter.unusedVariables false

/-- A box in a block of its own. -/
def Bx (u : World) (g : Nat) (a b c : Int) : Prop := (u.cell? ⟨g, 0, none⟩ = some (.int .i64 a) ∧ u.cell? ⟨g, 1, none⟩ = some (.int .i64 b) ∧ u.cell? ⟨g, 2, none⟩ = some (.int .i64 c)) ∧ u.frozen? ⟨g, 0, none⟩ = false ∧ u.frozen? ⟨g, 1, none⟩ = false ∧ u.frozen? ⟨g, 2, none⟩ = false
theorem Bx.below {u u' : World} {g : Nat} {a b c : Int} (h : Bx u g a b c) (hb : Below u.heap.size u u') : Bx u' g a b c := by
  obtain ⟨⟨h0, h1, h2⟩, f0, f1, f2⟩ := h
  have hl : g < u.heap.size := World.block_lt_of_cell? u _ h0
  exact ⟨⟨keep_cell hb h0, keep_cell hb h1, keep_cell hb h2⟩, (hb.frozen (p := ⟨g, 0, none⟩) hl).trans f0, (hb.frozen (p := ⟨g, 1, none⟩) hl).trans f1, (hb.frozen (p := ⟨g, 2, none⟩) hl).trans f2⟩
theorem Bx.alloc {u : World} {g : Nat} {a b c : Int} (h : Bx u g a b c) (o : Obj) : Bx (u.alloc o) g a b c := h.below (bl_alloc (bl_refl _) _)
theorem Bx.lt {u : World} {g : Nat} {a b c : Int} (h : Bx u g a b c) : g < u.heap.size := World.block_lt_of_cell? u _ h.1.1
theorem Bx.new (u : World) (a b c : Int) (t : TypeId) : Bx (u.alloc (.cells #[.int .i64 a, .int .i64 b, .int .i64 c] t)) u.heap.size a b c := by
  refine ⟨⟨?_, ?_, ?_⟩, ?_, ?_, ?_⟩ <;> simp [go_sem]

set_option maxHeartbeats 8000000 in
theorem fold_beside (w : World) (A : Option Addr) (n c : Nat) (L : List Gp) (v1 : Value) (J : Gp → Gp → Gp) (hbd : ∀ k x y, BB k x → vbx y = true → BB (k + 1) (J x y))
    (hJ : ∀ (u : World) (k : Nat) (x y : Gp), Below w.heap.size w u → k ≤ 20 → BB k x → vbx y = true → Calls Try.prog 40 #[rv3 x, rv3 y] u fun e u' => e = .returned (rv3 (J x y)) ∧ Below u.heap.size u u')
    (h : TL w A n L) (hn : n ≤ 4611686018427387904) :
    Calls Try.prog 39 #[.slice A n c, .func (.func 40) #[] #[]] w fun e w' => e = .returned (fov J L) ∧ Below w.heap.size w w' := by
  obtain rfl : n = L.length := h.1
  have HI := hide h
  have HJJ := hide hJ
  have HBD := hide hbd
  clear h hJ hbd
  rcases (by omega : 20 < L.length ∨ L.length ≤ 20) with h20 | h20
  · have E := hide (fov_no (J := J) (L := L) (by rw [fob, bok_no (fun x => by omega)]; rfl))
    go_enter Try.func39, Try.ntmps39
    go_wp2
    (refine bodyPost_ret (v := .tuple #[gv 0 0 0, .bool false]) (by simp [results, Try.results39, go_sem, *]) rfl ⟨by rw [E.out], ?_⟩; (repeat' (first | with_reducible exact bl_refl _ | with_reducible assumption | with_reducible refine bl_alloc ?_ _ | with_reducible refine bl_set ?_ ?_ _ | with_reducible refine bl_drewN ?_ _ | with_reducible refine bl_drew ?_ | with_reducible refine bl_call (by assumption) ?_)); (all_goals (first | omega | (simp; done) | (simp; omega))))
  go_enter Try.func39, Try.ntmps39
  go_wp2
  go_loopw [15] (fun i u => ∃ (p : Nat) (P Q R : Int), p ≤ L.length ∧ i = .int .i64 p ∧ fo J L p = ⟨P, Q, R⟩ ∧ BTo L p ∧ Bx u (w.heap.size + 1) P Q R ∧ Bx u w.heap.size 0 0 0 ∧ Below w.heap.size w u) (fun i _ => L.length - (intOf i).toNat)
  case atStart =>
    refine ⟨0, 0, 0, 0, by omega, rfl, rfl, BTo.zero _, ⟨⟨?_, ?_, ?_⟩, ?_, ?_, ?_⟩, ⟨⟨?_, ?_, ?_⟩, ?_, ?_, ?_⟩, ?_⟩
    all_goals first | (simp [go_sem]; done) | ((repeat' (first | with_reducible exact bl_refl _ | with_reducible assumption | with_reducible refine bl_alloc ?_ _ | with_reducible refine bl_set ?_ ?_ _ | with_reducible refine bl_drewN ?_ _ | with_reducible refine bl_drew ?_ | with_reducible refine bl_call (by assumption) ?_)); (all_goals (first | omega | (simp; done) | (simp; omega))))
  case round =>
    obtain ⟨p, P, Q, R, hp, rfl, hfo, hbt, hk, hj, hbl⟩ := hrel
    have HFO := hide hfo
    have HBT := hide hbt
    have HK := hide hk
    have HJ := hide hj
    have HB := hide hbl
    have hlw := hj.lt
    have hlk := hk.lt
    by_cases hlt : p < L.length
    · obtain ⟨b, o, hA, hb0, hcell⟩ := HI.out.at_ hlt
      subst hA
      obtain ⟨X, Y, Z, hx⟩ : ∃ X Y Z, tg L p = ⟨X, Y, Z⟩ := ⟨(tg L p).a, (tg L p).b, (tg L p).v, rfl⟩
      have c0 : wr.cell? ⟨b, o + p * 3, none⟩ = some (.int .i64 X) := keep_cell hbl (by have := hcell 0 (by decide); rw [hx] at this; exact this)
      have c1 : wr.cell? ⟨b, o + p * 3 + 1, none⟩ = some (.int .i64 Y) := keep_cell hbl (by have := hcell 1 (by decide); rw [hx] at this; exact this)
      have c2 : wr.cell? ⟨b, o + p * 3 + 2, none⟩ = some (.int .i64 Z) := keep_cell hbl (by have := hcell 2 (by decide); rw [hx] at this; exact this)
      have HX := hide hx
      clear hcell hfo hbt hk hj hbl hx
      cases q : vb X Y Z
      · have E := hide (fov_no (J := J) (L := L) (by rw [fob, bok_bad hlt (by rw [HX.out]; exact q)]; rfl))
        go_wp2_with fail
        (with_reducible refine (ValidBox_i _ _ _ _).mono ?_)
        rintro e u1 ⟨rfl, hb⟩
        rw [q]
        obtain ⟨⟨j0, j1, j2⟩, g0, g1, g2⟩ := (HJ.out.alloc _).below hb
        have HB1 := hide (bl_call hb (bl_alloc HB.out _))
        have hz := hb.size
        simp at hz
        clear hb
        go_wp2
        refine bodyPost_ret (v := .tuple #[gv 0 0 0, .bool false]) (by simp [results, Try.results39, go_sem, *]) rfl ⟨by rw [E.out], ?_⟩
        have hb := HB1.out
        repeat' (first | with_reducible exact bl_refl _ | with_reducible assumption | with_reducible refine bl_alloc ?_ _ | with_reducible refine bl_set ?_ ?_ _ | with_reducible refine bl_drewN ?_ _ | with_reducible refine bl_drew ?_ | with_reducible refine bl_call (by assumption) ?_)
        all_goals (first | omega | (simp; done) | (simp; omega))
      · have ST := hide (HBT.out.step (k := p) (by rw [HX.out]; exact q))
        have hbd := fo_bd HBD.out (L := L) (k := p) HBT.out
        rw [HFO.out] at hbd
        have HBB := hide hbd
        have VQ := hide q
        clear hbd
        go_wp2_with fail
        (with_reducible refine (ValidBox_i _ _ _ _).mono ?_)
        rintro e u1 ⟨rfl, hb⟩
        rw [VQ.out]
        have HM1 := hide ((Bx.new wr X Y Z _).below hb)
        have HK1 := hide ((HK.out.alloc _).below hb)
        have HJ1 := hide ((HJ.out.alloc _).below hb)
        have HB1 := hide (bl_call hb (bl_alloc HB.out _))
        have hz := hb.size
        simp at hz
        clear hb c0 c1 c2 q
        rcases Nat.eq_zero_or_pos p with hp0 | hp0
        · have g0 : ((p : Int) == 0) = true := beq_iff_eq.2 (by omega)
          have N : Hid (fo J L (p + 1) = ⟨X, Y, Z⟩) := hide (by
            subst hp0
            rw [fo_one]
            exact HX.out)
          obtain ⟨⟨m0, m1, m2⟩, n0, n1, n2⟩ := HM1.out
          obtain ⟨⟨k0, k1, k2⟩, f0, f1, f2⟩ := HK1.out
          obtain ⟨⟨j0, j1, j2⟩, g0, g1, g2⟩ := HJ1.out
          go_wp2
          go_roundw
          case rel =>
            refine ⟨p + 1, _, _, _, by omega, by go_num, N.out, ST.out, ⟨⟨?_, ?_, ?_⟩, ?_, ?_, ?_⟩, ⟨⟨?_, ?_, ?_⟩, ?_, ?_, ?_⟩, ?_⟩
            all_goals first | (simp [go_sem, *]; done) | (have hb := HB1.out; (repeat' (first | with_reducible exact bl_refl _ | with_reducible assumption | with_reducible refine bl_alloc ?_ _ | with_reducible refine bl_set ?_ ?_ _ | with_reducible refine bl_drewN ?_ _ | with_reducible refine bl_drew ?_ | with_reducible refine bl_call (by assumption) ?_)); (all_goals (first | omega | (simp; done) | (simp; omega))))
          case measure => simp [intOf]; omega
        · have g0 : ((p : Int) == 0) = false := beq_eq_false_iff_ne.2 (by omega)
          obtain ⟨X', Y', Z', hjj⟩ : ∃ X' Y' Z', J ⟨P, Q, R⟩ ⟨X, Y, Z⟩ = ⟨X', Y', Z'⟩ := ⟨(J ⟨P, Q, R⟩ ⟨X, Y, Z⟩).a, (J ⟨P, Q, R⟩ ⟨X, Y, Z⟩).b, (J ⟨P, Q, R⟩ ⟨X, Y, Z⟩).v, rfl⟩
          have N : Hid (fo J L (p + 1) = ⟨X', Y', Z'⟩) := hide (by
            rw [fo_more J L hp0, HFO.out, HX.out]
            exact hjj)
          have CJ := fun (u : World) (hu : Below w.heap.size w u) => HJJ.out u p ⟨P, Q, R⟩ ⟨X, Y, Z⟩ hu (by omega) HBB.out VQ.out
          rw [hjj] at CJ
          have HCJ := hide CJ
          obtain ⟨⟨m0, m1, m2⟩, n0, n1, n2⟩ := HM1.out
          obtain ⟨⟨k0, k1, k2⟩, f0, f1, f2⟩ := HK1.out
          clear CJ hjj
          go_wp2_with fail
          (with_reducible refine (HCJ.out _ HB1.out).mono ?_)
          rintro e u2 ⟨rfl, hb⟩
          clear m0 m1 m2 n0 n1 n2 k0 k1 k2 f0 f1 f2
          obtain ⟨⟨k0, k1, k2⟩, f0, f1, f2⟩ := HK1.out.below hb
          obtain ⟨⟨j0, j1, j2⟩, g0, g1, g2⟩ := HJ1.out.below hb
          have HB2 := hide (bl_call hb HB1.out)
          have hz2 := hb.size
          clear hb
          go_wp2
          go_roundw
          case rel =>
            refine ⟨p + 1, _, _, _, by omega, by go_num, N.out, ST.out, ⟨⟨?_, ?_, ?_⟩, ?_, ?_, ?_⟩, ⟨⟨?_, ?_, ?_⟩, ?_, ?_, ?_⟩, ?_⟩
            all_goals first | (simp [go_sem, *]; done) | (have hb := HB2.out; (repeat' (first | with_reducible exact bl_refl _ | with_reducible assumption | with_reducible refine bl_alloc ?_ _ | with_reducible refine bl_set ?_ ?_ _ | with_reducible refine bl_drewN ?_ _ | with_reducible refine bl_drew ?_ | with_reducible refine bl_call (by assumption) ?_)); (all_goals (first | omega | (simp; done) | (simp; omega))))
          case measure => simp [intOf]; omega
    · have hpl : L.length = p := by omega
      have BO := hide (bok_iff.2 ⟨h20, by rw [hpl]; exact HBT.out⟩)
      have F0 := fov_no (J := J) (L := L)
      have F1 := fov_yes (J := J) (L := L)
      have e1 : fob J L = vb P Q R := by
        rw [fob, BO.out, hpl, HFO.out]; rfl
      rw [e1] at F0 F1
      rw [show fo J L L.length = ⟨P, Q, R⟩ from by rw [hpl]; exact HFO.out] at F1
      obtain ⟨⟨k0, k1, k2⟩, f0, f1, f2⟩ := hk
      clear e1 hfo hbt hj hbl hpl
      cases q : vb P Q R
      · have E := hide (F0 q)
        clear F0 F1
        go_wp2_with fail
        (with_reducible refine (ValidBox_i _ _ _ _).mono ?_)
        rintro e u1 ⟨rfl, hb⟩
        rw [q]
        obtain ⟨⟨j0, j1, j2⟩, g0, g1, g2⟩ := HJ.out.below hb
        have HB1 := hide (bl_call hb HB.out)
        have hz := hb.size
        clear hb k0 k1 k2 f0 f1 f2
        go_wp2
        refine bodyPost_ret (v := .tuple #[gv 0 0 0, .bool false]) (by simp [results, Try.results39, go_sem, *]) rfl ⟨by rw [E.out], ?_⟩
        have hb := HB1.out
        repeat' (first | with_reducible exact bl_refl _ | with_reducible assumption | with_reducible refine bl_alloc ?_ _ | with_reducible refine bl_set ?_ ?_ _ | with_reducible refine bl_drewN ?_ _ | with_reducible refine bl_drew ?_ | with_reducible refine bl_call (by assumption) ?_)
        all_goals (first | omega | (simp; done) | (simp; omega))
      · have E := hide (F1 q)
        clear F0 F1
        go_wp2_with fail
        (with_reducible refine (ValidBox_i _ _ _ _).mono ?_)
        rintro e u1 ⟨rfl, hb⟩
        rw [q]
        obtain ⟨⟨j0, j1, j2⟩, g0, g1, g2⟩ := HJ.out.below hb
        have HB1 := hide (bl_call hb HB.out)
        have hz := hb.size
        clear k0 k1 k2 f0 f1 f2
        obtain ⟨⟨k0, k1, k2⟩, f0, f1, f2⟩ := HK.out.below hb
        clear hb
        go_wp2
        refine bodyPost_ret (v := .tuple #[gv P Q R, .bool true]) (by simp [results, Try.results39, go_sem, *]) rfl ⟨by rw [E.out], ?_⟩
        have hb := HB1.out
        repeat' (first | with_reducible exact bl_refl _ | with_reducible assumption | with_reducible refine bl_alloc ?_ _ | with_reducible refine bl_set ?_ ?_ _ | with_reducible refine bl_drewN ?_ _ | with_reducible refine bl_drew ?_ | with_reducible refine bl_call (by assumption) ?_)
        all_goals (first | omega | (simp; done) | (simp; omega))
set_option maxHeartbeats 8000000 in
theorem fold_stack (w : World) (A : Option Addr) (n c : Nat) (L : List Gp) (v1 : Value) (J : Gp → Gp → Gp) (hbd : ∀ k x y, BB k x → vbx y = true → BB (k + 1) (J x y))
    (hJ : ∀ (u : World) (k : Nat) (x y : Gp), Below w.heap.size w u → k ≤ 20 → BB k x → vbx y = true → Calls Try.prog 48 #[rv3 x, rv3 y,v1] u fun e u' => e = .returned (rv3 (J x y)) ∧ Below u.heap.size u u')
    (h : TL w A n L) (hn : n ≤ 4611686018427387904) :
    Calls Try.prog 39 #[.slice A n c, .func (.func 48) #[] #[v1]] w fun e w' => e = .returned (fov J L) ∧ Below w.heap.size w w' := by
  obtain rfl : n = L.length := h.1
  have HI := hide h
  have HJJ := hide hJ
  have HBD := hide hbd
  clear h hJ hbd
  rcases (by omega : 20 < L.length ∨ L.length ≤ 20) with h20 | h20
  · have E := hide (fov_no (J := J) (L := L) (by rw [fob, bok_no (fun x => by omega)]; rfl))
    go_enter Try.func39, Try.ntmps39
    go_wp2
    (refine bodyPost_ret (v := .tuple #[gv 0 0 0, .bool false]) (by simp [results, Try.results39, go_sem, *]) rfl ⟨by rw [E.out], ?_⟩; (repeat' (first | with_reducible exact bl_refl _ | with_reducible assumption | with_reducible refine bl_alloc ?_ _ | with_reducible refine bl_set ?_ ?_ _ | with_reducible refine bl_drewN ?_ _ | with_reducible refine bl_drew ?_ | with_reducible refine bl_call (by assumption) ?_)); (all_goals (first | omega | (simp; done) | (simp; omega))))
  go_enter Try.func39, Try.ntmps39
  go_wp2
  go_loopw [15] (fun i u => ∃ (p : Nat) (P Q R : Int), p ≤ L.length ∧ i = .int .i64 p ∧ fo J L p = ⟨P, Q, R⟩ ∧ BTo L p ∧ Bx u (w.heap.size + 1) P Q R ∧ Bx u w.heap.size 0 0 0 ∧ Below w.heap.size w u) (fun i _ => L.length - (intOf i).toNat)
  case atStart =>
    refine ⟨0, 0, 0, 0, by omega, rfl, rfl, BTo.zero _, ⟨⟨?_, ?_, ?_⟩, ?_, ?_, ?_⟩, ⟨⟨?_, ?_, ?_⟩, ?_, ?_, ?_⟩, ?_⟩
    all_goals first | (simp [go_sem]; done) | ((repeat' (first | with_reducible exact bl_refl _ | with_reducible assumption | with_reducible refine bl_alloc ?_ _ | with_reducible refine bl_set ?_ ?_ _ | with_reducible refine bl_drewN ?_ _ | with_reducible refine bl_drew ?_ | with_reducible refine bl_call (by assumption) ?_)); (all_goals (first | omega | (simp; done) | (simp; omega))))
  case round =>
    obtain ⟨p, P, Q, R, hp, rfl, hfo, hbt, hk, hj, hbl⟩ := hrel
    have HFO := hide hfo
    have HBT := hide hbt
    have HK := hide hk
    have HJ := hide hj
    have HB := hide hbl
    have hlw := hj.lt
    have hlk := hk.lt
    by_cases hlt : p < L.length
    · obtain ⟨b, o, hA, hb0, hcell⟩ := HI.out.at_ hlt
      subst hA
      obtain ⟨X, Y, Z, hx⟩ : ∃ X Y Z, tg L p = ⟨X, Y, Z⟩ := ⟨(tg L p).a, (tg L p).b, (tg L p).v, rfl⟩
      have c0 : wr.cell? ⟨b, o + p * 3, none⟩ = some (.int .i64 X) := keep_cell hbl (by have := hcell 0 (by decide); rw [hx] at this; exact this)
      have c1 : wr.cell? ⟨b, o + p * 3 + 1, none⟩ = some (.int .i64 Y) := keep_cell hbl (by have := hcell 1 (by decide); rw [hx] at this; exact this)
      have c2 : wr.cell? ⟨b, o + p * 3 + 2, none⟩ = some (.int .i64 Z) := keep_cell hbl (by have := hcell 2 (by decide); rw [hx] at this; exact this)
      have HX := hide hx
      clear hcell hfo hbt hk hj hbl hx
      cases q : vb X Y Z
      · have E := hide (fov_no (J := J) (L := L) (by rw [fob, bok_bad hlt (by rw [HX.out]; exact q)]; rfl))
        go_wp2_with fail
        (with_reducible refine (ValidBox_i _ _ _ _).mono ?_)
        rintro e u1 ⟨rfl, hb⟩
        rw [q]
        obtain ⟨⟨j0, j1, j2⟩, g0, g1, g2⟩ := (HJ.out.alloc _).below hb
        have HB1 := hide (bl_call hb (bl_alloc HB.out _))
        have hz := hb.size
        simp at hz
        clear hb
        go_wp2
        refine bodyPost_ret (v := .tuple #[gv 0 0 0, .bool false]) (by simp [results, Try.results39, go_sem, *]) rfl ⟨by rw [E.out], ?_⟩
        have hb := HB1.out
        repeat' (first | with_reducible exact bl_refl _ | with_reducible assumption | with_reducible refine bl_alloc ?_ _ | with_reducible refine bl_set ?_ ?_ _ | with_reducible refine bl_drewN ?_ _ | with_reducible refine bl_drew ?_ | with_reducible refine bl_call (by assumption) ?_)
        all_goals (first | omega | (simp; done) | (simp; omega))
      · have ST := hide (HBT.out.step (k := p) (by rw [HX.out]; exact q))
        have hbd := fo_bd HBD.out (L := L) (k := p) HBT.out
        rw [HFO.out] at hbd
        have HBB := hide hbd
        have VQ := hide q
        clear hbd
        go_wp2_with fail
        (with_reducible refine (ValidBox_i _ _ _ _).mono ?_)
        rintro e u1 ⟨rfl, hb⟩
        rw [VQ.out]
        have HM1 := hide ((Bx.new wr X Y Z _).below hb)
        have HK1 := hide ((HK.out.alloc _).below hb)
        have HJ1 := hide ((HJ.out.alloc _).below hb)
        have HB1 := hide (bl_call hb (bl_alloc HB.out _))
        have hz := hb.size
        simp at hz
        clear hb c0 c1 c2 q
        rcases Nat.eq_zero_or_pos p with hp0 | hp0
        · have g0 : ((p : Int) == 0) = true := beq_iff_eq.2 (by omega)
          have N : Hid (fo J L (p + 1) = ⟨X, Y, Z⟩) := hide (by
            subst hp0
            rw [fo_one]
            exact HX.out)
          obtain ⟨⟨m0, m1, m2⟩, n0, n1, n2⟩ := HM1.out
          obtain ⟨⟨k0, k1, k2⟩, f0, f1, f2⟩ := HK1.out
          obtain ⟨⟨j0, j1, j2⟩, g0, g1, g2⟩ := HJ1.out
          go_wp2
          go_roundw
          case rel =>
            refine ⟨p + 1, _, _, _, by omega, by go_num, N.out, ST.out, ⟨⟨?_, ?_, ?_⟩, ?_, ?_, ?_⟩, ⟨⟨?_, ?_, ?_⟩, ?_, ?_, ?_⟩, ?_⟩
            all_goals first | (simp [go_sem, *]; done) | (have hb := HB1.out; (repeat' (first | with_reducible exact bl_refl _ | with_reducible assumption | with_reducible refine bl_alloc ?_ _ | with_reducible refine bl_set ?_ ?_ _ | with_reducible refine bl_drewN ?_ _ | with_reducible refine bl_drew ?_ | with_reducible refine bl_call (by assumption) ?_)); (all_goals (first | omega | (simp; done) | (simp; omega))))
          case measure => simp [intOf]; omega
        · have g0 : ((p : Int) == 0) = false := beq_eq_false_iff_ne.2 (by omega)
          obtain ⟨X', Y', Z', hjj⟩ : ∃ X' Y' Z', J ⟨P, Q, R⟩ ⟨X, Y, Z⟩ = ⟨X', Y', Z'⟩ := ⟨(J ⟨P, Q, R⟩ ⟨X, Y, Z⟩).a, (J ⟨P, Q, R⟩ ⟨X, Y, Z⟩).b, (J ⟨P, Q, R⟩ ⟨X, Y, Z⟩).v, rfl⟩
          have N : Hid (fo J L (p + 1) = ⟨X', Y', Z'⟩) := hide (by
            rw [fo_more J L hp0, HFO.out, HX.out]
            exact hjj)
          have CJ := fun (u : World) (hu : Below w.heap.size w u) => HJJ.out u p ⟨P, Q, R⟩ ⟨X, Y, Z⟩ hu (by omega) HBB.out VQ.out
          rw [hjj] at CJ
          have HCJ := hide CJ
          obtain ⟨⟨m0, m1, m2⟩, n0, n1, n2⟩ := HM1.out
          obtain ⟨⟨k0, k1, k2⟩, f0, f1, f2⟩ := HK1.out
          clear CJ hjj
          go_wp2_with fail
          (with_reducible refine (HCJ.out _ HB1.out).mono ?_)
          rintro e u2 ⟨rfl, hb⟩
          clear m0 m1 m2 n0 n1 n2 k0 k1 k2 f0 f1 f2
          obtain ⟨⟨k0, k1, k2⟩, f0, f1, f2⟩ := HK1.out.below hb
          obtain ⟨⟨j0, j1, j2⟩, g0, g1, g2⟩ := HJ1.out.below hb
          have HB2 := hide (bl_call hb HB1.out)
          have hz2 := hb.size
          clear hb
          go_wp2
          go_roundw
          case rel =>
            refine ⟨p + 1, _, _, _, by omega, by go_num, N.out, ST.out, ⟨⟨?_, ?_, ?_⟩, ?_, ?_, ?_⟩, ⟨⟨?_, ?_, ?_⟩, ?_, ?_, ?_⟩, ?_⟩
            all_goals first | (simp [go_sem, *]; done) | (have hb := HB2.out; (repeat' (first | with_reducible exact bl_refl _ | with_reducible assumption | with_reducible refine bl_alloc ?_ _ | with_reducible refine bl_set ?_ ?_ _ | with_reducible refine bl_drewN ?_ _ | with_reducible refine bl_drew ?_ | with_reducible refine bl_call (by assumption) ?_)); (all_goals (first | omega | (simp; done) | (simp; omega))))
          case measure => simp [intOf]; omega
    · have hpl : L.length = p := by omega
      have BO := hide (bok_iff.2 ⟨h20, by rw [hpl]; exact HBT.out⟩)
      have F0 := fov_no (J := J) (L := L)
      have F1 := fov_yes (J := J) (L := L)
      have e1 : fob J L = vb P Q R := by
        rw [fob, BO.out, hpl, HFO.out]; rfl
      rw [e1] at F0 F1
      rw [show fo J L L.length = ⟨P, Q, R⟩ from by rw [hpl]; exact HFO.out] at F1
      obtain ⟨⟨k0, k1, k2⟩, f0, f1, f2⟩ := hk
      clear e1 hfo hbt hj hbl hpl
      cases q : vb P Q R
      · have E := hide (F0 q)
        clear F0 F1
        go_wp2_with fail
        (with_reducible refine (ValidBox_i _ _ _ _).mono ?_)
        rintro e u1 ⟨rfl, hb⟩
        rw [q]
        obtain ⟨⟨j0, j1, j2⟩, g0, g1, g2⟩ := HJ.out.below hb
        have HB1 := hide (bl_call hb HB.out)
        have hz := hb.size
        clear hb k0 k1 k2 f0 f1 f2
        go_wp2
        refine bodyPost_ret (v := .tuple #[gv 0 0 0, .bool false]) (by simp [results, Try.results39, go_sem, *]) rfl ⟨by rw [E.out], ?_⟩
        have hb := HB1.out
        repeat' (first | with_reducible exact bl_refl _ | with_reducible assumption | with_reducible refine bl_alloc ?_ _ | with_reducible refine bl_set ?_ ?_ _ | with_reducible refine bl_drewN ?_ _ | with_reducible refine bl_drew ?_ | with_reducible refine bl_call (by assumption) ?_)
        all_goals (first | omega | (simp; done) | (simp; omega))
      · have E := hide (F1 q)
        clear F0 F1
        go_wp2_with fail
        (with_reducible refine (ValidBox_i _ _ _ _).mono ?_)
        rintro e u1 ⟨rfl, hb⟩
        rw [q]
        obtain ⟨⟨j0, j1, j2⟩, g0, g1, g2⟩ := HJ.out.below hb
        have HB1 := hide (bl_call hb HB.out)
        have hz := hb.size
        clear k0 k1 k2 f0 f1 f2
        obtain ⟨⟨k0, k1, k2⟩, f0, f1, f2⟩ := HK.out.below hb
        clear hb
        go_wp2
        refine bodyPost_ret (v := .tuple #[gv P Q R, .bool true]) (by simp [results, Try.results39, go_sem, *]) rfl ⟨by rw [E.out], ?_⟩
        have hb := HB1.out
        repeat' (first | with_reducible exact bl_refl _ | with_reducible assumption | with_reducible refine bl_alloc ?_ _ | with_reducible refine bl_set ?_ ?_ _ | with_reducible refine bl_drewN ?_ _ | with_reducible refine bl_drew ?_ | with_reducible refine bl_call (by assumption) ?_)
        all_goals (first | omega | (simp; done) | (simp; omega))
end Go.Proofs.Ytonkbakoifdmiac
