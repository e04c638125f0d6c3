/- The promise on StackBox holds for every code: a stack is as wide as its widest box, as deep as its last, and at least as high as all of them with a space between each two. No condition. -/
import Derived.Test.YtonkbakoifdmiacStkO
namespace Go.Proofs.Ytonkbakoifdmiac
open Go.ChangeShapes Go.WideShapes Go.ChangeAt Go.RowKit
set_option linter.unusedVariables false
set_option maxRecDepth 4000

def sT (L : List Gp) : Nat → Int
  | 0 => 0
  | k + 1 => sT L k + (tg L k).b + (tg L k).v
def sW (L : List Gp) : Nat → Int
  | 0 => 0
  | k + 1 => max (sW L k) (tg L k).a
theorem sTW_bd {L : List Gp} {k : Nat} (h : BTo L k) : (0 ≤ sT L k ∧ sT L k ≤ 20000 * (k : Int)) ∧ (0 ≤ sW L k ∧ sW L k ≤ 10000) := by
  induction k with
  | zero => simp [sT, sW]
  | succ k ih =>
    obtain ⟨⟨a0, a1⟩, b0, b1⟩ := ih (fun i hi => h i (by omega))
    obtain ⟨h1, h2, h3⟩ := vbx_iff.1 (h k (by omega))
    simp only [sT, sW]
    omega
theorem fo_stk {sk : Int} {L : List Gp} {k : Nat} (h : BTo L (k + 1)) : (fo (js sk) L (k + 1)).a = sW L (k + 1) ∧ sT L (k + 1) + (k : Int) ≤ (fo (js sk) L (k + 1)).b + (fo (js sk) L (k + 1)).v := by
  induction k with
  | zero =>
    obtain ⟨h1, h2, h3⟩ := vbx_iff.1 (h 0 (by omega))
    rw [fo_one]
    simp only [sT, sW]
    omega
  | succ k ih =>
    obtain ⟨i1, i2⟩ := ih (fun i hi => h i (by omega))
    obtain ⟨h1, h2, h3⟩ := vbx_iff.1 (h (k + 1) (by omega))
    rw [fo_more _ _ (by omega)]
    have e1 : sT L (k + 1 + 1) = sT L (k + 1) + (tg L (k + 1)).b + (tg L (k + 1)).v := rfl
    have e2 : sW L (k + 1 + 1) = max (sW L (k + 1)) (tg L (k + 1)).a := rfl
    rw [e1, e2, ← i1]
    refine ⟨rfl, ?_⟩
    have e3 : (js sk (fo (js sk) L (k + 1)) (tg L (k + 1))).b = (fo (js sk) L (k + 1)).b + (fo (js sk) L (k + 1)).v + il sk (fo (js sk) L (k + 1)).v (tg L (k + 1)).b + (tg L (k + 1)).b := rfl
    have e4 : (js sk (fo (js sk) L (k + 1)) (tg L (k + 1))).v = (tg L (k + 1)).v := rfl
    have e5 : 1 ≤ il sk (fo (js sk) L (k + 1)).v (tg L (k + 1)).b := by unfold il; omega
    rw [e3, e4]
    omega
set_option maxHeartbeats 4000000 in
theorem walk_FnStackBox (a : Option Addr) (n c : Nat) (zs : List Int) (w : World) (hr : IsRow .u8 w a n c zs) :
    Calls Try.prog 6 #[.slice a n c] w fun e w' => e = .returned (.bool true) ∧ Below w.heap.size w w' := by
  have hm := small_rows hr
  unfold maxLen at hm
  rcases (by omega : 1048576 < n ∨ n ≤ 1048576) with hn | hn
  · go_enter Try.func6, Try.ntmps6
    go_wp2
    go_ret
    exact ⟨rfl, bl_refl _⟩
  go_enter Try.func6, Try.ntmps6
  go_wp2_with fail
  refine (DrawStackBox_any _ _ _ _ _ hr).mono ?_
  rintro e u0 ⟨A, d, L, sk, rfl, hol, hll, hsk, hb⟩
  clear hr
  have CI := fun (u : World) (h : TL u A L.length L) => StackBox_i u A L.length d sk L h (by omega)
  have CS := fun (u : World) (h : TL u A L.length L) => StackBox_s u A L.length d sk L h (by omega)
  have RD0 := hide hol.reads
  clear hol
  have HB0 := hide hb
  obtain ⟨⟨P, Q, R⟩, t, E⟩ := sov_form sk L
  rw [E] at CI CS
  have HCI := hide CI
  have HCS := hide CS
  clear CI CS
  cases t
  · clear E
    (go_wp2_with fail; (with_reducible refine (HCI.out _ RD0.out).mono ?_); rintro e ua ⟨rfl, hb1⟩; have HB1 := hide (bl_call hb1 HB0.out); have RD1 := hide (RD0.out.below hb1); clear hb hb1; go_wp2_with fail; (with_reducible refine (HCS.out _ (RD1.out.alloc _)).mono ?_); rintro e ub ⟨rfl, hb2⟩; have HB2 := hide (bl_call hb2 (bl_alloc HB1.out _)); have RD2 := hide ((RD1.out.alloc _).below hb2); have HX2 := hide ((Bx.new ua P Q R _).below hb2); (obtain ⟨⟨m0, m1, m2⟩, _⟩ := HX2.out); have hz := hb2.size; simp at hz; (have hlm : ua.heap.size < ub.heap.size := by omega); clear hb2)
    go_wp2
    go_ret
    exact ⟨rfl, bl_alloc HB2.out _⟩
  rcases Nat.eq_zero_or_pos L.length with h0 | h0
  · clear E
    have g0 : ((L.length : Int) == 0) = true := beq_iff_eq.2 (by omega)
    replace h0 := hide h0
    (go_wp2_with fail; (with_reducible refine (HCI.out _ RD0.out).mono ?_); rintro e ua ⟨rfl, hb1⟩; have HB1 := hide (bl_call hb1 HB0.out); have RD1 := hide (RD0.out.below hb1); clear hb hb1; go_wp2_with fail; (with_reducible refine (HCS.out _ (RD1.out.alloc _)).mono ?_); rintro e ub ⟨rfl, hb2⟩; have HB2 := hide (bl_call hb2 (bl_alloc HB1.out _)); have RD2 := hide ((RD1.out.alloc _).below hb2); have HX2 := hide ((Bx.new ua P Q R _).below hb2); (obtain ⟨⟨m0, m1, m2⟩, _⟩ := HX2.out); have hz := hb2.size; simp at hz; (have hlm : ua.heap.size < ub.heap.size := by omega); clear hb2)
    go_wp2
    go_ret
    exact ⟨rfl, bl_alloc HB2.out _⟩
  obtain ⟨q1, q2⟩ := sov_true E
  have q3 : bok L = true := by
    unfold fob at q2
    cases q : bok L
    · rw [q] at q2; simp at q2
    · rfl
  obtain ⟨h20, BT⟩ := bok_iff.1 q3
  have EF : fo (js sk) L L.length = ⟨P, Q, R⟩ := by
    rw [sov, if_pos q1, fov_yes q2] at E
    have e : rv3 (fo (js sk) L L.length) = rv3 ⟨P, Q, R⟩ := by simpa using E
    have e' : (fo (js sk) L L.length).a = P ∧ (fo (js sk) L L.length).b = Q ∧ (fo (js sk) L L.length).v = R := by simpa [rv3] using e
    obtain ⟨e1, e2, e3⟩ := e'
    rw [← e1, ← e2, ← e3]
  have VQ : vb P Q R = true := by
    have : vbx (fo (js sk) L L.length) = true := by
      unfold fob at q2
      rw [q3] at q2
      simpa using q2
    rw [EF] at this
    exact this
  obtain ⟨⟨P0, P1⟩, ⟨Q0, Q1⟩, R0, R1⟩ := vb_iff.1 VQ
  obtain ⟨m, hm1⟩ : ∃ m, L.length = m + 1 := ⟨L.length - 1, by omega⟩
  have em : (L.length : Int) - 1 = (m : Int) := by omega
  have hml : m < L.length := by omega
  have FS := fo_stk (sk := sk) (L := L) (k := m) (by rw [← hm1]; exact BT)
  rw [← hm1, EF] at FS
  obtain ⟨FS1, FS2⟩ := FS
  simp only at FS1 FS2
  have FV : (tg L m).v = R := by rw [← fo_v sk L m, ← hm1, EF]
  have HFS1 := hide FS1
  have HFS2 := hide FS2
  have HFV := hide FV
  have HEL := hide (fun i (hi : i < L.length) => vbx_iff.1 (BT i hi))
  have HBD := hide (fun k (hk : k ≤ L.length) => sTW_bd (L := L) (k := k) (fun i hi => BT i (by omega)))
  have Hm := hide hm1
  have g0 : ((L.length : Int) == 0) = false := beq_eq_false_iff_ne.2 (by omega)
  clear E q1 q2 q3 BT EF VQ FS1 FS2 FV hm1
  (go_wp2_with fail; (with_reducible refine (HCI.out _ RD0.out).mono ?_); rintro e ua ⟨rfl, hb1⟩; have HB1 := hide (bl_call hb1 HB0.out); have RD1 := hide (RD0.out.below hb1); clear hb hb1; go_wp2_with fail; (with_reducible refine (HCS.out _ (RD1.out.alloc _)).mono ?_); rintro e ub ⟨rfl, hb2⟩; have HB2 := hide (bl_call hb2 (bl_alloc HB1.out _)); have RD2 := hide ((RD1.out.alloc _).below hb2); have HX2 := hide ((Bx.new ua P Q R _).below hb2); (obtain ⟨⟨m0, m1, m2⟩, _⟩ := HX2.out); have hz := hb2.size; simp at hz; (have hlm : ua.heap.size < ub.heap.size := by omega); clear hb2)
  have EM := hide em
  clear em
  go_wp2
  go_loopw [9, 10, 11] (fun v x i u => ∃ (k : Nat), k ≤ L.length ∧ i = .int .i64 k ∧ x = .int .i64 (sW L k) ∧ v = .int .i64 (sT L k) ∧ Below ub.heap.size ub u) (fun _ _ i _ => L.length - (intOf i).toNat)
  case atStart => exact ⟨0, by omega, rfl, rfl, rfl, bl_alloc (bl_refl _) _⟩
  case round =>
    obtain ⟨k, hk, rfl, rfl, rfl, hbl⟩ := hrel
    obtain ⟨⟨t0, t1⟩, x0, x1⟩ := HBD.out k hk
    have RDk := RD2.out.below hbl
    replace m0 := keep_cell hbl m0
    replace m1 := keep_cell hbl m1
    replace m2 := keep_cell hbl m2
    have hwz := hbl.size
    have HBL := hide hbl
    rcases (by omega : k < L.length ∨ k = L.length) with hlt | hlt
    · obtain ⟨b, o, rfl, hb0, c0, c1, c2⟩ := RDk.at3 hlt
      obtain ⟨⟨e1, e2⟩, ⟨e3, e4⟩, e5, e6⟩ := HEL.out k hlt
      have ST := hide (show sT L (k + 1) = sT L k + (tg L k).b + (tg L k).v ∧ sW L (k + 1) = max (sW L k) (tg L k).a from ⟨rfl, rfl⟩)
      obtain ⟨T, hT⟩ : ∃ T, T = sT L k := ⟨_, rfl⟩
      obtain ⟨W, hW⟩ : ∃ W, W = sW L k := ⟨_, rfl⟩
      obtain ⟨X, hX⟩ : ∃ X, X = (tg L k).a := ⟨_, rfl⟩
      obtain ⟨Y, hY⟩ : ∃ Y, Y = (tg L k).b := ⟨_, rfl⟩
      obtain ⟨Z, hZ⟩ : ∃ Z, Z = (tg L k).v := ⟨_, rfl⟩
      have ST' := ST.out
      rw [← hT, ← hW, ← hX, ← hY, ← hZ] at ST'
      have HST := hide ST'
      rw [← hT] at t0 t1
      rw [← hW] at x0 x1
      rw [← hT, ← hW]
      rw [← hX] at c0 e1 e2
      rw [← hY] at c1 e3 e4
      rw [← hZ] at c2 e5 e6
      have wk : T ≤ 400000 := by omega
      have hk0 : (0 : Int) ≤ (k : Int) := by omega
      have hk1 : (k : Int) < (L.length : Int) := by omega
      clear ST ST' hT hW hX hY hZ hbl RDk m0 m1 m2
      rcases (by omega : W < X ∨ X ≤ W) with hx | hx
      all_goals
        have HMX := hide (show max W X = _ from (by first | exact Int.max_eq_right (by omega) | exact Int.max_eq_left (by omega)))
        go_wp2
        go_region
        go_wp2
        go_roundw
        case rel => exact ⟨k + 1, by omega, by go_num, by rw [HST.out.2, HMX.out], by rw [HST.out.1], by (have hbl := HBL.out; (repeat' (first | with_reducible exact bl_refl _ | with_reducible assumption | with_reducible refine bl_alloc ?_ _ | with_reducible refine bl_set ?_ ?_ _ | with_reducible refine bl_drewN ?_ _ | with_reducible refine bl_drew ?_ | with_reducible refine bl_call (by assumption) ?_)))⟩
        case measure => simp [intOf]; omega
    · subst hlt
      obtain ⟨b, o, rfl, hb0, c0, c1, c2⟩ := RDk.at3 hml
      rw [HFV.out] at c2
      have hW := HFS1.out
      have hT := HFS2.out
      rw [← hW]
      obtain ⟨T, eT⟩ : ∃ T, T = sT L L.length := ⟨_, rfl⟩
      rw [← eT] at hT t0 t1
      rw [← eT]
      have em := EM.out
      have wm : IntKind.i64.wrap (m : Int) = (m : Int) := IntWalk.i64_in _ (by omega)
      have hm0 : (0 : Int) ≤ (m : Int) := by omega
      have hm2 : (m : Int) < (L.length : Int) := by omega
      have w1 : IntKind.i64.wrap (Q + R) = Q + R := IntWalk.i64_in _ (by omega)
      have w2 : IntKind.i64.wrap (T + (L.length : Int)) = T + (L.length : Int) := IntWalk.i64_in _ (by omega)
      have w3 : IntKind.i64.wrap (T + (L.length : Int) - 1) = T + (L.length : Int) - 1 := IntWalk.i64_in _ (by omega)
      have w4 : decide (T + (L.length : Int) - 1 ≤ Q + R) = true := decide_eq_true (by omega)
      clear hW eT hbl RDk c0 c1 hT
      go_wp2_with fail
      go_quiet (fail)
      go_wp2
      go_ret
      refine ⟨rfl, ?_⟩
      have hbl := HBL.out
      exact bl_drewN (bl_call hbl HB2.out) _
set_option maxRecDepth 100000 in
theorem lifted_FnStackBox (os : Os) (started : os.Started) (H : Type) (enc : TypeId × Value → H) :
    ReturnsInHanded {} Try.checked os 6 .any (Rows.fnStackBoxSpec.pre6 enc Try.prog Try.f6 Rows.fnStackBoxRow.domain false) (Rows.fnStackBoxSpec.post enc Try.prog Try.f6 false true false false) := by
  refine returnsInHanded_of_change (C := Try.checked) own_knob started (by kernel_rfl) Try.func6
    (ChangeSpec.witness6 (enc := enc) (C := Try.checked) false ⟨#[], #[.slice none 0 0], []⟩ 8 (by kernel_rfl) (by kernel_rfl) (by kernel_rfl) (by kernel_rfl)) ?_
  intro W base args ds gs before hval0 hW hcnd _
  have hval : ∀ (j : Nat) t v, Try.f6.params[j]? = some t → args[j]? = some v → Value.okWide Try.prog W .any base t v := hval0
  have hW' := hW
  obtain ⟨p, q, hA0, hV, rfl, hfz, hnd⟩ := hW
  have hA : DataW.TrodAll enc Try.prog W 0 (fun _ => true) true Try.f6.params.toList args.toList ds p := hA0
  rw [Try.params6] at hA hval
  obtain ⟨v0, vs0, d0, ds0, p0, q0, hargs, rfl, rfl, zh0, r0⟩ := trodAll_cons hA
  obtain ⟨rfl, rfl, rfl⟩ := trodAll_nil r0
  obtain rfl : args = #[v0] := by cases args; simp_all
  obtain ⟨rfl, rfl⟩ := trodVars_none hV
  have zk0 := zh0
  have zl0 : ∀ x ∈ p0, x.block < W.heap.size := by obtain ⟨m, hm⟩ := zk0; exact DataW.trod_lt m _ _ _ hm
  clear hA0 hval0
  obtain ⟨a_code, n_code, c_code, rfl⟩ := okWide_slice Try.underlying22 (hval 0 22 v0 rfl rfl)
  obtain ⟨code, w_code⟩ := isRow_of Try.underlying22 Try.underlying5 (by kernel_rfl) zh0
  refine (walk_FnStackBox a_code n_code c_code code W w_code).mono fun e W' ⟨he, bel⟩ => ?_
  subst he
  exact ⟨_, rfl, _, _, _, [], _, [], hW', trodAll_mk1 (shut_bool Try.underlying4 _), (trodAll_cons_mk (Below.trod laid_out (by kernel_rfl) (of_decide_eq_true (by kernel_rfl)) zk0 bel zl0) trodAll_mk0), rfl, bel.frame _, fun h => by cases h⟩

/-- The statement. -/
theorem FnStackBox_holds : Rows.FnStackBoxSaid :=
  OpenClaim.holds_of_wide 6 Try.f6 rfl rfl rfl rfl rfl rfl rfl ⟨rfl, rfl, rfl, rfl, rfl⟩ rfl rfl rfl rfl rfl (by kernel_rfl) Try.func6 (by kernel_rfl)
    (of_decide_eq_true (by kernel_rfl)) (by unfold Func.isWrapper; first | (rw [if_pos (by decide +kernel)]; kernel_rfl) | (rw [if_neg (by decide +kernel)]; exact ⟨rfl, rfl⟩))
    (fun os started H enc _ => lifted_FnStackBox os started H enc)
end Go.Proofs.Ytonkbakoifdmiac
