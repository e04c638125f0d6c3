/- The promise on ColumnsNeeded holds for every code: higher columns need not be more, and there are at most as many as lines. No condition. -/
import Derived.Test.YtofcbhphjghkaabDrawH
import Derived.Test.YtofcbhphjghkaabColL
namespace Go.Proofs.Ytofcbhphjghkaab
open Go.ChangeShapes Go.WideShapes Go.ChangeAt Go.RowKit
set_option linter.unusedVariables false

set_option maxHeartbeats 1000000 in
theorem walk_FnColumnsNeeded (a : Option Addr) (n c : Nat) (zs : List Int) (a2 : Option Addr) (n2 c2 : Nat) (zs2 : List Int) (w : World) (hr : IsRow .u8 w a n c zs) (hr2 : IsRow .u8 w a2 n2 c2 zs2) :
    Calls Try.prog 4 #[.slice a n c, .slice a2 n2 c2] w fun e w' => e = .returned (.bool true) ∧ Below w.heap.size w w' := by
  have hm := small_row hr
  have hm2 := small_row hr2
  unfold maxLen at hm hm2
  rcases (by omega : 1048576 < n ∨ 1048576 < n2 ∨ n ≤ 1048576 ∧ n2 ≤ 1048576) with hn | hn | ⟨hn, hn2⟩
  · go_enter Try.func4, Try.ntmps4
    go_wp2
    go_ret
    exact ⟨rfl, bl_refl _⟩
  · by_cases hn1 : 1048576 < n
    all_goals
      go_enter Try.func4, Try.ntmps4
      go_wp2
      go_ret
      exact ⟨rfl, bl_refl _⟩
  · go_enter Try.func4, Try.ntmps4
    go_wp2_with fail
    (with_reducible refine (DrawColumnsNeeded_any _ _ _ _ _ hr).mono ?_)
    rintro e u0 ⟨A, d, l, x, rfl, hol, hll, hel, ⟨x0, x1⟩, hb⟩
    clear hr hr2
    have hcap := OL_cap hol
    have HB := hide hb
    have HO := hide hol
    clear hol hb
    obtain ⟨v, hv⟩ : ∃ v, v = cnV l x := ⟨_, rfl⟩
    have CI := fun (u : World) (h : IL u A l.length l) => ColumnsNeeded_i u _ _ d l x h (by omega) hcap
    have CS := fun (u : World) (h : IL u A l.length l) => ColumnsNeeded_s u _ _ d l x h (by omega)
    rw [← hv] at CI CS
    have HCI := hide CI
    have HCS := hide CS
    have HV := hide hv
    clear CI CS hv
    go_wp2_with fail
    (with_reducible refine (HCI.out _ HO.out.reads).mono ?_)
    rintro e u1 ⟨rfl, hb1⟩
    have HO1 := hide (HO.out.below hb1)
    have HB1 := hide (bl_call hb1 HB.out)
    clear hb1
    go_wp2_with fail
    (with_reducible refine (HCS.out _ HO1.out.reads).mono ?_)
    rintro e u2 ⟨rfl, rfl⟩
    rcases (by omega : v < 0 ∨ 0 ≤ v) with h | h
    · go_wp2_with fail
      (with_reducible refine (HCS.out _ HO1.out.reads).mono ?_)
      rintro e u2 ⟨rfl, rfl⟩
      go_wp2
      go_ret
      exact ⟨rfl, HB1.out⟩
    · have ok : (okH l && inB x 0 10000) = true := by
        cases q : (okH l && inB x 0 10000)
        · have := HV.out
          rw [cnV_no q] at this
          omega
        · rfl
      have ok1 := (Bool.and_eq_true_iff.1 ok).1
      obtain ⟨k1, k2⟩ := okH_iff.1 ok1
      obtain ⟨k3, k4⟩ := inB_iff.1 (Bool.and_eq_true_iff.1 ok).2
      have hp : allPos l := fun j hj => (k2 j hj).1
      have hv := HV.out
      rw [cnV_yes ok] at hv
      have hal : allLe l x := by
        by_cases y : allLe l x
        · exact y
        · rw [cnv_no y] at hv; omega
      have r0 : 0 ≤ (n2 : Int) % 20 := by omega
      have r1 : (n2 : Int) % 20 < 20 := by omega
      obtain ⟨z, hz⟩ : ∃ z : Int, z = min (x + 1 + (n2 : Int) % 20) 10000 := ⟨_, rfl⟩
      obtain ⟨m1, m2⟩ := cnv_mono (h := z) hp k3 (by omega) hal
      have l1 := (cnv_le m1).1
      have l2 := (cnv_le hal).2
      have l3 := cnv_zero hp hal
      rw [← hv] at m2 l2 l3
      have e2 : cnV l z = cnv l z := cnV_yes (by rw [ok1, inB_yes (by omega) (by omega)]; rfl)
      obtain ⟨y, hy⟩ : ∃ y, y = cnv l z := ⟨_, rfl⟩
      rw [← hy] at m2 l1 e2
      have CZ := fun (u : World) (h : IL u A l.length l) => ColumnsNeeded_i u _ _ d l z h (by omega) hcap
      rw [e2] at CZ
      have HCZ := hide CZ
      have H3 : Hid (((v == 0) == (((l.length : Nat) : Int) == 0)) = true) := hide (by
        rcases Nat.eq_zero_or_pos l.length with q | q
        · have := l3.2 q
          rw [this, q]; rfl
        · have h0 : ¬ v = 0 := fun e => by have := l3.1 e; omega
          rw [beq_eq_false_iff_ne.2 h0, beq_eq_false_iff_ne.2 (show ¬ ((l.length : Nat) : Int) = 0 by omega)]; rfl)
      have g1 : decide (0 ≤ y) = true := decide_eq_true l1
      clear hv ok ok1 k1 k2 hp hal m1 e2 CZ hy l3 HCI HCS HV hel
      rcases (by omega : x + 1 + (n2 : Int) % 20 ≤ 10000 ∧ z = x + 1 + (n2 : Int) % 20 ∨ 10000 < x + 1 + (n2 : Int) % 20 ∧ z = 10000) with ⟨q1, q2⟩ | ⟨q1, q2⟩
      all_goals
        subst q2
        clear hz
        go_wp2_with fail
        (with_reducible refine (HCZ.out _ HO1.out.reads).mono ?_)
        rintro e u3 ⟨rfl, hb3⟩
        have HB3 := hide (bl_call hb3 HB1.out)
        clear hb3
        go_wp2
        go_ret
        exact ⟨bool_ret H3.out, HB3.out⟩
set_option maxRecDepth 100000 in
theorem lifted_FnColumnsNeeded (os : Os) (started : os.Started) (H : Type) (enc : TypeId × Value → H) :
    ReturnsInHanded {} Try.checked os 4 .any (Rows.fnColumnsNeededSpec.pre6 enc Try.prog Try.f4 Rows.fnColumnsNeededRow.domain false) (Rows.fnColumnsNeededSpec.post enc Try.prog Try.f4 false true false false) := by
  refine returnsInHanded_of_change (C := Try.checked) own_knob started (by kernel_rfl) Try.func4
    (ChangeSpec.witness6 (enc := enc) (C := Try.checked) false ⟨#[], #[.slice none 0 0, .slice none 0 0], []⟩ 8 (by kernel_rfl) (by kernel_rfl) (by kernel_rfl) (by kernel_rfl)) ?_
  intro W base args ds gs before hval0 hW hcnd _
  have hval : ∀ (j : Nat) t v, Try.f4.params[j]? = some t → args[j]? = some v → Value.okWide Try.prog W .any base t v := hval0
  have hW' := hW
  obtain ⟨p, q, hA0, hV, rfl, hfz, hnd⟩ := hW
  have hA : DataW.TrodAll enc Try.prog W 0 (fun _ => true) true Try.f4.params.toList args.toList ds p := hA0
  rw [Try.params4] at hA hval
  obtain ⟨v0, vs0, d0, ds0, p0, q0, hargs, rfl, rfl, zh0, r0⟩ := trodAll_cons hA
  obtain ⟨v1, vs1, d1, ds1, p1, q1, rfl, rfl, rfl, zh1, r1⟩ := trodAll_cons r0
  obtain ⟨rfl, rfl, rfl⟩ := trodAll_nil r1
  obtain rfl : args = #[v0, v1] := by cases args; simp_all
  obtain ⟨rfl, rfl⟩ := trodVars_none hV
  have zk0 := zh0
  have zl0 : ∀ x ∈ p0, x.block < W.heap.size := by obtain ⟨m, hm⟩ := zk0; exact DataW.trod_lt m _ _ _ hm
  have zk1 := zh1
  have zl1 : ∀ x ∈ p1, x.block < W.heap.size := by obtain ⟨m, hm⟩ := zk1; exact DataW.trod_lt m _ _ _ hm
  clear hA0 hval0
  obtain ⟨a_code, n_code, c_code, rfl⟩ := okWide_slice Try.underlying27 (hval 0 27 v0 rfl rfl)
  obtain ⟨code, w_code⟩ := isRow_of Try.underlying27 Try.underlying5 (by kernel_rfl) zh0
  obtain ⟨a_more, n_more, c_more, rfl⟩ := okWide_slice Try.underlying27 (hval 1 27 v1 rfl rfl)
  obtain ⟨more, w_more⟩ := isRow_of Try.underlying27 Try.underlying5 (by kernel_rfl) zh1
  refine (walk_FnColumnsNeeded a_code n_code c_code code a_more n_more c_more more W w_code w_more).mono fun e W' ⟨he, bel⟩ => ?_
  subst he
  exact ⟨_, rfl, _, _, _, [], _, [], hW', trodAll_mk1 (shut_bool Try.underlying4 _), (trodAll_cons_mk (Below.trod laid_out (by kernel_rfl) (of_decide_eq_true (by kernel_rfl)) zk0 bel zl0) (trodAll_cons_mk (Below.trod laid_out (by kernel_rfl) (of_decide_eq_true (by kernel_rfl)) zk1 bel zl1) trodAll_mk0)), rfl, bel.frame _, fun h => by cases h⟩

/-- The statement. -/
theorem FnColumnsNeeded_holds : Rows.FnColumnsNeededSaid :=
  OpenClaim.holds_of_wide 4 Try.f4 rfl rfl rfl rfl rfl rfl rfl ⟨rfl, rfl, rfl, rfl, rfl⟩ rfl rfl rfl rfl rfl (by kernel_rfl) Try.func4 (by kernel_rfl)
    (of_decide_eq_true (by kernel_rfl)) (by unfold Func.isWrapper; first | (rw [if_pos (by decide +kernel)]; kernel_rfl) | (rw [if_neg (by decide +kernel)]; exact ⟨rfl, rfl⟩))
    (fun os started H enc _ => lifted_FnColumnsNeeded os started H enc)
end Go.Proofs.Ytofcbhphjghkaab
