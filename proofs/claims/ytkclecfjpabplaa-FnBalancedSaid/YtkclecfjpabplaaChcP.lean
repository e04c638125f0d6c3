/- The promise on CheckColumns holds for every code: the largest height is at least that of the highest line and at most the sum of all, and the columns have room for all lines. No condition. -/
import Derived.Test.YtkclecfjpabplaaJn
import Derived.Test.YtkclecfjpabplaaChcI
import Derived.Test.YtkclecfjpabplaaChcM
import Derived.Test.YtkclecfjpabplaaDrawCc
namespace Go.Proofs.Ytkclecfjpabplaa
open Go.ChangeShapes Go.WideShapes Go.ChangeAt Go.RowKit
set_option linter.unusedVariables false
set_option maxRecDepth 4000
open Classical

theorem OL.capp {w : World} {e : TypeId} {B c : Nat} {A : Option Addr} {l : List Int} (h : OL w e B A c l) : l.length ≤ c := by
  rcases Nat.eq_zero_or_pos l.length with h0 | h0
  · omega
  · obtain ⟨g, _, _, _, hc, _⟩ := h.form h0
    exact hc
theorem ccV_true {l E : List Int} (h : (ccV l E).2 = true) : okH l = true ∧ ve E l.length = true ∧ (ccV l E).1 = mxP l E E.length := by
  cases q : (okH l && ve E l.length)
  · rw [ccV_no q] at h; cases h
  · have q' := Bool.and_eq_true_iff.1 q
    exact ⟨q'.1, q'.2, by rw [ccV_yes q]⟩
set_option maxHeartbeats 4000000 in
theorem walk_FnCheckColumns (a : Option Addr) (n c : Nat) (zs : List Int) (w : World) (hr : IsRow .u8 w a n c zs) :
    Calls Try.prog 4 #[.slice a n c] w fun e w' => e = .returned (.bool true) ∧ Below w.heap.size w w' := by
  have hm := small_row hr
  unfold maxLen at hm
  rcases (by omega : 1048576 < n ∨ n ≤ 1048576) with hn | hn
  · go_enter Try.func4, Try.ntmps4
    go_wp2
    go_ret
    exact ⟨rfl, bl_refl _⟩
  go_enter Try.func4, Try.ntmps4
  go_wp2_with fail
  (with_reducible refine (DrawCheckColumns_any _ _ _ _ _ hr).mono ?_)
  rintro e u0 ⟨A, c', l, B, d, E, rfl, hol, hoE, hll, hlE, hb⟩
  clear hr
  have CI := fun (u : World) (h1 : IL u A l.length l) (h2 : IL u B E.length E) => CheckColumns_i u A B l.length c' E.length d l E h1 hol.capp h2 (by omega) (by omega)
  have CS := fun (u : World) (h1 : IL u A l.length l) (h2 : IL u B E.length E) => CheckColumns_s u A B l.length c' E.length d l E h1 h2 (by omega) (by omega)
  have HO := hide hol
  have HE := hide hoE
  have HB := hide hb
  clear hol hoE hb
  have TR := hide (ccV_true (l := l) (E := E))
  obtain ⟨t, ht⟩ : ∃ t, t = ccV l E := ⟨_, rfl⟩
  rw [← ht] at CI CS TR
  clear ht
  obtain ⟨z, f⟩ := t
  have HCI := hide CI
  have HCS := hide CS
  clear CI CS
  go_wp2_with fail
  (with_reducible refine (HCI.out _ HO.out.reads HE.out.reads).mono ?_)
  rintro e u1 ⟨rfl, hb1⟩
  have HO1 := hide (HO.out.below hb1)
  have HE1 := hide (HE.out.below hb1)
  have HB1 := hide (bl_call hb1 HB.out)
  clear hb1 HO HE HB
  go_wp2_with fail
  (with_reducible refine (HCS.out _ HO1.out.reads HE1.out.reads).mono ?_)
  rintro e u2 ⟨rfl, j2, rfl⟩
  cases f
  · go_wp2
    go_ret
    exact ⟨rfl, bl_drewN HB1.out _⟩
  · obtain ⟨v1, v2, v3⟩ := TR.out rfl
    replace v3 : z = mxP l E E.length := v3
    obtain ⟨k1, k2⟩ := okH_iff.1 v1
    have h0 : ∀ j, j < l.length → 0 ≤ ng l j := fun j hj => by have := k2 j hj; omega
    have g1 := cc_high h0 v2
    have g2 := cc_sum h0 v2
    have g3 := cc_area h0 v2
    have SL := fun (u : World) (h : IL u A l.length l) => sum_l u A l.length c' l h (by omega) (fun j hj => by have := k2 j hj; omega)
    have g4 := mxP_bd (l := l) (E := E) (b := 1000) (fun j hj => by have := k2 j hj; omega) (by omega) E.length
    rw [← v3] at g1 g2 g3 g4
    obtain ⟨S, hS⟩ : ∃ S, S = sl l := ⟨_, rfl⟩
    rw [← hS] at g2 g3 SL
    have g5 : z * (E.length : Int) ≤ 10000 * 10 := Int.mul_le_mul (by omega) (by omega) (by omega) (by omega)
    have g6 : 0 ≤ z * (E.length : Int) := Int.mul_nonneg (by omega) (by omega)
    obtain ⟨M, hM⟩ : ∃ M, M = z * (E.length : Int) := ⟨_, rfl⟩
    rw [← hM] at g3 g5 g6
    have wm : IntKind.i64.wrap (z * (E.length : Int)) = M := by rw [← hM]; exact IntWalk.i64_in _ (by omega)
    have HSL := hide SL
    have G1 := hide g1
    have K2 := hide k2
    have HM := hide hM
    clear SL g1 k2 h0 v1 v2 v3 hS TR HCI HCS hM
    go_wp2
    go_loop [9] (fun i => ∃ p : Nat, p ≤ l.length ∧ i = .int .i64 p) (fun i => l.length - (intOf i).toNat)
    case atStart => exact ⟨0, by omega, rfl⟩
    case round =>
      obtain ⟨p, hp, rfl⟩ := hrel
      by_cases hlt : p < l.length
      · obtain ⟨b, o, rfl, _, c1⟩ := HO1.out.reads.at_ hlt
        have x1 := G1.out p hlt
        obtain ⟨x, hx⟩ : ∃ x, x = ng l p := ⟨_, rfl⟩
        rw [← hx] at c1 x1
        clear hx
        go_wp2
        go_round
        case rel => exact ⟨p + 1, by omega, by go_num⟩
        case measure => simp [intOf]; omega
      · have d1 : decide (z ≤ S) = true := decide_eq_true g2
        have d2 : decide (S ≤ M) = true := decide_eq_true g3
        go_wp2_with fail
        (with_reducible refine (HSL.out _ (HO1.out.reads.drewN j2)).mono ?_)
        rintro e w' ⟨rfl, rfl⟩
        go_wp2_with fail
        (with_reducible refine (HSL.out _ (HO1.out.reads.drewN j2)).mono ?_)
        rintro e w' ⟨rfl, rfl⟩
        go_wp2
        go_ret
        exact ⟨rfl, bl_drewN HB1.out _⟩
set_option maxRecDepth 100000 in
theorem lifted_FnCheckColumns (os : Os) (started : os.Started) (H : Type) (enc : TypeId × Value → H) :
    ReturnsInHanded {} Try.checked os 4 .any (Rows.fnCheckColumnsSpec.pre6 enc Try.prog Try.f4 Rows.fnCheckColumnsRow.domain false) (Rows.fnCheckColumnsSpec.post enc Try.prog Try.f4 false true false false) := by
  refine returnsInHanded_of_change (C := Try.checked) own_knob started (by kernel_rfl) Try.func4
    (ChangeSpec.witness6 (enc := enc) (C := Try.checked) false ⟨#[], #[.slice none 0 0], []⟩ 8 (by kernel_rfl) (by kernel_rfl) (by kernel_rfl) (by kernel_rfl)) ?_
  intro W base args ds gs before hval0 hW hcnd _
  have hval : ∀ (j : Nat) t v, Try.f4.params[j]? = some t → args[j]? = some v → Value.okWide Try.prog W .any base t v := hval0
  have hW' := hW
  obtain ⟨p, q, hA0, hV, rfl, hfz, hnd⟩ := hW
  have hA : DataW.TrodAll enc Try.prog W 0 (fun _ => true) true Try.f4.params.toList args.toList ds p := hA0
  rw [Try.params4] at hA hval
  obtain ⟨v0, vs0, d0, ds0, p0, q0, hargs, rfl, rfl, zh0, r0⟩ := trodAll_cons hA
  obtain ⟨rfl, rfl, rfl⟩ := trodAll_nil r0
  obtain rfl : args = #[v0] := by cases args; simp_all
  obtain ⟨rfl, rfl⟩ := trodVars_none hV
  have zk0 := zh0
  have zl0 : ∀ x ∈ p0, x.block < W.heap.size := by obtain ⟨m, hm⟩ := zk0; exact DataW.trod_lt m _ _ _ hm
  clear hA0 hval0
  obtain ⟨a_code, n_code, c_code, rfl⟩ := okWide_slice Try.underlying27 (hval 0 27 v0 rfl rfl)
  obtain ⟨code, w_code⟩ := isRow_of Try.underlying27 Try.underlying5 (by kernel_rfl) zh0
  refine (walk_FnCheckColumns a_code n_code c_code code W w_code).mono fun e W' ⟨he, bel⟩ => ?_
  subst he
  exact ⟨_, rfl, _, _, _, [], _, [], hW', trodAll_mk1 (shut_bool Try.underlying4 _), (trodAll_cons_mk (Below.trod laid_out (by kernel_rfl) (of_decide_eq_true (by kernel_rfl)) zk0 bel zl0) trodAll_mk0), rfl, bel.frame _, fun h => by cases h⟩

/-- The statement. -/
theorem FnCheckColumns_holds : Rows.FnCheckColumnsSaid :=
  OpenClaim.holds_of_wide 4 Try.f4 rfl rfl rfl rfl rfl rfl rfl ⟨rfl, rfl, rfl, rfl, rfl⟩ rfl rfl rfl rfl rfl (by kernel_rfl) Try.func4 (by unfold joinedFacts; rw [may_enter, lifts_final, make_cut]; kernel_rfl)
    (of_decide_eq_true (by kernel_rfl)) (by unfold Func.isWrapper; first | (rw [if_pos (by decide +kernel)]; kernel_rfl) | (rw [if_neg (by decide +kernel)]; exact ⟨rfl, rfl⟩))
    (fun os started H enc _ => lifted_FnCheckColumns os started H enc)
end Go.Proofs.Ytkclecfjpabplaa
