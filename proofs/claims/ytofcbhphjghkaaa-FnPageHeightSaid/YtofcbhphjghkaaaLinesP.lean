/- The promise on PageHeight holds for every code: a longer page is higher, and a page is as high as its lines and notes. No condition. -/
import Derived.Test.YtofcbhphjghkaaaDrawL
import Derived.Test.YtofcbhphjghkaaaLines
namespace Go.Proofs.Ytofcbhphjghkaaa
open Go.ChangeShapes Go.WideShapes Go.ChangeAt Go.RowKit
set_option linter.unusedVariables false
set_option maxRecDepth 4000
open Classical

theorem pgh_more {L : List Gp} {f k : Nat} (h : LTo L L.length) (hk : f + k < L.length) : pgh L f k < pgh L f (k + 1) := by
  have h1 := hs_bd h (show f + k ≤ L.length by omega)
  obtain ⟨a1, a2, a3⟩ := lnk_iff.1 (h (f + k) hk)
  have e1 : hs L f (k + 1) = hs L f k + (tg L (f + k)).a := rfl
  have e2 : ns L f (k + 1) = ns L f k + (tg L (f + k)).b := rfl
  unfold pgh
  split <;> split <;> omega
theorem phv_says {L : List Gp} {f t : Int} (h : 0 ≤ phv L f t) : lok L = true ∧ 0 ≤ f ∧ f ≤ t ∧ t ≤ L.length := by
  cases q : (lok L && (inB f 0 t && inB t 0 L.length))
  · rw [phv_no q] at h; omega
  · simp only [Bool.and_eq_true] at q
    obtain ⟨q1, q2, q3⟩ := q
    have := inB_iff.1 q2
    have := inB_iff.1 q3
    exact ⟨q1, by omega, by omega, by omega⟩
theorem TO_cap_p {w : World} {e : TypeId} {B : Nat} {A : Option Addr} {c : Nat} {L : List Gp} (h : TO w e B A c L) : L.length ≤ c := by
  rcases Nat.eq_zero_or_pos L.length with h0 | h0
  · omega
  · obtain ⟨_, _, _, _, h1, _⟩ := h.form h0
    exact h1
set_option maxHeartbeats 4000000 in
theorem walk_FnPageHeight (a : Option Addr) (n c : Nat) (zs : List Int) (w : World) (hr : IsRow .u8 w a n c zs) :
    Calls Try.prog 12 #[.slice a n c] w fun e w' => e = .returned (.bool true) ∧ Below w.heap.size w w' := by
  have hm := small_row hr
  unfold maxLen at hm
  rcases (by omega : 1048576 < n ∨ n ≤ 1048576) with hn | hn
  · go_enter Try.func12, Try.ntmps12
    go_wp2
    go_ret
    exact ⟨rfl, bl_refl _⟩
  go_enter Try.func12, Try.ntmps12
  go_wp2_with fail
  (with_reducible refine (DrawPageHeight_any _ _ _ _ _ hr).mono ?_)
  rintro e u0 ⟨A, d, L, f, t, rfl, hto, hll, ⟨f0, f1⟩, ⟨t0, t1⟩, hb⟩
  clear hr
  have hcap := TO_cap_p hto
  have CX := hide (fun (z : Int) (u : World) (h : TL u A L.length L) => PageHeight_i u A L.length d L f z h (by omega) hcap)
  have CS := fun (u : World) (h : TL u A L.length L) => PageHeight_s u A L.length d L f t h (by omega)
  have CI := CX.out t
  obtain ⟨v, hv⟩ : ∃ v, v = phv L f t := ⟨_, rfl⟩
  rw [← hv] at CI CS
  have HCI := hide CI
  have HCS := hide CS
  have HV := hide hv
  have HT := hide hto
  have HB := hide hb
  clear CI CS hv hto hb
  go_wp2_with fail
  (with_reducible refine (HCI.out _ HT.out.reads).mono ?_)
  rintro e u1 ⟨rfl, hb1⟩
  have HT1 := hide (HT.out.below hb1)
  have HB1 := hide (bl_call hb1 HB.out)
  clear hb1
  go_wp2_with fail
  (with_reducible refine (HCS.out _ HT1.out.reads).mono ?_)
  rintro e w' ⟨rfl, rfl⟩
  rcases (by omega : v < 0 ∨ 0 ≤ v) with h | h
  · go_wp2_with fail
    (with_reducible refine (HCS.out _ HT1.out.reads).mono ?_)
    rintro e w' ⟨rfl, rfl⟩
    go_wp2
    go_ret
    exact ⟨rfl, HB1.out⟩
  obtain ⟨lo, g0, g1, g2⟩ := phv_says (L := L) (f := f) (t := t) (by rw [← HV.out]; exact h)
  obtain ⟨f, rfl⟩ := Int.eq_ofNat_of_zero_le g0
  obtain ⟨t, rfl⟩ := Int.eq_ofNat_of_zero_le (show 0 ≤ t by omega)
  have lk := (lok_iff.1 lo).2
  have hft : f ≤ t := by omega
  have htl : t ≤ L.length := by omega
  have e1 : v = pgh L f (t - f) := by rw [HV.out]; exact phv_yes (by rw [lo, inB_yes (by omega) (by omega), inB_yes (by omega) (by omega)]; rfl)
  have NX : Hid (t < L.length → ∃ y, v < y ∧ phv L f ((t : Int) + 1) = y) := hide (fun hlt => ⟨pgh L f (t + 1 - f), by
    rw [e1, show t + 1 - f = (t - f) + 1 from by omega]
    exact pgh_more lk (by omega), by
    have : ((t : Int) + 1) = ((t + 1 : Nat) : Int) := by omega
    rw [this]
    exact phv_yes (by rw [lo, inB_yes (by omega) (by omega), inB_yes (by omega) (by omega)]; rfl)⟩)
  have E1 := hide e1
  have LK := hide lk
  have vb : v ≤ 50000 := by
    have h1 := hs_bd lk (show f + (t - f) ≤ L.length by omega)
    rw [e1]
    unfold pgh
    split <;> omega
  clear e1 lk lo HV g0 g1 g2 f0 f1 t0 t1 HCI HCS
  go_wp2
  go_loop [7, 8, 9] (fun x y i => ∃ k : Nat, f + k ≤ t ∧ i = .int .i64 ((f + k : Nat) : Int) ∧ x = .int .i64 (hs L f k) ∧ y = .int .i64 (ns L f k)) (fun _ _ i => t - (intOf i).toNat)
  case atStart => exact ⟨0, by omega, rfl, rfl, rfl⟩
  case round =>
    obtain ⟨k, hkt, rfl, rfl, rfl⟩ := hrel
    obtain ⟨⟨b1, b2⟩, b3, b4⟩ := hs_bd LK.out (show f + k ≤ L.length by omega)
    obtain ⟨p, hp⟩ : ∃ p, p = f + k := ⟨_, rfl⟩
    rw [← hp]
    obtain ⟨x, hx⟩ : ∃ x, x = hs L f k := ⟨_, rfl⟩
    obtain ⟨y, hy⟩ : ∃ y, y = ns L f k := ⟨_, rfl⟩
    rw [← hx] at b1 b2
    rw [← hy] at b3 b4
    rw [← hx, ← hy]
    have HX := hide hx
    have HY := hide hy
    have HPP := hide hp
    have x1 : x ≤ 40000 := by omega
    have y1 : y ≤ 40000 := by omega
    clear hx hy b2 b4
    by_cases hlt : p < t
    · obtain ⟨b, o, hA, hb0, c0, c1, c2⟩ := HT1.out.reads.at3 (i := p) (by omega)
      subst hA
      obtain ⟨⟨a1, a2⟩, ⟨a3, a4⟩, _⟩ := lnk_iff.1 (LK.out p (by omega))
      obtain ⟨X, hX⟩ : ∃ X, X = (tg L p).a := ⟨_, rfl⟩
      obtain ⟨Y, hY⟩ : ∃ Y, Y = (tg L p).b := ⟨_, rfl⟩
      rw [← hX] at a1 a2 c0
      rw [← hY] at a3 a4 c1
      have HXX := hide hX
      have HYY := hide hY
      have hpl : p < L.length := by omega
      clear hp hX hY
      go_wp2
      go_round
      case rel => exact ⟨k + 1, by have := HPP.out; omega, by have := HPP.out; go_num, by rw [HX.out, HXX.out, HPP.out]; rfl, by rw [HY.out, HYY.out, HPP.out]; rfl⟩
      case measure => simp [intOf]; omega
    · have e : t - f = k := by omega
      have EV : v = x + (if 0 < y then y + 2 else 0) := by rw [E1.out, e, HX.out, HY.out]; rfl
      rcases (by omega : t = L.length ∨ t < L.length) with h1 | h1 <;> rcases (by omega : y = 0 ∨ 0 < y) with h2 | h2
      · rw [if_neg (by omega)] at EV
        have g1 : ((t : Int) == (L.length : Int)) = true := by simp [h1]
        have g2 : (v == x) = true := by simp [EV]
        have g3 : (y == 0) = true := by simp [h2]
        have g4 : decide (0 < y) = false := decide_eq_false (by omega)
        clear hp e EV h1 h2 E1
        go_wp2
        go_ret
        exact ⟨rfl, HB1.out⟩
      · rw [if_pos h2] at EV
        have g1 : ((t : Int) == (L.length : Int)) = true := by simp [h1]
        have g2 : (v == x + y + 2) = true := by simp [EV]; omega
        have g3 : (y == 0) = false := beq_eq_false_iff_ne.2 (by omega)
        have g4 : decide (0 < y) = true := decide_eq_true h2
        clear hp e EV h1 E1
        go_wp2
        go_ret
        exact ⟨rfl, HB1.out⟩
      · rw [if_neg (by omega)] at EV
        obtain ⟨z, z1, z2⟩ := NX.out h1
        have C2 := CX.out ((t : Int) + 1)
        rw [z2] at C2
        have HC2 := hide C2
        have g1 : ((t : Int) == (L.length : Int)) = false := beq_eq_false_iff_ne.2 (by omega)
        have g2 : (v == x) = true := by simp [EV]
        have g3 : (y == 0) = true := by simp [h2]
        have g4 : decide (0 < y) = false := decide_eq_false (by omega)
        clear hp e EV h2 E1 C2 z2
        (go_wp2_with fail; (with_reducible refine (HC2.out _ HT1.out.reads).mono ?_); rintro e u3 ⟨rfl, hb3⟩; have HB3 := hide (bl_call hb3 HB1.out); clear hb3; go_wp2; go_ret; exact ⟨rfl, HB3.out⟩)
      · rw [if_pos h2] at EV
        obtain ⟨z, z1, z2⟩ := NX.out h1
        have C2 := CX.out ((t : Int) + 1)
        rw [z2] at C2
        have HC2 := hide C2
        have g1 : ((t : Int) == (L.length : Int)) = false := beq_eq_false_iff_ne.2 (by omega)
        have g2 : (v == x + y + 2) = true := by simp [EV]; omega
        have g3 : (y == 0) = false := beq_eq_false_iff_ne.2 (by omega)
        have g4 : decide (0 < y) = true := decide_eq_true h2
        clear hp e EV E1 C2 z2
        (go_wp2_with fail; (with_reducible refine (HC2.out _ HT1.out.reads).mono ?_); rintro e u3 ⟨rfl, hb3⟩; have HB3 := hide (bl_call hb3 HB1.out); clear hb3; go_wp2; go_ret; exact ⟨rfl, HB3.out⟩)
set_option maxRecDepth 100000 in
theorem lifted_FnPageHeight (os : Os) (started : os.Started) (H : Type) (enc : TypeId × Value → H) :
    ReturnsInHanded {} Try.checked os 12 .any (Rows.fnPageHeightSpec.pre6 enc Try.prog Try.f12 Rows.fnPageHeightRow.domain false) (Rows.fnPageHeightSpec.post enc Try.prog Try.f12 false true false false) := by
  refine returnsInHanded_of_change (C := Try.checked) own_knob started (by kernel_rfl) Try.func12
    (ChangeSpec.witness6 (enc := enc) (C := Try.checked) false ⟨#[], #[.slice none 0 0], []⟩ 8 (by kernel_rfl) (by kernel_rfl) (by kernel_rfl) (by kernel_rfl)) ?_
  intro W base args ds gs before hval0 hW hcnd _
  have hval : ∀ (j : Nat) t v, Try.f12.params[j]? = some t → args[j]? = some v → Value.okWide Try.prog W .any base t v := hval0
  have hW' := hW
  obtain ⟨p, q, hA0, hV, rfl, hfz, hnd⟩ := hW
  have hA : DataW.TrodAll enc Try.prog W 0 (fun _ => true) true Try.f12.params.toList args.toList ds p := hA0
  rw [Try.params12] at hA hval
  obtain ⟨v0, vs0, d0, ds0, p0, q0, hargs, rfl, rfl, zh0, r0⟩ := trodAll_cons hA
  obtain ⟨rfl, rfl, rfl⟩ := trodAll_nil r0
  obtain rfl : args = #[v0] := by cases args; simp_all
  obtain ⟨rfl, rfl⟩ := trodVars_none hV
  have zk0 := zh0
  have zl0 : ∀ x ∈ p0, x.block < W.heap.size := by obtain ⟨m, hm⟩ := zk0; exact DataW.trod_lt m _ _ _ hm
  clear hA0 hval0
  obtain ⟨a_code, n_code, c_code, rfl⟩ := okWide_slice Try.underlying33 (hval 0 33 v0 rfl rfl)
  obtain ⟨code, w_code⟩ := isRow_of Try.underlying33 Try.underlying5 (by kernel_rfl) zh0
  refine (walk_FnPageHeight a_code n_code c_code code W w_code).mono fun e W' ⟨he, bel⟩ => ?_
  subst he
  exact ⟨_, rfl, _, _, _, [], _, [], hW', trodAll_mk1 (shut_bool Try.underlying4 _), (trodAll_cons_mk (Below.trod laid_out (by kernel_rfl) (of_decide_eq_true (by kernel_rfl)) zk0 bel zl0) trodAll_mk0), rfl, bel.frame _, fun h => by cases h⟩

/-- The statement. -/
theorem FnPageHeight_holds : Rows.FnPageHeightSaid :=
  OpenClaim.holds_of_wide 12 Try.f12 rfl rfl rfl rfl rfl rfl rfl ⟨rfl, rfl, rfl, rfl, rfl⟩ rfl rfl rfl rfl rfl (by kernel_rfl) Try.func12 (by kernel_rfl)
    (of_decide_eq_true (by kernel_rfl)) (by unfold Func.isWrapper; first | (rw [if_pos (by decide +kernel)]; kernel_rfl) | (rw [if_neg (by decide +kernel)]; exact ⟨rfl, rfl⟩))
    (fun os started H enc _ => lifted_FnPageHeight os started H enc)
end Go.Proofs.Ytofcbhphjghkaaa
