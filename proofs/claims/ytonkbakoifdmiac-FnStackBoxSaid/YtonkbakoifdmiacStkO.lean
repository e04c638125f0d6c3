/- The promise on the stack of one box holds for every code: the stack and the row of a single box are the box. No condition. -/
import Derived.Test.YtonkbakoifdmiacDrawSk
import Derived.Test.YtonkbakoifdmiacStkM
import Derived.Test.YtonkbakoifdmiacBoxRow
namespace Go.Proofs.Ytonkbakoifdmiac
open Go.ChangeShapes Go.WideShapes Go.ChangeAt Go.RowKit
set_option linter.unusedVariables false
set_option maxRecDepth 4000

theorem small_rows {w : World} {a : Option Addr} {n c : Nat} {zs : List Int} (h : IsRow .u8 w a n c zs) : n ≤ maxLen := by
  rcases h with ⟨_, rfl, _, _⟩ | ⟨_, _, hl, hm, _⟩
  · exact Nat.zero_le _
  · omega
theorem TL_take1 {w : World} {A : Option Addr} {L : List Gp} {K : Nat} (h : TL w A L.length L) (hK : K ≤ L.length) : TL w A K (L.take K) := by
  refine ⟨by simp; omega, fun h0 => ?_⟩
  obtain ⟨b, o, e, hb, hc⟩ := h.2 (by omega)
  refine ⟨b, o, e, hb, fun i hi j hj => ?_⟩
  have : tg (L.take K) i = tg L i := by simp [tg, List.getD, List.getElem?_take, hi]
  rw [this]
  exact hc i (by omega) j hj
theorem TO_cap1 {w : World} {e : TypeId} {B : Nat} {A : Option Addr} {c : Nat} {L : List Gp} (h : TO w e B A c L) : L.length ≤ c := by
  rcases Nat.eq_zero_or_pos L.length with h0 | h0
  · omega
  · obtain ⟨_, _, _, _, h1, _⟩ := h.form h0
    exact h1
theorem sov_true {sk : Int} {L : List Gp} {x : Gp} (h : sov sk L = .tuple #[rv3 x, .bool true]) : inB sk 0 10000 = true ∧ fob (js sk) L = true := by
  unfold sov at h
  split at h
  · rename_i q
    refine ⟨q, ?_⟩
    cases q2 : fob (js sk) L
    · rw [fov_no q2] at h
      simp at h
    · rfl
  · simp at h
theorem fov_one {J : Gp → Gp → Gp} {L : List Gp} (h : bok L = true) (h0 : 0 < L.length) : fov J (L.take 1) = .tuple #[rv3 (tg L 0), .bool true] := by
  obtain ⟨h20, hb⟩ := bok_iff.1 h
  have e1 : (L.take 1).length = 1 := by simp; omega
  have e2 : tg (L.take 1) 0 = tg L 0 := by simp [tg, List.getD, List.getElem?_take]
  have v := hb 0 h0
  have B1 : BTo (L.take 1) (L.take 1).length := fun i hi => by
    rw [e1] at hi
    obtain rfl : i = 0 := by omega
    rw [e2]; exact v
  have f1 : fo J (L.take 1) (L.take 1).length = tg L 0 := by rw [e1, fo_one, e2]
  have : fob J (L.take 1) = true := by
    rw [fob, bok_iff.2 ⟨by omega, B1⟩, f1, v]; rfl
  rw [fov_yes this, f1]
theorem sov_one {sk : Int} {L : List Gp} (h : inB sk 0 10000 = true) (hb : bok L = true) (h0 : 0 < L.length) : sov sk (L.take 1) = .tuple #[rv3 (tg L 0), .bool true] := by
  rw [sov, if_pos h, fov_one hb h0]
set_option maxHeartbeats 4000000 in
theorem walk_FnStackOne (a : Option Addr) (n c : Nat) (zs : List Int) (w : World) (hr : IsRow .u8 w a n c zs) :
    Calls Try.prog 5 #[.slice a n c] w fun e w' => e = .returned (.bool true) ∧ Below w.heap.size w w' := by
  have hm := small_rows hr
  unfold maxLen at hm
  rcases (by omega : 1048576 < n ∨ n ≤ 1048576) with hn | hn
  · go_enter Try.func5, Try.ntmps5
    go_wp2
    go_ret
    exact ⟨rfl, bl_refl _⟩
  go_enter Try.func5, Try.ntmps5
  go_wp2_with fail
  refine (DrawStackBox_any _ _ _ _ _ hr).mono ?_
  rintro e u0 ⟨A, d, L, sk, rfl, hol, hll, hsk, hb⟩
  clear hr
  have hcap := TO_cap1 hol
  have CI := fun (u : World) (h : TL u A L.length L) => StackBox_i u A L.length d sk L h (by omega)
  have CS := fun (u : World) (h : TL u A L.length L) => StackBox_s u A L.length d sk L h (by omega)
  have RD0 := hide hol.reads
  clear hol
  have HB0 := hide hb
  obtain ⟨⟨P, Q, R⟩, t, E⟩ := sov_form sk L
  rw [E] at CI CS
  have HCI := hide CI
  have HCS := hide CS
  clear CI CS
  cases t
  · clear E
    (go_wp2_with fail; (with_reducible refine (HCI.out _ RD0.out).mono ?_); rintro e ua ⟨rfl, hb1⟩; have HB1 := hide (bl_call hb1 HB0.out); have RD1 := hide (RD0.out.below hb1); clear hb hb1; go_wp2_with fail; (with_reducible refine (HCS.out _ (RD1.out.alloc _)).mono ?_); rintro e ub ⟨rfl, hb2⟩; have HB2 := hide (bl_call hb2 (bl_alloc HB1.out _)); have RD2 := hide ((RD1.out.alloc _).below hb2); have HX2 := hide ((Bx.new ua P Q R _).below hb2); (obtain ⟨⟨m0, m1, m2⟩, _⟩ := HX2.out); have hz := hb2.size; simp at hz; (have hlm : ua.heap.size < ub.heap.size := by omega); clear hb2)
    go_wp2
    go_ret
    exact ⟨rfl, bl_alloc HB2.out _⟩
  rcases Nat.eq_zero_or_pos L.length with h0 | h0
  · clear E
    have g0 : ((L.length : Int) == 0) = true := beq_iff_eq.2 (by omega)
    replace h0 := hide h0
    (go_wp2_with fail; (with_reducible refine (HCI.out _ RD0.out).mono ?_); rintro e ua ⟨rfl, hb1⟩; have HB1 := hide (bl_call hb1 HB0.out); have RD1 := hide (RD0.out.below hb1); clear hb hb1; go_wp2_with fail; (with_reducible refine (HCS.out _ (RD1.out.alloc _)).mono ?_); rintro e ub ⟨rfl, hb2⟩; have HB2 := hide (bl_call hb2 (bl_alloc HB1.out _)); have RD2 := hide ((RD1.out.alloc _).below hb2); have HX2 := hide ((Bx.new ua P Q R _).below hb2); (obtain ⟨⟨m0, m1, m2⟩, _⟩ := HX2.out); have hz := hb2.size; simp at hz; (have hlm : ua.heap.size < ub.heap.size := by omega); clear hb2)
    go_wp2
    go_ret
    exact ⟨rfl, bl_alloc HB2.out _⟩
  obtain ⟨q1, q2⟩ := sov_true E
  have q3 : bok L = true := by
    unfold fob at q2
    cases q : bok L
    · rw [q] at q2; simp at q2
    · rfl
  have g0 : ((L.length : Int) == 0) = false := beq_eq_false_iff_ne.2 (by omega)
  obtain ⟨X, Y, Z, hx⟩ : ∃ X Y Z, tg L 0 = ⟨X, Y, Z⟩ := ⟨(tg L 0).a, (tg L 0).b, (tg L 0).v, rfl⟩
  have C1 := fun (u : World) (f : Nat) (h : TL u A 1 (L.take 1)) => StackBox_i u A 1 f sk _ h (by omega)
  have C2 := fun (u : World) (f : Nat) (h : TL u A 1 (L.take 1)) => RowBox_i u A 1 f _ h (by omega)
  rw [sov_one q1 q3 h0, hx] at C1
  rw [fov_one q3 h0, hx] at C2
  have HC1 := hide C1
  have HC2 := hide C2
  have HX := hide hx
  have hd1 : 1 ≤ d := by omega
  have hd2 : ¬ d = 0 := by omega
  clear C1 C2 E q1 q2 q3 hx
  (go_wp2_with fail; (with_reducible refine (HCI.out _ RD0.out).mono ?_); rintro e ua ⟨rfl, hb1⟩; have HB1 := hide (bl_call hb1 HB0.out); have RD1 := hide (RD0.out.below hb1); clear hb hb1; go_wp2_with fail; (with_reducible refine (HCS.out _ (RD1.out.alloc _)).mono ?_); rintro e ub ⟨rfl, hb2⟩; have HB2 := hide (bl_call hb2 (bl_alloc HB1.out _)); have RD2 := hide ((RD1.out.alloc _).below hb2); have HX2 := hide ((Bx.new ua P Q R _).below hb2); (obtain ⟨⟨m0, m1, m2⟩, _⟩ := HX2.out); have hz := hb2.size; simp at hz; (have hlm : ua.heap.size < ub.heap.size := by omega); clear hb2)
  go_wp2_with fail
  (with_reducible refine (HC1.out _ _ (TL_take1 (K := 1) (RD2.out.alloc _) (by omega))).mono ?_)
  rintro e uc ⟨rfl, hb3⟩
  have RD3 := hide ((RD2.out.alloc _).below hb3)
  have HB3 := hide (bl_call hb3 (bl_alloc HB2.out _))
  clear hb3 m0 m1 m2
  go_wp2_with fail
  (with_reducible refine (HC2.out _ _ (TL_take1 (K := 1) (RD3.out.alloc _) (by omega))).mono ?_)
  rintro e ud ⟨rfl, hb4⟩
  have RD4 := hide ((RD3.out.alloc _).below hb4)
  have HB4 := hide (bl_call hb4 (bl_alloc HB3.out _))
  have HX4 := hide ((Bx.new uc X Y Z 26).below hb4)
  obtain ⟨⟨m0, m1, m2⟩, _⟩ := HX4.out
  have hz4 := hb4.size
  simp at hz4
  have hlm4 : uc.heap.size < ud.heap.size := by omega
  clear hb4
  obtain ⟨b, o, rfl, hb0, k0, k1, k2⟩ := RD4.out.at3 h0
  rw [HX.out] at k0 k1 k2
  simp only [Nat.zero_mul, Nat.add_zero] at k0 k1 k2
  go_wp2_with fail
  go_quiet (fail)
  go_wp2
  go_ret
  refine ⟨rfl, ?_⟩
  have hb := HB4.out
  repeat' (first | with_reducible exact bl_refl _ | with_reducible assumption | with_reducible refine bl_alloc ?_ _ | with_reducible refine bl_set ?_ ?_ _ | with_reducible refine bl_drewN ?_ _ | with_reducible refine bl_drew ?_ | with_reducible refine bl_call (by assumption) ?_)
set_option maxRecDepth 100000 in
theorem lifted_FnStackOne (os : Os) (started : os.Started) (H : Type) (enc : TypeId × Value → H) :
    ReturnsInHanded {} Try.checked os 5 .any (Rows.fnStackOneSpec.pre6 enc Try.prog Try.f5 Rows.fnStackOneRow.domain false) (Rows.fnStackOneSpec.post enc Try.prog Try.f5 false true false false) := by
  refine returnsInHanded_of_change (C := Try.checked) own_knob started (by kernel_rfl) Try.func5
    (ChangeSpec.witness6 (enc := enc) (C := Try.checked) false ⟨#[], #[.slice none 0 0], []⟩ 8 (by kernel_rfl) (by kernel_rfl) (by kernel_rfl) (by kernel_rfl)) ?_
  intro W base args ds gs before hval0 hW hcnd _
  have hval : ∀ (j : Nat) t v, Try.f5.params[j]? = some t → args[j]? = some v → Value.okWide Try.prog W .any base t v := hval0
  have hW' := hW
  obtain ⟨p, q, hA0, hV, rfl, hfz, hnd⟩ := hW
  have hA : DataW.TrodAll enc Try.prog W 0 (fun _ => true) true Try.f5.params.toList args.toList ds p := hA0
  rw [Try.params5] at hA hval
  obtain ⟨v0, vs0, d0, ds0, p0, q0, hargs, rfl, rfl, zh0, r0⟩ := trodAll_cons hA
  obtain ⟨rfl, rfl, rfl⟩ := trodAll_nil r0
  obtain rfl : args = #[v0] := by cases args; simp_all
  obtain ⟨rfl, rfl⟩ := trodVars_none hV
  have zk0 := zh0
  have zl0 : ∀ x ∈ p0, x.block < W.heap.size := by obtain ⟨m, hm⟩ := zk0; exact DataW.trod_lt m _ _ _ hm
  clear hA0 hval0
  obtain ⟨a_code, n_code, c_code, rfl⟩ := okWide_slice Try.underlying22 (hval 0 22 v0 rfl rfl)
  obtain ⟨code, w_code⟩ := isRow_of Try.underlying22 Try.underlying5 (by kernel_rfl) zh0
  refine (walk_FnStackOne a_code n_code c_code code W w_code).mono fun e W' ⟨he, bel⟩ => ?_
  subst he
  exact ⟨_, rfl, _, _, _, [], _, [], hW', trodAll_mk1 (shut_bool Try.underlying4 _), (trodAll_cons_mk (Below.trod laid_out (by kernel_rfl) (of_decide_eq_true (by kernel_rfl)) zk0 bel zl0) trodAll_mk0), rfl, bel.frame _, fun h => by cases h⟩

/-- The statement. -/
theorem FnStackOne_holds : Rows.FnStackOneSaid :=
  OpenClaim.holds_of_wide 5 Try.f5 rfl rfl rfl rfl rfl rfl rfl ⟨rfl, rfl, rfl, rfl, rfl⟩ rfl rfl rfl rfl rfl (by kernel_rfl) Try.func5 (by kernel_rfl)
    (of_decide_eq_true (by kernel_rfl)) (by unfold Func.isWrapper; first | (rw [if_pos (by decide +kernel)]; kernel_rfl) | (rw [if_neg (by decide +kernel)]; exact ⟨rfl, rfl⟩))
    (fun os started H enc _ => lifted_FnStackOne os started H enc)
end Go.Proofs.Ytonkbakoifdmiac
