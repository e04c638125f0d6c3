/- The promise on nested rows holds for every code: the row of the rows of a beginning and of the rest is the row of all. No condition. -/
import Derived.Test.YtonkbakoifdmiacRowP
namespace Go.Proofs.Ytonkbakoifdmiac
open Go.ChangeShapes Go.WideShapes Go.ChangeAt Go.RowKit
set_option linter.unusedVariables false
set_option maxRecDepth 4000

theorem TL_take {w : World} {A : Option Addr} {L : List Gp} {K : Nat} (h : TL w A L.length L) (hK : K ≤ L.length) : TL w A K (L.take K) := by
  refine ⟨by simp; omega, fun h0 => ?_⟩
  obtain ⟨b, o, e, hb, hc⟩ := h.2 (by omega)
  refine ⟨b, o, e, hb, fun i hi j hj => ?_⟩
  have : tg (L.take K) i = tg L i := by simp [tg, List.getD, List.getElem?_take, hi]
  rw [this]
  exact hc i (by omega) j hj
theorem TL_two (u : World) (a b c p q r : Int) (t : TypeId) : TL (u.alloc (.cells #[.int .i64 a, .int .i64 b, .int .i64 c, .int .i64 p, .int .i64 q, .int .i64 r] t)) (some ⟨u.heap.size, 0, none⟩) 2 [(⟨a, b, c⟩ : Gp), ⟨p, q, r⟩] := by
  refine ⟨rfl, fun _ => ⟨u.heap.size, 0, rfl, by simp, fun i hi j hj => ?_⟩⟩
  have hj' : j < 3 := hj
  rcases (by omega : i = 0 ∨ i = 1) with rfl | rfl <;> rcases (by omega : j = 0 ∨ j = 1 ∨ j = 2) with rfl | rfl | rfl <;> simp [go_sem, Rec.cells, tg, Rec.size]
theorem TO_cap_n {w : World} {e : TypeId} {B : Nat} {A : Option Addr} {c : Nat} {L : List Gp} (h : TO w e B A c L) : L.length ≤ c := by
  rcases Nat.eq_zero_or_pos L.length with h0 | h0
  · omega
  · obtain ⟨_, _, _, _, h1, _⟩ := h.form h0
    exact h1

theorem TO_some {w : World} {e : TypeId} {B : Nat} {A : Option Addr} {c : Nat} {L : List Gp} (h : TO w e B A c L) (hc : c ≠ 0) : ∃ g, A = some ⟨g, 0, none⟩ := by
  rcases h.2 with ⟨h0, _⟩ | ⟨g, cap, cur, h1, _⟩
  · injection h0 with _ _ h2
    exact absurd h2 hc
  · injection h1 with h1
    exact ⟨g, h1⟩
theorem TL_drop {w : World} {b o : Nat} {L : List Gp} {K : Nat} (h : TL w (some ⟨b, o, none⟩) L.length L) (hK : K ≤ L.length) : TL w (some ⟨b, o + K * 3, none⟩) (L.length - K) (L.drop K) := by
  refine ⟨by simp, fun h0 => ?_⟩
  obtain ⟨b', o', e, hb, hc⟩ := h.2 (by omega)
  injection e with e
  cases e
  refine ⟨b, o + K * 3, rfl, hb, fun i hi j hj => ?_⟩
  have : tg (L.drop K) i = tg L (K + i) := by simp [tg, List.getD, List.getElem?_drop]
  rw [this]
  have := hc (K + i) (by omega) j hj
  rw [← this]
  have e3 : Rec.size Gp = 3 := rfl
  rw [e3]
  congr 2
  omega
theorem TL_drop0 {w : World} {b : Nat} {L : List Gp} {K : Nat} (h : TL w (some ⟨b, 0, none⟩) L.length L) (hK : K ≤ L.length) : TL w (some ⟨b, K * 3, none⟩) (L.length - K) (L.drop K) := by
  have := TL_drop h hK
  rwa [Nat.zero_add] at this
theorem TL_two' (u : World) (o : Obj) (a b c p q r : Int) (t : TypeId) : TL ((u.alloc o).alloc (.cells #[.int .i64 a, .int .i64 b, .int .i64 c, .int .i64 p, .int .i64 q, .int .i64 r] t)) (some ⟨u.heap.size + 1, 0, none⟩) 2 [(⟨a, b, c⟩ : Gp), ⟨p, q, r⟩] := by
  have := TL_two (u.alloc o) a b c p q r t
  simpa using this
set_option maxHeartbeats 4000000 in
theorem walk_FnRowNested (a : Option Addr) (n c : Nat) (zs : List Int) (a2 : Option Addr) (n2 c2 : Nat) (zs2 : List Int) (w : World) (hr : IsRow .u8 w a n c zs) (hr2 : IsRow .u8 w a2 n2 c2 zs2) :
    Calls Try.prog 3 #[.slice a n c, .slice a2 n2 c2] w fun e w' => e = .returned (.bool true) ∧ Below w.heap.size w w' := by
  have hm := small_rowr hr
  have hm2 := small_rowr hr2
  unfold maxLen at hm hm2
  rcases (by omega : 1048576 < n ∨ n ≤ 1048576 ∧ 1048576 < n2 ∨ n ≤ 1048576 ∧ n2 ≤ 1048576) with hn | ⟨hn, hn2⟩ | ⟨hn, hn2⟩
  · go_enter Try.func3, Try.ntmps3
    go_wp2
    go_ret
    exact ⟨rfl, bl_refl _⟩
  · go_enter Try.func3, Try.ntmps3
    go_wp2
    go_ret
    exact ⟨rfl, bl_refl _⟩
  go_enter Try.func3, Try.ntmps3
  go_wp2_with fail
  refine (DrawRowBox_any _ _ _ _ _ hr).mono ?_
  rintro e u0 ⟨A, d, L, rfl, hol, hll, hb⟩
  clear hr hr2
  have hcap := TO_cap_n hol
  have HSM := hide (fun h => TO_some hol h)
  have CI := fun (u : World) (h : TL u A L.length L) => RowBox_i u A L.length d L h (by omega)
  have CS := fun (u : World) (h : TL u A L.length L) => RowBox_s u A L.length d L h (by omega)
  have RD0 := hide hol.reads
  clear hol
  have HB0 := hide hb
  cases q : fob jr L
  · rw [fov_no q] at CI CS
    have HCI := hide CI
    have HCS := hide CS
    clear CI CS q
    (go_wp2_with fail; (with_reducible refine (HCI.out _ RD0.out).mono ?_); rintro e ua ⟨rfl, hb1⟩; have HB1 := hide (bl_call hb1 HB0.out); have RD1 := hide (RD0.out.below hb1); clear hb hb1; go_wp2_with fail; (with_reducible refine (HCS.out _ (RD1.out.alloc _)).mono ?_); rintro e ub ⟨rfl, hb2⟩; have HB2 := hide (bl_call hb2 (bl_alloc HB1.out _)); have RD2 := hide ((RD1.out.alloc _).below hb2))
    obtain ⟨⟨m0, m1, m2⟩, _⟩ := (Bx.new ua 0 0 0 _).below hb2
    have hz := hb2.size
    simp at hz
    have hlm : ua.heap.size < ub.heap.size := by omega
    clear hb2
    go_wp2
    go_ret
    exact ⟨rfl, bl_alloc HB2.out _⟩
  · obtain ⟨K, hK⟩ : ∃ K : Nat, (n2 : Int) % ((L.length : Int) + 1) = (K : Int) := ⟨((n2 : Int) % ((L.length : Int) + 1)).toNat, by
      have := Int.emod_nonneg (n2 : Int) (show (L.length : Int) + 1 ≠ 0 by omega)
      omega⟩
    have hKL : K ≤ L.length := by
      have := Int.emod_lt_of_pos (n2 : Int) (show 0 < (L.length : Int) + 1 by omega)
      omega
    obtain ⟨x, y, e1, e2, e3⟩ := fov_parts q hKL
    obtain ⟨x1, x2, x3⟩ := x
    obtain ⟨y1, y2, y3⟩ := y
    rw [fov_sums q] at CI CS
    obtain ⟨P, hP⟩ : ∃ P, P = sA L := ⟨_, rfl⟩
    obtain ⟨Q, hQ⟩ : ∃ Q, Q = mB L := ⟨_, rfl⟩
    obtain ⟨R, hR⟩ : ∃ R, R = mV L := ⟨_, rfl⟩
    rw [← hP, ← hQ, ← hR] at CI CS e3
    have C1 := fun (u : World) (f : Nat) (h : TL u A K (L.take K)) => RowBox_i u A K f _ h (by omega)
    have C2 := fun (u : World) (B : Option Addr) (f : Nat) (h : TL u B (L.length - K) (L.drop K)) => RowBox_i u B (L.length - K) f _ h (by omega)
    have C3 := fun (u : World) (B : Option Addr) (f : Nat) (h : TL u B 2 [(⟨x1, x2, x3⟩ : Gp), ⟨y1, y2, y3⟩]) => RowBox_i u B 2 f _ h (by omega)
    rw [e1] at C1
    rw [e2] at C2
    rw [e3] at C3
    have HCI := hide CI
    have HCS := hide CS
    have HC1 := hide C1
    have HC2 := hide C2
    have HC3 := hide C3
    clear CI CS C1 C2 C3 e1 e2 e3 hP hQ hR q
    (go_wp2_with fail; (with_reducible refine (HCI.out _ RD0.out).mono ?_); rintro e ua ⟨rfl, hb1⟩; have HB1 := hide (bl_call hb1 HB0.out); have RD1 := hide (RD0.out.below hb1); clear hb hb1; go_wp2_with fail; (with_reducible refine (HCS.out _ (RD1.out.alloc _)).mono ?_); rintro e ub ⟨rfl, hb2⟩; have HB2 := hide (bl_call hb2 (bl_alloc HB1.out _)); have RD2 := hide ((RD1.out.alloc _).below hb2))
    have HX2 := hide ((Bx.new ua P Q R _).below hb2)
    obtain ⟨⟨m0, m1, m2⟩, _⟩ := HX2.out
    have hz := hb2.size
    simp at hz
    have hlm : ua.heap.size < ub.heap.size := by omega
    have hKd : K ≤ d := by omega
    clear hb2
    clear m0 m1 m2
    obtain ⟨⟨m0, m1, m2⟩, _⟩ := HX2.out
    go_wp2_with fail
    (with_reducible refine (HC1.out _ _ (TL_take (RD2.out.alloc _) hKL)).mono ?_)
    rintro e uc ⟨rfl, hb3⟩
    have RD3 := hide ((RD2.out.alloc _).below hb3)
    have HX3 := hide ((HX2.out.alloc _).below hb3)
    have HB3 := hide (bl_call hb3 (bl_alloc HB2.out _))
    have hz3 := hb3.size
    simp at hz3
    clear hb3 m0 m1 m2
    have X3 := hide (Bx.new uc x1 x2 x3 26)
    rcases (by omega : K = d ∨ K < d) with hkd | hkd
    · have TD : Hid (∀ (u : World) (B : Option Addr), TL u B 0 (L.drop K)) := hide (fun u B => by rw [List.drop_eq_nil_of_le (by omega)]; exact TL.nil _ _)
      have e0 : L.length - K = 0 := by omega
      rw [e0] at HC2
      go_wp2_with fail
      (with_reducible refine (HC2.out _ _ _ (TD.out _ _)).mono ?_)
      rintro e ud ⟨rfl, hb4⟩
      have HB4 := hide (bl_call hb4 (bl_alloc HB3.out _))
      have HP4 := hide ((HX3.out.alloc _).below hb4)
      have HA4 := hide (X3.out.below hb4)
      have HY4 := hide (Bx.new ud y1 y2 y3 26)
      obtain ⟨⟨n0, n1, n2⟩, _⟩ := HA4.out
      have hz4 := hb4.size
      simp at hz4
      have hlm4 : uc.heap.size < ud.heap.size := by omega
      clear hb4
      go_wp2_with fail
      (with_reducible refine (HC3.out _ _ _ (TL_two' _ _ _ _ _ _ _ _ _)).mono ?_)
      rintro e ue ⟨rfl, hb5⟩
      have HB5 := hide (bl_call hb5 (bl_alloc (bl_alloc HB4.out _) _))
      have HP5 := hide (((HP4.out.alloc _).alloc _).below hb5)
      obtain ⟨⟨m0, m1, m2⟩, _⟩ := HP5.out
      have hz5 := hb5.size
      simp at hz5
      have hlm5 : ua.heap.size < ue.heap.size := by omega
      clear hb5 n0 n1 n2
      go_wp2_with fail
      go_ret
      exact ⟨rfl, bl_alloc HB5.out _⟩
    · obtain ⟨g, rfl⟩ := HSM.out (by omega)
      go_wp2_with fail
      (with_reducible refine (HC2.out _ _ _ (TL_drop0 (RD3.out.alloc _) hKL)).mono ?_)
      rintro e ud ⟨rfl, hb4⟩
      have HB4 := hide (bl_call hb4 (bl_alloc HB3.out _))
      have HP4 := hide ((HX3.out.alloc _).below hb4)
      have HA4 := hide (X3.out.below hb4)
      have HY4 := hide (Bx.new ud y1 y2 y3 26)
      obtain ⟨⟨n0, n1, n2⟩, _⟩ := HA4.out
      have hz4 := hb4.size
      simp at hz4
      have hlm4 : uc.heap.size < ud.heap.size := by omega
      clear hb4
      go_wp2_with fail
      (with_reducible refine (HC3.out _ _ _ (TL_two' _ _ _ _ _ _ _ _ _)).mono ?_)
      rintro e ue ⟨rfl, hb5⟩
      have HB5 := hide (bl_call hb5 (bl_alloc (bl_alloc HB4.out _) _))
      have HP5 := hide (((HP4.out.alloc _).alloc _).below hb5)
      obtain ⟨⟨m0, m1, m2⟩, _⟩ := HP5.out
      have hz5 := hb5.size
      simp at hz5
      have hlm5 : ua.heap.size < ue.heap.size := by omega
      clear hb5 n0 n1 n2
      go_wp2_with fail
      go_ret
      exact ⟨rfl, bl_alloc HB5.out _⟩
set_option maxRecDepth 100000 in
theorem lifted_FnRowNested (os : Os) (started : os.Started) (H : Type) (enc : TypeId × Value → H) :
    ReturnsInHanded {} Try.checked os 3 .any (Rows.fnRowNestedSpec.pre6 enc Try.prog Try.f3 Rows.fnRowNestedRow.domain false) (Rows.fnRowNestedSpec.post enc Try.prog Try.f3 false true false false) := by
  refine returnsInHanded_of_change (C := Try.checked) own_knob started (by kernel_rfl) Try.func3
    (ChangeSpec.witness6 (enc := enc) (C := Try.checked) false ⟨#[], #[.slice none 0 0, .slice none 0 0], []⟩ 8 (by kernel_rfl) (by kernel_rfl) (by kernel_rfl) (by kernel_rfl)) ?_
  intro W base args ds gs before hval0 hW hcnd _
  have hval : ∀ (j : Nat) t v, Try.f3.params[j]? = some t → args[j]? = some v → Value.okWide Try.prog W .any base t v := hval0
  have hW' := hW
  obtain ⟨p, q, hA0, hV, rfl, hfz, hnd⟩ := hW
  have hA : DataW.TrodAll enc Try.prog W 0 (fun _ => true) true Try.f3.params.toList args.toList ds p := hA0
  rw [Try.params3] at hA hval
  obtain ⟨v0, vs0, d0, ds0, p0, q0, hargs, rfl, rfl, zh0, r0⟩ := trodAll_cons hA
  obtain ⟨v1, vs1, d1, ds1, p1, q1, rfl, rfl, rfl, zh1, r1⟩ := trodAll_cons r0
  obtain ⟨rfl, rfl, rfl⟩ := trodAll_nil r1
  obtain rfl : args = #[v0, v1] := by cases args; simp_all
  obtain ⟨rfl, rfl⟩ := trodVars_none hV
  have zk0 := zh0
  have zl0 : ∀ x ∈ p0, x.block < W.heap.size := by obtain ⟨m, hm⟩ := zk0; exact DataW.trod_lt m _ _ _ hm
  have zk1 := zh1
  have zl1 : ∀ x ∈ p1, x.block < W.heap.size := by obtain ⟨m, hm⟩ := zk1; exact DataW.trod_lt m _ _ _ hm
  clear hA0 hval0
  obtain ⟨a_code, n_code, c_code, rfl⟩ := okWide_slice Try.underlying22 (hval 0 22 v0 rfl rfl)
  obtain ⟨code, w_code⟩ := isRow_of Try.underlying22 Try.underlying5 (by kernel_rfl) zh0
  obtain ⟨a_more, n_more, c_more, rfl⟩ := okWide_slice Try.underlying22 (hval 1 22 v1 rfl rfl)
  obtain ⟨more, w_more⟩ := isRow_of Try.underlying22 Try.underlying5 (by kernel_rfl) zh1
  refine (walk_FnRowNested a_code n_code c_code code a_more n_more c_more more W w_code w_more).mono fun e W' ⟨he, bel⟩ => ?_
  subst he
  exact ⟨_, rfl, _, _, _, [], _, [], hW', trodAll_mk1 (shut_bool Try.underlying4 _), (trodAll_cons_mk (Below.trod laid_out (by kernel_rfl) (of_decide_eq_true (by kernel_rfl)) zk0 bel zl0) (trodAll_cons_mk (Below.trod laid_out (by kernel_rfl) (of_decide_eq_true (by kernel_rfl)) zk1 bel zl1) trodAll_mk0)), rfl, bel.frame _, fun h => by cases h⟩

/-- The statement. -/
theorem FnRowNested_holds : Rows.FnRowNestedSaid :=
  OpenClaim.holds_of_wide 3 Try.f3 rfl rfl rfl rfl rfl rfl rfl ⟨rfl, rfl, rfl, rfl, rfl⟩ rfl rfl rfl rfl rfl (by kernel_rfl) Try.func3 (by kernel_rfl)
    (of_decide_eq_true (by kernel_rfl)) (by unfold Func.isWrapper; first | (rw [if_pos (by decide +kernel)]; kernel_rfl) | (rw [if_neg (by decide +kernel)]; exact ⟨rfl, rfl⟩))
    (fun os started H enc _ => lifted_FnRowNested os started H enc)
end Go.Proofs.Ytonkbakoifdmiac
