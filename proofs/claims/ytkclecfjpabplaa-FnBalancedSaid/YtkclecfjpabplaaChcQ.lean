/- The promises on balanced columns hold for every code: the largest height of balanced columns is the balanced height, and no columns are lower. No condition. -/
import Derived.Test.YtkclecfjpabplaaJn
import Derived.Test.YtkclecfjpabplaaChcP
namespace Go.Proofs.Ytkclecfjpabplaa
open Go.ChangeShapes Go.WideShapes Go.ChangeAt Go.RowKit
set_option linter.unusedVariables false
set_option maxRecDepth 4000
open Classical

set_option maxHeartbeats 4000000 in
theorem walk_FnBalanced (a : Option Addr) (n c : Nat) (zs : List Int) (w : World) (hr : IsRow .u8 w a n c zs) :
    Calls Try.prog 6 #[.slice a n c] w fun e w' => e = .returned (.bool true) ∧ Below w.heap.size w w' := by
  have hm := small_row hr
  unfold maxLen at hm
  rcases (by omega : 1048576 < n ∨ n ≤ 1048576) with hn | hn
  · go_enter Try.func6, Try.ntmps6
    go_wp2
    go_ret
    exact ⟨rfl, bl_refl _⟩
  go_enter Try.func6, Try.ntmps6
  go_wp2_with fail
  (with_reducible refine (DrawBalanced_any _ _ _ _ _ hr).mono ?_)
  rintro e u0 ⟨A, c', l, x, B, d, E, rfl, hol, hoE, hll, hx, hlE, hb⟩
  clear hr
  have HI := fun (u : World) (h1 : IL u A l.length l) => BalancedHeight_i u A l.length c' l x h1 (by omega) hol.capp
  have HS := fun (u : World) (h1 : IL u A l.length l) => BalancedHeight_s u A l.length c' l x h1 (by omega)
  have CI := fun (u : World) (h1 : IL u A l.length l) (h2 : IL u B E.length E) => CheckColumns_i u A B l.length c' E.length d l E h1 hol.capp h2 (by omega) (by omega)
  have CS := fun (u : World) (h1 : IL u A l.length l) (h2 : IL u B E.length E) => CheckColumns_s u A B l.length c' E.length d l E h1 h2 (by omega) (by omega)
  have HO := hide hol
  have HE := hide hoE
  have HB := hide hb
  clear hol hoE hb
  have TR := hide (fun (h : 0 ≤ bhV l x) (g : (ccV l E).2 = true) (k : (E.length : Int) ≤ x) => show bhV l x ≤ (ccV l E).1 from by
    obtain ⟨v1, v2, v3⟩ := ccV_true g
    obtain ⟨⟨k1, k2⟩, ⟨m1, m2⟩, _, k4, _⟩ := bhV_says h
    rw [v3, k4]
    exact cc_balanced (fun j hj => (k2 j hj).1) m1 v2 k)
  obtain ⟨t, ht⟩ : ∃ t, t = ccV l E := ⟨_, rfl⟩
  rw [← ht] at CI CS TR
  obtain ⟨y, hy⟩ : ∃ y, y = bhV l x := ⟨_, rfl⟩
  rw [← hy] at HI HS TR
  clear ht hy
  obtain ⟨z, f⟩ := t
  have TR := hide (fun (h : 0 ≤ y) (g : f = true) (k : (E.length : Int) ≤ x) => show y ≤ z from TR.out h g k)
  have HCI := hide CI
  have HCS := hide CS
  have HHI := hide HI
  have HHS := hide HS
  clear CI CS HI HS
  go_wp2_with fail
  (with_reducible refine (HHI.out _ HO.out.reads).mono ?_)
  rintro e u1 ⟨rfl, hb1⟩
  have HO1 := hide (HO.out.below hb1)
  have HE1 := hide (HE.out.below hb1)
  have HB1 := hide (bl_call hb1 HB.out)
  clear hb1 HO HE HB
  go_wp2_with fail
  (with_reducible refine (HCI.out _ HO1.out.reads HE1.out.reads).mono ?_)
  rintro e u2 ⟨rfl, hb2⟩
  have HO2 := hide (HO1.out.below hb2)
  have HE2 := hide (HE1.out.below hb2)
  have HB2 := hide (bl_call hb2 HB1.out)
  clear hb2 HO1 HE1 HB1
  go_wp2_with fail
  (with_reducible refine (HCS.out _ HO2.out.reads HE2.out.reads).mono ?_)
  rintro e u3 ⟨rfl, j3, rfl⟩
  go_wp2_with fail
  (with_reducible refine (HHS.out _ (HO2.out.reads.drewN j3)).mono ?_)
  rintro e w' ⟨rfl, rfl⟩
  rcases (by omega : y < 0 ∨ 0 ≤ y) with q | q
  · clear TR
    go_wp2_with fail
    (with_reducible refine (HHS.out _ (HO2.out.reads.drewN j3)).mono ?_)
    rintro e w' ⟨rfl, rfl⟩
    go_wp2
    go_ret
    exact ⟨rfl, bl_drewN HB2.out _⟩
  cases f
  · clear TR
    go_wp2_with fail
    (with_reducible refine (HHS.out _ (HO2.out.reads.drewN j3)).mono ?_)
    rintro e w' ⟨rfl, rfl⟩
    go_wp2
    go_ret
    exact ⟨rfl, bl_drewN HB2.out _⟩
  rcases (by omega : x < (E.length : Int) ∨ (E.length : Int) ≤ x) with q2 | q2
  · clear TR
    go_wp2_with fail
    (with_reducible refine (HHS.out _ (HO2.out.reads.drewN j3)).mono ?_)
    rintro e w' ⟨rfl, rfl⟩
    go_wp2
    go_ret
    exact ⟨rfl, bl_drewN HB2.out _⟩
  · have d0 : decide (y ≤ z) = true := decide_eq_true (TR.out q rfl q2)
    clear TR
    go_wp2
    go_ret
    exact ⟨rfl, bl_drewN HB2.out _⟩
set_option maxRecDepth 100000 in
theorem lifted_FnBalanced (os : Os) (started : os.Started) (H : Type) (enc : TypeId × Value → H) :
    ReturnsInHanded {} Try.checked os 6 .any (Rows.fnBalancedSpec.pre6 enc Try.prog Try.f6 Rows.fnBalancedRow.domain false) (Rows.fnBalancedSpec.post enc Try.prog Try.f6 false true false false) := by
  refine returnsInHanded_of_change (C := Try.checked) own_knob started (by kernel_rfl) Try.func6
    (ChangeSpec.witness6 (enc := enc) (C := Try.checked) false ⟨#[], #[.slice none 0 0], []⟩ 8 (by kernel_rfl) (by kernel_rfl) (by kernel_rfl) (by kernel_rfl)) ?_
  intro W base args ds gs before hval0 hW hcnd _
  have hval : ∀ (j : Nat) t v, Try.f6.params[j]? = some t → args[j]? = some v → Value.okWide Try.prog W .any base t v := hval0
  have hW' := hW
  obtain ⟨p, q, hA0, hV, rfl, hfz, hnd⟩ := hW
  have hA : DataW.TrodAll enc Try.prog W 0 (fun _ => true) true Try.f6.params.toList args.toList ds p := hA0
  rw [Try.params6] at hA hval
  obtain ⟨v0, vs0, d0, ds0, p0, q0, hargs, rfl, rfl, zh0, r0⟩ := trodAll_cons hA
  obtain ⟨rfl, rfl, rfl⟩ := trodAll_nil r0
  obtain rfl : args = #[v0] := by cases args; simp_all
  obtain ⟨rfl, rfl⟩ := trodVars_none hV
  have zk0 := zh0
  have zl0 : ∀ x ∈ p0, x.block < W.heap.size := by obtain ⟨m, hm⟩ := zk0; exact DataW.trod_lt m _ _ _ hm
  clear hA0 hval0
  obtain ⟨a_code, n_code, c_code, rfl⟩ := okWide_slice Try.underlying27 (hval 0 27 v0 rfl rfl)
  obtain ⟨code, w_code⟩ := isRow_of Try.underlying27 Try.underlying5 (by kernel_rfl) zh0
  refine (walk_FnBalanced a_code n_code c_code code W w_code).mono fun e W' ⟨he, bel⟩ => ?_
  subst he
  exact ⟨_, rfl, _, _, _, [], _, [], hW', trodAll_mk1 (shut_bool Try.underlying4 _), (trodAll_cons_mk (Below.trod laid_out (by kernel_rfl) (of_decide_eq_true (by kernel_rfl)) zk0 bel zl0) trodAll_mk0), rfl, bel.frame _, fun h => by cases h⟩

/-- The statement. -/
theorem FnBalanced_holds : Rows.FnBalancedSaid :=
  OpenClaim.holds_of_wide 6 Try.f6 rfl rfl rfl rfl rfl rfl rfl ⟨rfl, rfl, rfl, rfl, rfl⟩ rfl rfl rfl rfl rfl (by kernel_rfl) Try.func6 (by unfold joinedFacts; rw [may_enter, lifts_final, make_cut]; kernel_rfl)
    (of_decide_eq_true (by kernel_rfl)) (by unfold Func.isWrapper; first | (rw [if_pos (by decide +kernel)]; kernel_rfl) | (rw [if_neg (by decide +kernel)]; exact ⟨rfl, rfl⟩))
    (fun os started H enc _ => lifted_FnBalanced os started H enc)

set_option maxHeartbeats 4000000 in
theorem walk_FnBalanceColumns (a : Option Addr) (n c : Nat) (zs : List Int) (w : World) (hr : IsRow .u8 w a n c zs) :
    Calls Try.prog 5 #[.slice a n c] w fun e w' => e = .returned (.bool true) ∧ Below w.heap.size w w' := by
  have hm := small_row hr
  unfold maxLen at hm
  rcases (by omega : 1048576 < n ∨ n ≤ 1048576) with hn | hn
  · go_enter Try.func5, Try.ntmps5
    go_wp2
    go_ret
    exact ⟨rfl, bl_refl _⟩
  go_enter Try.func5, Try.ntmps5
  go_wp2_with fail
  (with_reducible refine (DrawBalanceColumns_any _ _ _ _ _ hr).mono ?_)
  rintro e u0 ⟨A, c', l, x, rfl, hol, hll, _, hx, hb⟩
  clear hr
  have HI := fun (u : World) (h1 : IL u A l.length l) => BalancedHeight_i u A l.length c' l x h1 (by omega) hol.capp
  have BI := fun (u : World) (h1 : IL u A l.length l) => BalanceColumns_i u A l.length c' l x h1 (by omega) hol.capp
  have BS := fun (u : World) (h1 : IL u A l.length l) => BalanceColumns_s u A l.length c' l x h1 (by omega)
  have hlE := bcV_len l x
  have CI := fun (u : World) (B : Option Addr) (d : Nat) (h1 : IL u A l.length l) (h2 : IL u B (bcV l x).length (bcV l x)) => CheckColumns_i u A B l.length c' (bcV l x).length d l (bcV l x) h1 hol.capp h2 (by omega) (by omega)
  have HO := hide hol
  have HB := hide hb
  clear hol hb
  have TR := hide (fun (h : bcV l x ≠ []) => show ccV l (bcV l x) = (bhV l x, true) ∧ ((bcV l x).length : Int) ≤ x from by
    refine cc_own ?_
    rcases (by omega : 0 ≤ bhV l x ∨ bhV l x < 0) with g | g
    · exact g
    · exact absurd (bcV_no rfl g) h)
  unfold RetL at BI BS
  obtain ⟨E, hE⟩ : ∃ E, E = bcV l x := ⟨_, rfl⟩
  obtain ⟨y, hy⟩ : ∃ y, y = bhV l x := ⟨_, rfl⟩
  rw [← hE] at BI BS hlE CI TR
  rw [← hy] at HI TR
  clear hy hE
  have HBI := hide BI
  have HBS := hide BS
  have HHI := hide HI
  clear BI BS HI
  go_wp2_with fail
  (with_reducible refine (HBI.out _ HO.out.reads).mono ?_)
  rintro e u1 ⟨B, d, rfl, ho1, hb1⟩
  have HO1 := hide (HO.out.below hb1)
  have HB1 := hide (bl_call hb1 HB.out)
  clear hb1 HO HB
  go_wp2_with fail
  (with_reducible refine (HBS.out _ HO1.out.reads).mono ?_)
  rintro e u2 ⟨B2, d2, rfl, ho2, hb2⟩
  have ho1 := ho1.below hb2
  have HO2 := hide (HO1.out.below hb2)
  have HB2 := hide (bl_call hb2 HB1.out)
  clear hb2 HO1 HB1
  go_wp2_with fail
  (with_reducible refine (eqInts_l _ _ _ _ _ _ _ E E ho1.reads ho2.reads (by omega) (by omega)).mono ?_)
  rintro e u3 ⟨rfl, j3, rfl⟩
  simp only [decide_true]
  have ho1 := hide (ho1.drewN j3)
  have HO3 := hide (HO2.out.drewN j3)
  have HB3 := hide (bl_drewN HB2.out j3)
  clear ho2 HO2 HB2
  rcases Nat.eq_zero_or_pos E.length with q | q
  · have g0 : ((E.length : Int) == 0) = true := by simp [q]
    have Q := hide q
    clear TR CI q
    go_wp2_with fail
    (with_reducible refine (HBS.out _ HO3.out.reads).mono ?_)
    rintro e u4 ⟨B4, d4, rfl, ho4, hb4⟩
    have ho1 := ho1.out.below hb4
    have HB4 := hide (bl_call hb4 HB3.out)
    clear hb4
    go_wp2_with fail
    (with_reducible refine (eqInts_l _ _ _ _ _ _ _ E E ho1.reads ho4.reads (by omega) (by omega)).mono ?_)
    rintro e u5 ⟨rfl, j5, rfl⟩
    simp only [decide_true]
    go_wp2
    go_ret
    exact ⟨rfl, bl_drewN HB4.out _⟩
  · obtain ⟨t1, t2⟩ := TR.out (by intro h; rw [h] at q; simp at q)
    rw [t1] at CI
    have HCI := hide CI
    have g0 : ((E.length : Int) == 0) = false := beq_eq_false_iff_ne.2 (by omega)
    clear TR CI t1
    go_wp2_with fail
    (with_reducible refine (HCI.out _ _ _ HO3.out.reads ho1.out.reads).mono ?_)
    rintro e u4 ⟨rfl, hb4⟩
    have HO4 := hide (HO3.out.below hb4)
    have HB4 := hide (bl_call hb4 HB3.out)
    clear hb4 HO3 HB3
    go_wp2_with fail
    (with_reducible refine (HHI.out _ HO4.out.reads).mono ?_)
    rintro e u5 ⟨rfl, hb5⟩
    have HB5 := hide (bl_call hb5 HB4.out)
    clear hb5
    have d0 : decide ((E.length : Int) ≤ x) = true := decide_eq_true t2
    go_wp2
    go_ret
    exact ⟨rfl, HB5.out⟩
set_option maxRecDepth 100000 in
theorem lifted_FnBalanceColumns (os : Os) (started : os.Started) (H : Type) (enc : TypeId × Value → H) :
    ReturnsInHanded {} Try.checked os 5 .any (Rows.fnBalanceColumnsSpec.pre6 enc Try.prog Try.f5 Rows.fnBalanceColumnsRow.domain false) (Rows.fnBalanceColumnsSpec.post enc Try.prog Try.f5 false true false false) := by
  refine returnsInHanded_of_change (C := Try.checked) own_knob started (by kernel_rfl) Try.func5
    (ChangeSpec.witness6 (enc := enc) (C := Try.checked) false ⟨#[], #[.slice none 0 0], []⟩ 8 (by kernel_rfl) (by kernel_rfl) (by kernel_rfl) (by kernel_rfl)) ?_
  intro W base args ds gs before hval0 hW hcnd _
  have hval : ∀ (j : Nat) t v, Try.f5.params[j]? = some t → args[j]? = some v → Value.okWide Try.prog W .any base t v := hval0
  have hW' := hW
  obtain ⟨p, q, hA0, hV, rfl, hfz, hnd⟩ := hW
  have hA : DataW.TrodAll enc Try.prog W 0 (fun _ => true) true Try.f5.params.toList args.toList ds p := hA0
  rw [Try.params5] at hA hval
  obtain ⟨v0, vs0, d0, ds0, p0, q0, hargs, rfl, rfl, zh0, r0⟩ := trodAll_cons hA
  obtain ⟨rfl, rfl, rfl⟩ := trodAll_nil r0
  obtain rfl : args = #[v0] := by cases args; simp_all
  obtain ⟨rfl, rfl⟩ := trodVars_none hV
  have zk0 := zh0
  have zl0 : ∀ x ∈ p0, x.block < W.heap.size := by obtain ⟨m, hm⟩ := zk0; exact DataW.trod_lt m _ _ _ hm
  clear hA0 hval0
  obtain ⟨a_code, n_code, c_code, rfl⟩ := okWide_slice Try.underlying27 (hval 0 27 v0 rfl rfl)
  obtain ⟨code, w_code⟩ := isRow_of Try.underlying27 Try.underlying5 (by kernel_rfl) zh0
  refine (walk_FnBalanceColumns a_code n_code c_code code W w_code).mono fun e W' ⟨he, bel⟩ => ?_
  subst he
  exact ⟨_, rfl, _, _, _, [], _, [], hW', trodAll_mk1 (shut_bool Try.underlying4 _), (trodAll_cons_mk (Below.trod laid_out (by kernel_rfl) (of_decide_eq_true (by kernel_rfl)) zk0 bel zl0) trodAll_mk0), rfl, bel.frame _, fun h => by cases h⟩

/-- The statement. -/
theorem FnBalanceColumns_holds : Rows.FnBalanceColumnsSaid :=
  OpenClaim.holds_of_wide 5 Try.f5 rfl rfl rfl rfl rfl rfl rfl ⟨rfl, rfl, rfl, rfl, rfl⟩ rfl rfl rfl rfl rfl (by kernel_rfl) Try.func5 (by unfold joinedFacts; rw [may_enter, lifts_final, make_cut]; kernel_rfl)
    (of_decide_eq_true (by kernel_rfl)) (by unfold Func.isWrapper; first | (rw [if_pos (by decide +kernel)]; kernel_rfl) | (rw [if_neg (by decide +kernel)]; exact ⟨rfl, rfl⟩))
    (fun os started H enc _ => lifted_FnBalanceColumns os started H enc)
end Go.Proofs.Ytkclecfjpabplaa
