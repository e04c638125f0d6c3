/- The law that first-fit breaks are valid holds for every code. No condition. -/
import Derived.Test.YtafddofajfcffaaQa
import Derived.Test.YtafddofajfcffaaFf
import Derived.Test.YtafddofajfcffaaFfS
import Derived.Test.YtafddofajfcffaaQg
import Derived.Test.YtafddofajfcffaaQi
namespace Go.Proofs.Ytafddofajfcffaa
open Go.ChangeShapes Go.WideShapes Go.ChangeAt Go.RowKit
set_option linter.unusedVariables false
set_option maxRecDepth 4000

set_option maxHeartbeats 4000000 in
theorem walk_FnFirstFit (a : Option Addr) (n c : Nat) (zs : List Int) (w : World) (hr : IsRow .u8 w a n c zs) :
    Calls Try.prog 18 #[.slice a n c] w fun e w' => e = .returned (.bool true) ∧ Below w.heap.size w w' := by
  have hm := small_row hr
  unfold maxLen at hm
  rcases (by omega : 1048576 < n ∨ n ≤ 1048576) with hn | hn
  · go_enter Try.func18, Try.ntmps18
    go_wp2
    go_ret
    exact ⟨rfl, bl_refl _⟩
  go_enter Try.func18, Try.ntmps18
  go_wp2_with fail
  (with_reducible refine (DrawFirstFit_any _ _ _ _ _ hr).mono ?_)
  rintro e u0 ⟨A, c', L, z, rfl, hol, hll, hz, hb⟩
  clear hr
  have PL := ffO_len (L := L) (d := z)
  have hwf := ffO_wf (L := L) (d := z)
  have CI := fun (u : World) (h1 : TL u A L.length L) => FirstFit_i u A L.length c' L z h1 (by omega)
  have CS := fun (u : World) (h1 : TL u A L.length L) => FirstFit_s u A L.length c' L z h1 (by omega)
  have HY := hide (fun h => ffO_valid (L := L) (d := z) h)
  have HN := hide (fun h => ffO_no (L := L) (d := z) h)
  unfold RetL at CI CS
  have HB := hide hb
  obtain ⟨R, hR⟩ : ∃ R, R = ffO L z := ⟨_, rfl⟩
  rw [← hR] at CI CS PL HY HN hwf
  have VB := fun (u : World) (B : Option Addr) (d' : Nat) (h1 : TL u A L.length L) (h2 : IL u B R.length R) => ValidBreaks_i u A B L.length c' R.length d' L R h1 (by omega) h2 (by omega) hwf
  have HO := hide hol
  have HCI := hide CI
  have HCS := hide CS
  clear hol hb hR CI CS hwf
  go_wp2_with fail
  (with_reducible refine (HCI.out _ HO.out.reads).mono ?_)
  rintro e u1 ⟨A1, d1, rfl, ho1, hb1⟩
  have HO1 := hide (TO.below HO.out hb1)
  have HB1 := hide (bl_call hb1 HB.out)
  clear hb1 HO HB
  go_wp2_with fail
  (with_reducible refine (HCS.out _ HO1.out.reads).mono ?_)
  rintro e u2 ⟨A2, d2, rfl, ho2, hb2⟩
  have HR1 := hide (ho1.below hb2).reads
  have HR2 := hide ho2.reads
  have HO2 := hide (TO.below HO1.out hb2)
  have HB2 := hide (bl_call hb2 HB1.out)
  clear hb2 HO1 HB1 ho1 ho2 HCI
  cases q : (isOk L && inB z 1 10000)
  · have R0 := HN.out q
    have hR0 : ((R.length : Int) == 0) = true := by rw [R0]; rfl
    have hRl : R.length = 0 := by rw [R0]; rfl
    have HRL := hide hRl
    clear HY HN VB q hRl R0
    go_wp2_with fail
    (with_reducible refine (eqInts_l _ _ _ _ _ _ _ R R HR1.out HR2.out (by omega) (by omega)).mono ?_)
    rintro e u3 ⟨rfl, j3, rfl⟩
    simp only [decide_true]
    go_wp2_with fail
    (with_reducible refine (HCS.out _ (TO.drewN HO2.out j3).reads).mono ?_)
    rintro e u4 ⟨A4, d4, rfl, ho4, hb4⟩
    have HB4 := hide (bl_call hb4 (bl_drewN HB2.out j3))
    have HR4 := hide ((HR1.out.drewN j3).below hb4)
    clear hb4
    go_wp2_with fail
    (with_reducible refine (eqInts_l _ _ _ _ _ _ _ R R HR4.out ho4.reads (by omega) (by omega)).mono ?_)
    rintro e u5 ⟨rfl, j5, rfl⟩
    simp only [decide_true]
    go_wp2
    go_ret
    exact ⟨rfl, bl_drewN HB4.out _⟩
  · obtain ⟨v1, v2, v3⟩ := HY.out q
    rw [v1] at VB
    have HVB := hide VB
    have V3 := hide v3
    have hR0 : ((R.length : Int) == 0) = false := beq_eq_false_iff_ne.2 (by omega)
    have hRn : R ≠ [] := fun e => by rw [e] at v2; simp at v2
    have HRN := hide hRn
    clear HY HN VB q v1 v3 hRn
    go_wp2_with fail
    (with_reducible refine (eqInts_l _ _ _ _ _ _ _ R R HR1.out HR2.out (by omega) (by omega)).mono ?_)
    rintro e u3 ⟨rfl, j3, rfl⟩
    simp only [decide_true]
    go_wp2_with fail
    (with_reducible refine (HVB.out _ _ _ (TO.drewN HO2.out j3).reads (HR1.out.drewN j3)).mono ?_)
    rintro e u4 ⟨rfl, hb4⟩
    have HR4 := hide ((HR1.out.drewN j3).below hb4)
    have HB4 := hide (bl_call hb4 (bl_drewN HB2.out j3))
    clear hb4 HR1 HR2 HO2 HB2 HVB
    have LA := last_l u4 A1 R.length d1 R HR4.out (by omega)
    rw [if_neg HRN.out, V3.out] at LA
    have HLA := hide LA
    clear LA
    go_wp2_with fail
    (with_reducible refine HLA.out.mono ?_)
    rintro e w' ⟨rfl, rfl⟩
    go_wp2
    go_ret
    exact ⟨rfl, HB4.out⟩
set_option maxRecDepth 100000 in
theorem lifted_FnFirstFit (os : Os) (started : os.Started) (H : Type) (enc : TypeId × Value → H) :
    ReturnsInHanded {} Try.checked os 18 .any (Rows.fnFirstFitSpec.pre6 enc Try.prog Try.f18 Rows.fnFirstFitRow.domain false) (Rows.fnFirstFitSpec.post enc Try.prog Try.f18 false true false false) := by
  refine returnsInHanded_of_change (C := Try.checked) own_knob started (by kernel_rfl) Try.func18
    (ChangeSpec.witness6 (enc := enc) (C := Try.checked) false ⟨#[], #[.slice none 0 0], []⟩ 8 (by kernel_rfl) (by kernel_rfl) (by kernel_rfl) (by kernel_rfl)) ?_
  intro W base args ds gs before hval0 hW hcnd _
  have hval : ∀ (j : Nat) t v, Try.f18.params[j]? = some t → args[j]? = some v → Value.okWide Try.prog W .any base t v := hval0
  have hW' := hW
  obtain ⟨p, q, hA0, hV, rfl, hfz, hnd⟩ := hW
  have hA : DataW.TrodAll enc Try.prog W 0 (fun _ => true) true Try.f18.params.toList args.toList ds p := hA0
  rw [Try.params18] at hA hval
  obtain ⟨v0, vs0, d0, ds0, p0, q0, hargs, rfl, rfl, zh0, r0⟩ := trodAll_cons hA
  obtain ⟨rfl, rfl, rfl⟩ := trodAll_nil r0
  obtain rfl : args = #[v0] := by cases args; simp_all
  obtain ⟨rfl, rfl⟩ := trodVars_none hV
  have zk0 := zh0
  have zl0 : ∀ x ∈ p0, x.block < W.heap.size := by obtain ⟨m, hm⟩ := zk0; exact DataW.trod_lt m _ _ _ hm
  clear hA0 hval0
  obtain ⟨a_code, n_code, c_code, rfl⟩ := okWide_slice Try.underlying54 (hval 0 54 v0 rfl rfl)
  obtain ⟨code, w_code⟩ := isRow_of Try.underlying54 Try.underlying5 (by kernel_rfl) zh0
  refine (walk_FnFirstFit a_code n_code c_code code W w_code).mono fun e W' ⟨he, bel⟩ => ?_
  subst he
  exact ⟨_, rfl, _, _, _, [], _, [], hW', trodAll_mk1 (shut_bool Try.underlying4 _), (trodAll_cons_mk (Below.trod laid_out (by kernel_rfl) (of_decide_eq_true (by kernel_rfl)) zk0 bel zl0) trodAll_mk0), rfl, bel.frame _, fun h => by cases h⟩

/-- The statement. -/
theorem FnFirstFit_holds : Rows.FnFirstFitSaid :=
  OpenClaim.holds_of_wide 18 Try.f18 rfl rfl rfl rfl rfl rfl rfl ⟨rfl, rfl, rfl, rfl, rfl⟩ rfl rfl rfl rfl rfl (by kernel_rfl) Try.func18 (by unfold joinedFacts; rw [may_enter, lifts_final, make_cut]; kernel_rfl)
    (of_decide_eq_true (by kernel_rfl)) (by unfold Func.isWrapper; first | (rw [if_pos (by decide +kernel)]; kernel_rfl) | (rw [if_neg (by decide +kernel)]; exact ⟨rfl, rfl⟩))
    (fun os started H enc _ => lifted_FnFirstFit os started H enc)
end Go.Proofs.Ytafddofajfcffaa
