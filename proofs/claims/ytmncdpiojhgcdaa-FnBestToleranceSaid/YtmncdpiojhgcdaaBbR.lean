/- The law that a larger tolerance does not cost more holds for every code. No condition. -/
import Derived.Test.YtmncdpiojhgcdaaSa
import Derived.Test.YtmncdpiojhgcdaaDrawBb
import Derived.Test.YtmncdpiojhgcdaaLlM
namespace Go.Proofs.Ytmncdpiojhgcdaa
open Go.ChangeShapes Go.WideShapes Go.ChangeAt Go.RowKit
set_option linter.unusedVariables false
set_option maxRecDepth 4000
open Classical

set_option maxHeartbeats 4000000 in
theorem walk_FnBestTolerance (a : Option Addr) (n c : Nat) (zs : List Int) (w : World) (hr : IsRow .u8 w a n c zs) :
    Calls Try.prog 15 #[.slice a n c] w fun e w' => e = .returned (.bool true) ∧ Below w.heap.size w w' := by
  have hm := small_row hr
  unfold maxLen at hm
  rcases (by omega : 1048576 < n ∨ n ≤ 1048576) with hn | hn
  · go_enter Try.func15, Try.ntmps15
    go_wp2
    go_ret
    exact ⟨rfl, bl_refl _⟩
  go_enter Try.func15, Try.ntmps15
  go_wp2_with fail
  (with_reducible refine (DrawBestBreaks_any _ _ _ _ _ hr).mono ?_)
  rintro e u0 ⟨A, c', L, d, t, rfl, hol, hll, hz, htt, hb⟩
  clear hr
  have PL := (bbV_len (L := L) (d := d) (t := t)).1
  have CI := fun (u : World) (h1 : TL u A L.length L) => BestBreaks_i u A L.length c' L d t h1 (by omega)
  have CS := fun (u : World) (h1 : TL u A L.length L) => BestBreaks_s u A L.length c' L d t h1 (by omega)
  have CT := fun (u : World) (h1 : TL u A L.length L) => BestBreaks_i u A L.length c' L d 10000 h1 (by omega)
  have TR := fun h => bb_tol (L := L) (d := d) (t := t) h
  unfold RetW at CI CS CT
  have HB := hide hb
  obtain ⟨V, hV⟩ : ∃ V, V = bbV L d t := ⟨_, rfl⟩
  obtain ⟨W, hW⟩ : ∃ V, V = bbV L d 10000 := ⟨_, rfl⟩
  rw [← hV] at CI CS PL TR
  rw [← hW] at CT TR
  obtain ⟨R, y, fo⟩ := V
  obtain ⟨R', y', f'⟩ := W
  simp only at CI CS PL TR CT
  have HO := hide hol
  have HCI := hide CI
  have HCS := hide CS
  have HCT := hide CT
  replace TR := hide TR
  clear hol hb hV hW CI CS CT
  go_wp2_with fail
  (with_reducible refine (HCI.out _ HO.out.reads).mono ?_)
  rintro e u1 ⟨A1, d1, rfl, ho1, hb1⟩
  have HO1 := hide (HO.out.below hb1)
  have HB1 := hide (bl_call hb1 HB.out)
  clear hb1 HO HB
  go_wp2_with fail
  (with_reducible refine (HCS.out _ HO1.out.reads).mono ?_)
  rintro e u2 ⟨A2, d2, rfl, ho2, hb2⟩
  have HR1 := hide (ho1.below hb2).reads
  have HR2 := hide ho2.reads
  have HO2 := hide (HO1.out.below hb2)
  have HB2 := hide (bl_call hb2 HB1.out)
  clear hb2 HO1 HB1 ho1 ho2 HCI HCS
  cases fo
  · clear TR HCT
    go_wp2_with fail
    (with_reducible refine (eqInts_l _ _ _ _ _ _ _ R R HR1.out HR2.out (by omega) (by omega)).mono ?_)
    rintro e u3 ⟨rfl, j3, rfl⟩
    simp only [decide_true]
    go_wp2_with fail
    (with_reducible refine (eqInts_l _ _ _ _ _ _ _ R R (HR1.out.drewN _) (HR2.out.drewN _) (by omega) (by omega)).mono ?_)
    rintro e u4 ⟨rfl, j4, rfl⟩
    simp only [decide_true]
    go_wp2
    go_ret
    exact ⟨rfl, bl_drewN HB2.out _⟩
  · obtain ⟨v1, v2⟩ := TR.out rfl
    subst v1
    have v3 : decide (y' ≤ y) = true := decide_eq_true v2
    clear TR
    go_wp2_with fail
    (with_reducible refine (eqInts_l _ _ _ _ _ _ _ R R HR1.out HR2.out (by omega) (by omega)).mono ?_)
    rintro e u3 ⟨rfl, j3, rfl⟩
    simp only [decide_true]
    go_wp2_with fail
    (with_reducible refine (HCT.out _ (HO2.out.drewN j3).reads).mono ?_)
    rintro e u4 ⟨A4, c4, rfl, ho4, hb4⟩
    have HB4 := hide (bl_call hb4 (bl_drewN HB2.out j3))
    clear hb4 ho4
    go_wp2
    go_ret
    exact ⟨rfl, HB4.out⟩
set_option maxRecDepth 100000 in
theorem lifted_FnBestTolerance (os : Os) (started : os.Started) (H : Type) (enc : TypeId × Value → H) :
    ReturnsInHanded {} Try.checked os 15 .any (Rows.fnBestToleranceSpec.pre6 enc Try.prog Try.f15 Rows.fnBestToleranceRow.domain false) (Rows.fnBestToleranceSpec.post enc Try.prog Try.f15 false true false false) := by
  refine returnsInHanded_of_change (C := Try.checked) own_knob started (by kernel_rfl) Try.func15
    (ChangeSpec.witness6 (enc := enc) (C := Try.checked) false ⟨#[], #[.slice none 0 0], []⟩ 8 (by kernel_rfl) (by kernel_rfl) (by kernel_rfl) (by kernel_rfl)) ?_
  intro W base args ds gs before hval0 hW hcnd _
  have hval : ∀ (j : Nat) t v, Try.f15.params[j]? = some t → args[j]? = some v → Value.okWide Try.prog W .any base t v := hval0
  have hW' := hW
  obtain ⟨p, q, hA0, hV, rfl, hfz, hnd⟩ := hW
  have hA : DataW.TrodAll enc Try.prog W 0 (fun _ => true) true Try.f15.params.toList args.toList ds p := hA0
  rw [Try.params15] at hA hval
  obtain ⟨v0, vs0, d0, ds0, p0, q0, hargs, rfl, rfl, zh0, r0⟩ := trodAll_cons hA
  obtain ⟨rfl, rfl, rfl⟩ := trodAll_nil r0
  obtain rfl : args = #[v0] := by cases args; simp_all
  obtain ⟨rfl, rfl⟩ := trodVars_none hV
  have zk0 := zh0
  have zl0 : ∀ x ∈ p0, x.block < W.heap.size := by obtain ⟨m, hm⟩ := zk0; exact DataW.trod_lt m _ _ _ hm
  clear hA0 hval0
  obtain ⟨a_code, n_code, c_code, rfl⟩ := okWide_slice Try.underlying29 (hval 0 29 v0 rfl rfl)
  obtain ⟨code, w_code⟩ := isRow_of Try.underlying29 Try.underlying5 (by kernel_rfl) zh0
  refine (walk_FnBestTolerance a_code n_code c_code code W w_code).mono fun e W' ⟨he, bel⟩ => ?_
  subst he
  exact ⟨_, rfl, _, _, _, [], _, [], hW', trodAll_mk1 (shut_bool Try.underlying4 _), (trodAll_cons_mk (Below.trod laid_out (by kernel_rfl) (of_decide_eq_true (by kernel_rfl)) zk0 bel zl0) trodAll_mk0), rfl, bel.frame _, fun h => by cases h⟩

/-- The statement. -/
theorem FnBestTolerance_holds : Rows.FnBestToleranceSaid :=
  OpenClaim.holds_of_wide 15 Try.f15 rfl rfl rfl rfl rfl rfl rfl ⟨rfl, rfl, rfl, rfl, rfl⟩ rfl rfl rfl rfl rfl (by kernel_rfl) Try.func15 (by unfold joinedFacts; rw [may_enter, lifts_final, make_cut]; kernel_rfl)
    (of_decide_eq_true (by kernel_rfl)) (by unfold Func.isWrapper; first | (rw [if_pos (by decide +kernel)]; kernel_rfl) | (rw [if_neg (by decide +kernel)]; exact ⟨rfl, rfl⟩))
    (fun os started H enc _ => lifted_FnBestTolerance os started H enc)
end Go.Proofs.Ytmncdpiojhgcdaa
