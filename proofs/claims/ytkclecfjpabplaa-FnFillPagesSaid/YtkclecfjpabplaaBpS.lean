/- The law that filled pages are the fewest holds at every input. No condition. -/
import Derived.Test.YtkclecfjpabplaaFrame
import Derived.Test.YtkclecfjpabplaaDrawBp
import Derived.Test.YtkclecfjpabplaaPgN
namespace Go.Proofs.Ytkclecfjpabplaa
open Go.ChangeShapes Go.WideShapes Go.ChangeAt Go.RowKit
set_option linter.unusedVariables false
set_option maxRecDepth 4000
open Classical

theorem TO_caps {w : World} {e : TypeId} {B : Nat} {A : Option Addr} {c : Nat} {L : List Gp} (h : TO w e B A c L) : L.length ≤ c := by
  rcases Nat.eq_zero_or_pos L.length with h0 | h0
  · omega
  · obtain ⟨_, _, _, _, h1, _⟩ := h.form h0
    exact h1
set_option maxHeartbeats 4000000 in
theorem walk_FnFillPages (a : Option Addr) (n c : Nat) (zs : List Int) (w : World) (hr : IsRow .u8 w a n c zs) :
    Calls Try.prog 14 #[.slice a n c] w fun e w' => e = .returned (.bool true) ∧ Below w.heap.size w w' := by
  have hm := small_row hr
  unfold maxLen at hm
  rcases (by omega : 1048576 < n ∨ n ≤ 1048576) with hn | hn
  · go_enter Try.func14, Try.ntmps14
    go_wp2
    go_ret
    exact ⟨rfl, bl_refl _⟩
  go_enter Try.func14, Try.ntmps14
  go_wp2_with fail
  (with_reducible refine (DrawFillPages_any _ _ _ _ _ hr).mono ?_)
  rintro e u0 ⟨A, c', L, z, rfl, hol, hll, hz, hb⟩
  clear hr
  have FI := fun (u : World) (h1 : TL u A L.length L) => FillPages_i u A L.length c' L z h1 (by omega) (TO_caps hol)
  have FS := fun (u : World) (h1 : TL u A L.length L) => FillPages_s u A L.length c' L z h1 (by omega)
  have BI := fun (u : World) (h1 : TL u A L.length L) => BestPages_i u A L.length c' L z h1 (by omega) (TO_caps hol)
  have PLB := bpV_len12 (L := L) (h := z)
  have PL : ((fpV L z).getD []).length ≤ 40 := by
    cases e : fpV L z with
    | none => simp
    | some l =>
      obtain ⟨q, f, g⟩ := fp_fits e
      have h1 := bp_check (bp_least q f).1
      have := g _ h1.2.1
      simp only [Option.getD_some]
      omega
  have CI := hide (fun (R : List Int) (hR : R.length ≤ 40) (u : World) (B : Option Addr) (d : Nat) (h1 : TL u A L.length L) (h2 : IL u B R.length R) => CheckPages_i u A B L.length c' R.length d L z R h1 (by omega) (TO_caps hol) h2 (by omega))
  have TR := hide (show (fpV L z).isSome = true → (cpV L z ((fpV L z).getD [])).2 = true ∧ (bpV L z).2.2 = true ∧ ((fpV L z).getD []).length ≤ (bpV L z).1.length from fun e => by
    obtain ⟨l, hl⟩ := Option.isSome_iff_exists.1 e
    obtain ⟨q, f, g⟩ := fp_fits hl
    have h1 := (bp_least q f).1
    rw [hl]
    refine ⟨by rw [Option.getD_some, cpV_of q f], h1, ?_⟩
    exact g _ (bp_check h1).2.1)
  unfold RetB at BI
  unfold RetQ at FI FS
  obtain ⟨V, hV⟩ : ∃ V, V = bpV L z := ⟨_, rfl⟩
  rw [← hV] at BI TR PLB
  obtain ⟨R, hR⟩ : ∃ R, R = (fpV L z).getD [] := ⟨_, rfl⟩
  obtain ⟨t, ht⟩ : ∃ t, t = (fpV L z).isSome := ⟨_, rfl⟩
  rw [← hR, ← ht] at FI FS TR
  rw [← hR] at PL
  obtain ⟨P, y, g⟩ := V
  simp only at BI TR PLB
  have HO := hide hol
  have HB := hide hb
  have HFI := hide FI
  have HFS := hide FS
  have HBI := hide BI
  clear hol hb hV ht hR FI FS BI
  go_wp2_with fail
  (with_reducible refine (HFI.out _ HO.out.reads).mono ?_)
  rintro e u1 ⟨A1, d1, rfl, ho1, hb1⟩
  have HO1 := hide (HO.out.below hb1)
  have HB1 := hide (bl_call hb1 HB.out)
  clear hb1 HO HB
  go_wp2_with fail
  (with_reducible refine (HFS.out _ HO1.out.reads).mono ?_)
  rintro e u2 ⟨A2, d2, rfl, ho2, hb2⟩
  have HR1 := hide (ho1.below hb2).reads
  have HR2 := hide ho2.reads
  have HO2 := hide (HO1.out.below hb2)
  have HB2 := hide (bl_call hb2 HB1.out)
  clear hb2 HO1 HB1 ho1 ho2 HFI HFS
  cases t
  · go_wp2_with fail
    (with_reducible refine (eqInts_l _ _ _ _ _ _ _ R R HR1.out HR2.out (by omega) (by omega)).mono ?_)
    rintro e u3 ⟨rfl, j3, rfl⟩
    simp only [decide_true]
    go_wp2_with fail
    (with_reducible refine (eqInts_l _ _ _ _ _ _ _ R R (HR1.out.drewN _) (HR2.out.drewN _) (by omega) (by omega)).mono ?_)
    rintro e u4 ⟨rfl, j4, rfl⟩
    simp only [decide_true]
    go_wp2
    go_ret
    exact ⟨rfl, bl_drewN HB2.out _⟩
  · obtain ⟨v1, v2, v3⟩ := TR.out rfl
    obtain rfl : g = true := v2
    have CR := CI.out R PL
    obtain ⟨s, hs⟩ : ∃ s, s = cpV L z R := ⟨_, rfl⟩
    rw [← hs] at CR v1
    obtain ⟨s1, s2⟩ := s
    obtain rfl : s2 = true := v1
    have HCR := hide CR
    clear TR CI CR hs
    go_wp2_with fail
    (with_reducible refine (eqInts_l _ _ _ _ _ _ _ R R HR1.out HR2.out (by omega) (by omega)).mono ?_)
    rintro e u3 ⟨rfl, j3, rfl⟩
    simp only [decide_true]
    go_wp2_with fail
    (with_reducible refine (HCR.out _ _ _ (HO2.out.drewN j3).reads (HR1.out.drewN j3)).mono ?_)
    rintro e u4 ⟨rfl, hb4⟩
    have HO4 := hide (TO.below (HO2.out.drewN j3) hb4)
    have HB4 := hide (bl_call hb4 (bl_drewN HB2.out j3))
    clear hb4 HR1 HR2 HO2 HB2
    go_wp2_with fail
    (with_reducible refine (HBI.out _ HO4.out.reads).mono ?_)
    rintro e u5 ⟨A5, d5, rfl, ho5, hb5⟩
    have HB5 := hide (bl_call hb5 HB4.out)
    have d1 : decide ((R.length : Int) ≤ (P.length : Int)) = true := decide_eq_true (by omega)
    have d2 : decide (R.length ≤ P.length) = true := decide_eq_true v3
    clear hb5 ho5
    go_wp2
    go_ret
    exact ⟨rfl, HB5.out⟩
set_option maxRecDepth 100000 in
theorem lifted_FnFillPages (os : Os) (started : os.Started) (H : Type) (enc : TypeId × Value → H) :
    ReturnsInHanded {} Try.checked os 14 .any (Rows.fnFillPagesSpec.pre6 enc Try.prog Try.f14 Rows.fnFillPagesRow.domain false) (Rows.fnFillPagesSpec.post enc Try.prog Try.f14 false true false false) := by
  refine returnsInHanded_of_change (C := Try.checked) own_knob started (by kernel_rfl) Try.func14
    (ChangeSpec.witness6 (enc := enc) (C := Try.checked) false ⟨#[], #[.slice none 0 0], []⟩ 8 (by kernel_rfl) (by kernel_rfl) (by kernel_rfl) (by kernel_rfl)) ?_
  intro W base args ds gs before hval0 hW hcnd _
  have hval : ∀ (j : Nat) t v, Try.f14.params[j]? = some t → args[j]? = some v → Value.okWide Try.prog W .any base t v := hval0
  have hW' := hW
  obtain ⟨p, q, hA0, hV, rfl, hfz, hnd⟩ := hW
  have hA : DataW.TrodAll enc Try.prog W 0 (fun _ => true) true Try.f14.params.toList args.toList ds p := hA0
  rw [Try.params14] at hA hval
  obtain ⟨v0, vs0, d0, ds0, p0, q0, hargs, rfl, rfl, zh0, r0⟩ := trodAll_cons hA
  obtain ⟨rfl, rfl, rfl⟩ := trodAll_nil r0
  obtain rfl : args = #[v0] := by cases args; simp_all
  obtain ⟨rfl, rfl⟩ := trodVars_none hV
  have zk0 := zh0
  have zl0 : ∀ x ∈ p0, x.block < W.heap.size := by obtain ⟨m, hm⟩ := zk0; exact DataW.trod_lt m _ _ _ hm
  clear hA0 hval0
  obtain ⟨a_code, n_code, c_code, rfl⟩ := okWide_slice Try.underlying27 (hval 0 27 v0 rfl rfl)
  obtain ⟨code, w_code⟩ := isRow_of Try.underlying27 Try.underlying5 (by kernel_rfl) zh0
  refine (walk_FnFillPages a_code n_code c_code code W w_code).mono fun e W' ⟨he, bel⟩ => ?_
  subst he
  exact ⟨_, rfl, _, _, _, [], _, [], hW', trodAll_mk1 (shut_bool Try.underlying4 _), (trodAll_cons_mk (Below.trod laid_out (by kernel_rfl) (of_decide_eq_true (by kernel_rfl)) zk0 bel zl0) trodAll_mk0), rfl, bel.frame _, fun h => by cases h⟩

/-- The statement. -/
theorem FnFillPages_holds : Rows.FnFillPagesSaid :=
  OpenClaim.holds_of_wide 14 Try.f14 rfl rfl rfl rfl rfl rfl rfl ⟨rfl, rfl, rfl, rfl, rfl⟩ rfl rfl rfl rfl rfl (by kernel_rfl) Try.func14 (by kernel_rfl)
    (of_decide_eq_true (by kernel_rfl)) (by unfold Func.isWrapper; first | (rw [if_pos (by decide +kernel)]; kernel_rfl) | (rw [if_neg (by decide +kernel)]; exact ⟨rfl, rfl⟩))
    (fun os started H enc _ => lifted_FnFillPages os started H enc)
end Go.Proofs.Ytkclecfjpabplaa
