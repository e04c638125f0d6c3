/- The promises on PlaceFigures hold for every code: what is placed is accepted and never too early, and with more room nothing is later. No condition. -/
import Derived.Test.YtofcbhphjghkaacFigY
import Derived.Test.YtofcbhphjghkaacDrawF
namespace Go.Proofs.Ytofcbhphjghkaac
open Go.ChangeShapes Go.WideShapes Go.ChangeAt Go.RowKit
set_option linter.unusedVariables false

theorem Fok_of {F : List Du} (h : fgok F = true) : Fok F := fun i hi => by
  have := (fgok_iff.1 h).2 i hi
  exact ⟨this.1, this.2.1.1⟩
theorem plV_some {F : List Du} {sp r : List Int} (h : plV F sp = some r) : fgok F = true ∧ okLen sp 0 12 0 10000 = true ∧ pl F 0 sp = some r ∧ r.length = F.length ∧ CTo F sp r F.length := by
  cases q : (fgok F && okLen sp 0 12 0 10000)
  · rw [plV_no q] at h; cases h
  · rw [plV_yes q] at h
    have q' := Bool.and_eq_true_iff.1 q
    have hc := pl_chk (Fok_of q'.1) (sp := sp) F.length 0 (by omega) [] r 0 rfl (CTo.zero _ _ _) (fun i hi => by omega) (Int.le_refl _) (by
      rw [show us F [] ((0 : Nat) : Int) 0 = 0 from rfl, red_zero, List.drop_zero, List.drop_zero]
      exact h)
    rw [List.nil_append] at hc
    exact ⟨q'.1, q'.2, h, pl_len h, hc⟩
theorem plV_ok {F : List Du} {sp r : List Int} (h : plV F sp = some r) : ckV F sp r = true ∧ 0 ≤ tdV F sp r := by
  obtain ⟨h1, h2, _, h4, h5⟩ := plV_some h
  have h3 := ckV_yes.2 ⟨h1, h2, h4, h5⟩
  refine ⟨h3, ?_⟩
  rw [tdV_yes h3]
  exact (dl_bd h5 (fun i hi => ((fgok_iff.1 h1).2 i hi).2.1.1)).1
/-- Accepted pages with less room: what is placed is never later. -/
theorem plV_first {F : List Du} {sp sp' l' : List Int} (h1 : fgok F = true) (h2 : okLen sp 0 12 0 10000 = true) (hlen : sp'.length = sp.length) (hle : ∀ j, j < sp.length → ng sp' j ≤ ng sp j) (hc : CTo F sp' l' F.length) : ∃ r, plV F sp = some r ∧ r.length = F.length ∧ ∀ i, i < F.length → ng r i ≤ ng l' i := by
  obtain ⟨m, e1, e2, e3⟩ := pl_first (Fok_of h1) hlen hle hc F.length 0 (by omega) 0 0 (Int.le_refl _) (.inr ⟨rfl, Int.le_refl _⟩)
  rw [red_zero, List.drop_zero, List.drop_zero] at e1
  refine ⟨m, by rw [plV_yes (by rw [h1, h2]; rfl)]; exact e1, e2, fun i hi => ?_⟩
  have := e3 i hi
  rwa [Nat.zero_add] at this

set_option maxHeartbeats 4000000 in
theorem walk_FnPlaceFigures (a : Option Addr) (n c : Nat) (zs : List Int) (w : World) (hr : IsRow .u8 w a n c zs) :
    Calls Try.prog 6 #[.slice a n c] w fun e w' => e = .returned (.bool true) ∧ Below w.heap.size w w' := by
  have hm := small_row hr
  unfold maxLen at hm
  rcases (by omega : 1048576 < n ∨ n ≤ 1048576) with hn | hn
  · go_enter Try.func6, Try.ntmps6
    go_wp2
    go_ret
    exact ⟨rfl, bl_refl _⟩
  go_enter Try.func6, Try.ntmps6
  (go_wp2_with fail; (with_reducible refine (DrawPlaceFigures_any _ _ _ _ _ hr).mono ?_); rintro e u0 ⟨A, c', L, B, d, l, rfl, hto, hol, hll, hls, hel, hb⟩)
  clear hr hel
  have CI := fun (u : World) (h1 : TL u A L.length L) (h2 : IL u B l.length l) => PlaceFigures_i u A B c' d L l h1 (TO_capf hto) h2 (by omega) (by omega)
  have CS := fun (u : World) (h1 : TL u A L.length L) (h2 : IL u B l.length l) => PlaceFigures_s u A B c' d L l h1 h2 (OL_none hol) (by omega) (by omega)
  have HT := hide hto
  have HO := hide hol
  have HB := hide hb
  clear hto hol hb
  cases q : plV L l with
  | none =>
    rw [q] at CI CS
    unfold RetO at CI CS
    simp only [Option.getD_none, Option.isSome_none] at CI CS
    have HCI := hide CI
    have HCS := hide CS
    clear CI CS q
    go_wp2_with fail
    (with_reducible refine (HCI.out _ HT.out.reads HO.out.reads).mono ?_)
    rintro e u1 ⟨A1, d1, rfl, ho1, hb1⟩
    have HT1 := hide (HT.out.below hb1)
    have HO1 := hide (HO.out.below hb1)
    have HB1 := hide (bl_call hb1 HB.out)
    clear hb1
    go_wp2_with fail
    (with_reducible refine (HCS.out _ HT1.out.reads HO1.out.reads).mono ?_)
    rintro e u2 ⟨A2, d2, rfl, ho2, hb2⟩
    have ho1 := ho1.below hb2
    have HB2 := hide (bl_call hb2 HB1.out)
    clear hb2
    go_wp2_with fail
    have r1 : IL u2 A1 0 [] := ho1.reads
    have r2 : IL u2 A2 0 [] := ho2.reads
    (with_reducible refine (eqInts_l _ _ _ 0 0 _ _ [] [] r1 r2 (by omega) (by omega)).mono ?_)
    rintro e u3 ⟨rfl, j3, rfl⟩
    simp only [decide_true]
    have r1 := r1.drewN j3
    have r2 := r2.drewN j3
    go_wp2_with fail
    (with_reducible refine (eqInts_l _ _ _ 0 0 _ _ [] [] r1 r2 (by omega) (by omega)).mono ?_)
    rintro e u4 ⟨rfl, j4, rfl⟩
    simp only [decide_true]
    go_wp2
    go_ret
    exact ⟨rfl, bl_drewN HB2.out _⟩
  | some r =>
    obtain ⟨v1, v2⟩ := plV_ok q
    have hrl := (plV_some q).2.2.2.1
    have hr5 : r.length ≤ 5 := by omega
    rw [q] at CI CS
    unfold RetO at CI CS
    simp only [Option.getD_some, Option.isSome_some] at CI CS
    have HCI := hide CI
    have HCS := hide CS
    have CK := hide (fun (u : World) (C : Option Addr) (k : Nat) (h1 : TL u A L.length L) (h2 : IL u B l.length l) (h3 : IL u C r.length r) => (by
      have := CheckFigures_i u A B C c' d k L l r h1 h2 h3 (by omega) (by omega) (by omega)
      rwa [v1] at this : Calls Try.prog 19 #[.slice A L.length c', .slice B l.length d, .slice C r.length k] u fun e w' => e = .returned (.bool true) ∧ Below u.heap.size u w'))
    obtain ⟨y, hy⟩ : ∃ y, y = tdV L l r := ⟨_, rfl⟩
    rw [← hy] at v2
    have TD := hide (fun (u : World) (C : Option Addr) (k : Nat) (h1 : TL u A L.length L) (h2 : IL u B l.length l) (h3 : IL u C r.length r) => (by
      have := TotalDelay_i u A B C c' d k L l r h1 h2 h3 (by omega) (by omega) (by omega)
      rwa [← hy] at this : Calls Try.prog 23 #[.slice A L.length c', .slice B l.length d, .slice C r.length k] u fun e w' => e = .returned (.int .i64 y) ∧ Below u.heap.size u w'))
    clear CI CS q v1 hy hrl
    go_wp2_with fail
    (with_reducible refine (HCI.out _ HT.out.reads HO.out.reads).mono ?_)
    rintro e u1 ⟨A1, d1, rfl, ho1, hb1⟩
    have HT1 := hide (HT.out.below hb1)
    have HO1 := hide (HO.out.below hb1)
    have HB1 := hide (bl_call hb1 HB.out)
    clear hb1
    go_wp2_with fail
    (with_reducible refine (HCS.out _ HT1.out.reads HO1.out.reads).mono ?_)
    rintro e u2 ⟨A2, d2, rfl, ho2, hb2⟩
    have ho1 := ho1.below hb2
    have HT2 := hide (HT1.out.below hb2)
    have HO2 := hide (HO1.out.below hb2)
    have HB2 := hide (bl_call hb2 HB1.out)
    clear hb2
    go_wp2_with fail
    (with_reducible refine (eqInts_l _ _ _ _ _ _ _ r r ho1.reads ho2.reads (by omega) (by omega)).mono ?_)
    rintro e u3 ⟨rfl, j3, rfl⟩
    simp only [decide_true]
    have ho1 := ho1.drewN j3
    have HT3 := hide (HT2.out.drewN j3)
    have HO3 := hide (HO2.out.drewN j3)
    have HB3 := hide (bl_drewN HB2.out j3)
    clear ho2
    go_wp2_with fail
    (with_reducible refine (CK.out _ _ _ HT3.out.reads HO3.out.reads ho1.reads).mono ?_)
    rintro e u4 ⟨rfl, hb4⟩
    have ho1 := ho1.below hb4
    have HT4 := hide (HT3.out.below hb4)
    have HO4 := hide (HO3.out.below hb4)
    have HB4 := hide (bl_call hb4 HB3.out)
    clear hb4
    go_wp2_with fail
    (with_reducible refine (TD.out _ _ _ HT4.out.reads HO4.out.reads ho1.reads).mono ?_)
    rintro e u5 ⟨rfl, hb5⟩
    have HB5 := hide (bl_call hb5 HB4.out)
    clear hb5
    go_wp2
    go_ret
    exact ⟨rfl, HB5.out⟩
set_option maxRecDepth 100000 in
theorem lifted_FnPlaceFigures (os : Os) (started : os.Started) (H : Type) (enc : TypeId × Value → H) :
    ReturnsInHanded {} Try.checked os 6 .any (Rows.fnPlaceFiguresSpec.pre6 enc Try.prog Try.f6 Rows.fnPlaceFiguresRow.domain false) (Rows.fnPlaceFiguresSpec.post enc Try.prog Try.f6 false true false false) := by
  refine returnsInHanded_of_change (C := Try.checked) own_knob started (by kernel_rfl) Try.func6
    (ChangeSpec.witness6 (enc := enc) (C := Try.checked) false ⟨#[], #[.slice none 0 0], []⟩ 8 (by kernel_rfl) (by kernel_rfl) (by kernel_rfl) (by kernel_rfl)) ?_
  intro W base args ds gs before hval0 hW hcnd _
  have hval : ∀ (j : Nat) t v, Try.f6.params[j]? = some t → args[j]? = some v → Value.okWide Try.prog W .any base t v := hval0
  have hW' := hW
  obtain ⟨p, q, hA0, hV, rfl, hfz, hnd⟩ := hW
  have hA : DataW.TrodAll enc Try.prog W 0 (fun _ => true) true Try.f6.params.toList args.toList ds p := hA0
  rw [Try.params6] at hA hval
  obtain ⟨v0, vs0, d0, ds0, p0, q0, hargs, rfl, rfl, zh0, r0⟩ := trodAll_cons hA
  obtain ⟨rfl, rfl, rfl⟩ := trodAll_nil r0
  obtain rfl : args = #[v0] := by cases args; simp_all
  obtain ⟨rfl, rfl⟩ := trodVars_none hV
  have zk0 := zh0
  have zl0 : ∀ x ∈ p0, x.block < W.heap.size := by obtain ⟨m, hm⟩ := zk0; exact DataW.trod_lt m _ _ _ hm
  clear hA0 hval0
  obtain ⟨a_code, n_code, c_code, rfl⟩ := okWide_slice Try.underlying38 (hval 0 38 v0 rfl rfl)
  obtain ⟨code, w_code⟩ := isRow_of Try.underlying38 Try.underlying5 (by kernel_rfl) zh0
  refine (walk_FnPlaceFigures a_code n_code c_code code W w_code).mono fun e W' ⟨he, bel⟩ => ?_
  subst he
  exact ⟨_, rfl, _, _, _, [], _, [], hW', trodAll_mk1 (shut_bool Try.underlying4 _), (trodAll_cons_mk (Below.trod laid_out (by kernel_rfl) (of_decide_eq_true (by kernel_rfl)) zk0 bel zl0) trodAll_mk0), rfl, bel.frame _, fun h => by cases h⟩

/-- The statement. -/
theorem FnPlaceFigures_holds : Rows.FnPlaceFiguresSaid :=
  OpenClaim.holds_of_wide 6 Try.f6 rfl rfl rfl rfl rfl rfl rfl ⟨rfl, rfl, rfl, rfl, rfl⟩ rfl rfl rfl rfl rfl (by kernel_rfl) Try.func6 (by kernel_rfl)
    (of_decide_eq_true (by kernel_rfl)) (by unfold Func.isWrapper; first | (rw [if_pos (by decide +kernel)]; kernel_rfl) | (rw [if_neg (by decide +kernel)]; exact ⟨rfl, rfl⟩))
    (fun os started H enc _ => lifted_FnPlaceFigures os started H enc)
end Go.Proofs.Ytofcbhphjghkaac
