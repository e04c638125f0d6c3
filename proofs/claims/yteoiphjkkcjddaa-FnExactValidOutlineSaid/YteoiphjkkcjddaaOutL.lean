/- The exact law on ValidOutline holds at every input: it answers as its model does, and writes into no argument. No condition. -/
import Derived.Test.YteoiphjkkcjddaaOut
namespace Go.Proofs.Yteoiphjkkcjddaa
open Go.ChangeShapes Go.WideShapes Go.ChangeAt Go.RowKit
set_option linter.unusedVariables false

theorem row_len {w : World} {a : Option Addr} {n c : Nat} {zs : List Int} (hr : IsRow .i64 w a n c zs) : n ≤ maxLen := by
  rcases hr with ⟨_, rfl, _, _⟩ | ⟨_, _, hl, hm, _⟩
  · exact Nat.zero_le _
  · omega
theorem walk_FnExactValidOutline (a : Option Addr) (n c : Nat) (zs : List Int) (w : World) (hr : IsRow .i64 w a n c zs) :
    Calls Try.prog 7 #[.slice a n c] w fun e w' => e = .returned (.bool true) ∧ Below w.heap.size w w' := by
  have hx := IL.of_row hr
  obtain ⟨l, hl⟩ : ∃ l, l = zs.take n := ⟨_, rfl⟩
  rw [← hl] at hx
  have hn : n ≤ maxLen := row_len hr
  unfold maxLen at hn
  clear hr hl
  rcases (by omega : 1048576 < n ∨ n ≤ 1048576) with hb | hb
  · go_enter Try.func7, Try.ntmps7
    go_wp2
    go_ret
    exact ⟨rfl, bl_refl _⟩
  · have hn' := hx.1
    have HN := hide hn'
    clear hn'
    go_enter Try.func7, Try.ntmps7
    go_wp2_with fail
    (with_reducible refine (toIntS_l _ _ _ _ _ hx hb).mono ?_)
    rintro e u1 ⟨A1, c1, rfl, ho1, hb1⟩
    go_wp2_with fail
    (with_reducible refine (ValidOutline_s _ _ _ _ _ ho1.reads (by rw [← HN.out]; omega)).mono ?_)
    rintro e w' ⟨rfl, rfl⟩
    have hx1 := hx.below hb1
    go_wp2_with fail
    (with_reducible refine (toIntS_l _ _ _ _ _ hx1 hb).mono ?_)
    rintro e u2 ⟨A2, c2, rfl, ho2, hb2⟩
    have hx2 := hx1.below hb2
    have hbb : Below w.heap.size w u2 := bl_call hb2 hb1
    go_wp2_with fail
    (with_reducible refine (ValidOutline_i _ _ _ _ _ ho2.reads (by rw [← HN.out]; omega)).mono ?_)
    rintro e w' ⟨rfl, rfl⟩
    cases okO l
    all_goals
      go_wp2_with fail
      (with_reducible refine (toIntS_l _ _ _ _ _ hx2 hb).mono ?_)
      rintro e u4 ⟨A4, c4, rfl, ho4, hb4⟩
      go_wp2_with fail
      (with_reducible refine (eqIntS_l _ _ _ _ _ _ _ _ _ (ho2.below hb4).reads ho4.reads (by rw [← HN.out]; omega) (by rw [← HN.out]; omega)).mono ?_)
      rintro e u5 ⟨rfl, j, rfl⟩
      simp only [decide_true]
      go_wp2
      go_ret
      exact ⟨rfl, bl_drewN (bl_call hb4 hbb) _⟩
set_option maxRecDepth 100000 in
theorem lifted_FnExactValidOutline (os : Os) (started : os.Started) (H : Type) (enc : TypeId × Value → H) :
    ReturnsInHanded {} Try.checked os 7 .any (Rows.fnExactValidOutlineSpec.pre6 enc Try.prog Try.f7 Rows.fnExactValidOutlineRow.domain false) (Rows.fnExactValidOutlineSpec.post enc Try.prog Try.f7 false true false false) := by
  refine returnsInHanded_of_change (C := Try.checked) own_knob started (by kernel_rfl) Try.func7
    (ChangeSpec.witness6 (enc := enc) (C := Try.checked) false ⟨#[], #[.slice none 0 0], []⟩ 8 (by kernel_rfl) (by kernel_rfl) (by kernel_rfl) (by kernel_rfl)) ?_
  intro W base args ds gs before hval0 hW hcnd _
  have hval : ∀ (j : Nat) t v, Try.f7.params[j]? = some t → args[j]? = some v → Value.okWide Try.prog W .any base t v := hval0
  have hW' := hW
  obtain ⟨p, q, hA0, hV, rfl, hfz, hnd⟩ := hW
  have hA : DataW.TrodAll enc Try.prog W 0 (fun _ => true) true Try.f7.params.toList args.toList ds p := hA0
  rw [Try.params7] at hA hval
  obtain ⟨v0, vs0, d0, ds0, p0, q0, hargs, rfl, rfl, zh0, r0⟩ := trodAll_cons hA
  obtain ⟨rfl, rfl, rfl⟩ := trodAll_nil r0
  obtain rfl : args = #[v0] := by cases args; simp_all
  obtain ⟨rfl, rfl⟩ := trodVars_none hV
  have zk0 := zh0
  have zl0 : ∀ x ∈ p0, x.block < W.heap.size := by obtain ⟨m, hm⟩ := zk0; exact DataW.trod_lt m _ _ _ hm
  clear hA0 hval0
  obtain ⟨a_s, n_s, c_s, rfl⟩ := okWide_slice Try.underlying22 (hval 0 22 v0 rfl rfl)
  obtain ⟨s, w_s⟩ := isRow_of Try.underlying22 Try.underlying3 (by kernel_rfl) zh0
  refine (walk_FnExactValidOutline a_s n_s c_s s W w_s).mono fun e W' ⟨he, bel⟩ => ?_
  subst he
  exact ⟨_, rfl, _, _, _, [], _, [], hW', trodAll_mk1 (shut_bool Try.underlying4 _), (trodAll_cons_mk (Below.trod laid_out (by kernel_rfl) (of_decide_eq_true (by kernel_rfl)) zk0 bel zl0) trodAll_mk0), rfl, bel.frame _, fun h => by cases h⟩

/-- The statement. -/
theorem FnExactValidOutline_holds : Rows.FnExactValidOutlineSaid :=
  OpenClaim.holds_of_wide 7 Try.f7 rfl rfl rfl rfl rfl rfl rfl ⟨rfl, rfl, rfl, rfl, rfl⟩ rfl rfl rfl rfl rfl (by kernel_rfl) Try.func7 (by kernel_rfl)
    (of_decide_eq_true (by kernel_rfl)) (by unfold Func.isWrapper; first | (rw [if_pos (by decide +kernel)]; kernel_rfl) | (rw [if_neg (by decide +kernel)]; exact ⟨rfl, rfl⟩))
    (fun os started H enc _ => lifted_FnExactValidOutline os started H enc)
end Go.Proofs.Yteoiphjkkcjddaa
