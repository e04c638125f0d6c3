/- The exact law on ParsePattern holds at every input: it answers as its model does, and what it returns is its own. No condition. -/
import Derived.Test.YtfcoheakecfolaaPatS
namespace Go.Proofs.Ytfcoheakecfolaa
open Go.ChangeShapes Go.WideShapes Go.ChangeAt Go.RowKit
set_option linter.unusedVariables false

theorem pp_len (s : List UInt8) : (((pp s).map (·.2)).getD []).length ≤ 21 := by
  unfold pp
  cases hs : ppTo s s.length with
  | none => simp
  | some st =>
    have := (ppTo_len hs).1
    simp only [Option.filter]
    split
    · rename_i h
      simp at h
      simp
      omega
    · simp

set_option maxHeartbeats 1000000 in
theorem walk_FnExactParsePattern (s : ByteArray) (w : World) (hs : s.size ≤ maxLen) :
    Calls Try.prog 12 #[.string s] w fun e w' => e = .returned (.bool true) ∧ Below w.heap.size w w' := by
  unfold maxLen at hs
  rcases (by omega : 1048576 < s.size ∨ s.size ≤ 1048576) with hb0 | hb0
  · go_enter Try.func12, Try.ntmps12
    go_wp2
    go_ret
    exact ⟨rfl, bl_refl _⟩
  · have CS := fun (u : World) => ParsePattern_s s u hb0
    have CI := fun (u : World) => ParsePattern_i s u (by omega)
    have hlen := pp_len s.data.toList
    unfold RetP at CS CI
    obtain ⟨L, hL⟩ : ∃ L, L = ((pp s.data.toList).map (·.2)).getD [] := ⟨_, rfl⟩
    obtain ⟨t, ht⟩ : ∃ t : ByteArray, t = ⟨(((pp s.data.toList).map (·.1)).getD []).toArray⟩ := ⟨_, rfl⟩
    obtain ⟨ok, hok⟩ : ∃ ok, ok = (pp s.data.toList).isSome := ⟨_, rfl⟩
    rw [← hL, ← ht, ← hok] at CS CI
    rw [← hL] at hlen
    have HCS := hide CS
    have HCI := hide CI
    have ty := teq_yes t
    clear CS CI hL ht hok
    go_enter Try.func12, Try.ntmps12
    go_wp2_with fail
    refine (HCS.out _).mono ?_
    rintro e u1 ⟨A1, c1, rfl, ho1, hb1⟩
    go_wp2_with fail
    refine (HCI.out _).mono ?_
    rintro e u2 ⟨A2, c2, rfl, ho2, hb2⟩
    have W1 := hide (OL.apart ho1 ho2)
    have ho1 := ho1.below hb2
    go_wp2_with fail
    refine (eqIntS_l _ _ _ _ _ _ _ _ _ ho2.reads ho1.reads (by omega) (by omega)).mono ?_
    rintro e u5 ⟨rfl, j, rfl⟩
    simp only [decide_true]
    go_wp2_with fail
    refine (markIntS_l _ _ _ _ _ L 1 (ho2.drewN _) (by omega) (by omega) (by omega)).mono ?_
    rintro e u6 ⟨rfl, ho6, hg6⟩
    have ho1 := (ho1.drewN j).kept hg6 W1.out
    have hb6 : Below u1.heap.size u1 u6 := marked ho2 hb2 hg6
    have hr6 := ho6.reads
    rw [upto_len] at hr6
    go_wp2_with fail
    refine (heldIntS_l _ _ _ _ 1 hr6 (by omega) (by omega) (by omega)).mono ?_
    rintro e w' ⟨rfl, rfl⟩
    go_wp2_with fail
    refine (HCI.out _).mono ?_
    rintro e u7 ⟨A3, c3, rfl, ho3, hb7⟩
    have ho1 := ho1.below hb7
    go_wp2_with fail
    refine (eqIntS_l _ _ _ _ _ _ _ _ _ ho3.reads ho1.reads (by omega) (by omega)).mono ?_
    rintro e u8 ⟨rfl, j2, rfl⟩
    simp only [decide_true]
    have hr8 := (hr6.below hb7).drewN j2
    go_wp2_with fail
    refine (heldIntS_l _ _ _ _ 1 hr8 (by omega) (by omega) (by omega)).mono ?_
    rintro e w' ⟨rfl, rfl⟩
    go_wp2
    go_ret
    refine ⟨rfl, ?_⟩
    repeat' (first | with_reducible exact bl_refl _ | with_reducible assumption | with_reducible refine bl_alloc ?_ _ | with_reducible refine bl_set ?_ ?_ _ | with_reducible refine bl_drewN ?_ _ | with_reducible refine bl_drew ?_ | with_reducible refine bl_call (by assumption) ?_)
set_option maxRecDepth 100000 in
theorem lifted_FnExactParsePattern (os : Os) (started : os.Started) (H : Type) (enc : TypeId × Value → H) :
    ReturnsInHanded {} Try.checked os 12 .any (Rows.fnExactParsePatternSpec.pre6 enc Try.prog Try.f12 Rows.fnExactParsePatternRow.domain false) (Rows.fnExactParsePatternSpec.post enc Try.prog Try.f12 false true false false) := by
  refine returnsInHanded_of_change (C := Try.checked) own_knob started (by kernel_rfl) Try.func12
    (ChangeSpec.witness6 (enc := enc) (C := Try.checked) false ⟨#[], #[.string ByteArray.empty], []⟩ 8 (by kernel_rfl) (by kernel_rfl) (by kernel_rfl) (by kernel_rfl)) ?_
  intro W base args ds gs before hval0 hW hcnd _
  have hval : ∀ (j : Nat) t v, Try.f12.params[j]? = some t → args[j]? = some v → Value.okWide Try.prog W .any base t v := hval0
  have hW' := hW
  obtain ⟨p, q, hA0, hV, rfl, hfz, hnd⟩ := hW
  have hA : DataW.TrodAll enc Try.prog W 0 (fun _ => true) true Try.f12.params.toList args.toList ds p := hA0
  rw [Try.params12] at hA hval
  obtain ⟨v0, vs0, d0, ds0, p0, q0, hargs, rfl, rfl, zh0, r0⟩ := trodAll_cons hA
  obtain ⟨rfl, rfl, rfl⟩ := trodAll_nil r0
  obtain rfl : args = #[v0] := by cases args; simp_all
  obtain ⟨rfl, rfl⟩ := trodVars_none hV
  have zk0 := zh0
  have zl0 : ∀ x ∈ p0, x.block < W.heap.size := by obtain ⟨m, hm⟩ := zk0; exact DataW.trod_lt m _ _ _ hm
  clear hA0 hval0
  obtain ⟨s, rfl, rfl, rfl, w_s⟩ := Go.ChangeMaps.open_string Try.underlying9 (hval 0 9 v0 rfl rfl) zh0
  refine (walk_FnExactParsePattern s W w_s).mono fun e W' ⟨he, bel⟩ => ?_
  subst he
  exact ⟨_, rfl, _, _, _, [], _, [], hW', trodAll_mk1 (shut_bool Try.underlying4 _), (trodAll_cons_mk (Below.trod laid_out (by kernel_rfl) (of_decide_eq_true (by kernel_rfl)) zk0 bel zl0) trodAll_mk0), rfl, bel.frame _, fun h => by cases h⟩

/-- The statement. -/
theorem FnExactParsePattern_holds : Rows.FnExactParsePatternSaid :=
  OpenClaim.holds_of_wide 12 Try.f12 rfl rfl rfl rfl rfl rfl rfl ⟨rfl, rfl, rfl, rfl, rfl⟩ rfl rfl rfl rfl rfl (by kernel_rfl) Try.func12 (by kernel_rfl)
    (of_decide_eq_true (by kernel_rfl)) (by unfold Func.isWrapper; first | (rw [if_pos (by decide +kernel)]; kernel_rfl) | (rw [if_neg (by decide +kernel)]; exact ⟨rfl, rfl⟩))
    (fun os started H enc _ => lifted_FnExactParsePattern os started H enc)
end Go.Proofs.Ytfcoheakecfolaa
