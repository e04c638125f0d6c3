/- The exact law on ValidItems holds at every input: it answers as its model does and writes into no argument. No condition. -/
import Derived.Test.YtmolkppdfbldnaaJn
import Derived.Test.YtmolkppdfbldnaaPartsOf
namespace Go.Proofs.Ytmolkppdfbldnaa
open Go.ChangeShapes Go.WideShapes Go.ChangeAt Go.RowKit
set_option linter.unusedVariables false

theorem walk_FnExactValidItems (a : Option Addr) (n c : Nat) (L : List It) (w : World) (h : TL w a n L) (hm : n ≤ maxLen) :
    Calls Try.prog 15 #[.slice a n c] w fun e w' => e = .returned (.bool true) ∧ Below w.heap.size w w' := by
  unfold maxLen at hm
  have hnl : n = L.length := h.1
  have HI := hide h
  clear h
  rcases (by omega : (1048576 : Int) - (n : Int) < 0 ∨ 0 ≤ (1048576 : Int) - (n : Int)) with q | q
  · clear hnl
    have SZ := fun (u : World) => szItemS_l u a n c 1048576 (by omega) (by omega) (by omega)
    rw [if_pos q] at SZ
    have HSZ := hide SZ
    clear SZ
    go_enter Try.func15, Try.ntmps15
    go_wp2_with fail
    (with_reducible refine (HSZ.out _).mono ?_)
    rintro e w' ⟨rfl, rfl⟩
    go_wp2
    go_ret
    exact ⟨rfl, bl_refl _⟩
  · have hn : n ≤ 1048576 := by omega
    have hll : L.length ≤ 4611686018427387904 := by omega
    have q' : ¬ ((1048576 : Int) - (n : Int) < 0) := by omega
    have HNL := hide hnl
    clear hnl
    have SZ := fun (u : World) => szItemS_l u a n c 1048576 (by omega) (by omega) (by omega)
    rw [if_neg q'] at SZ
    have HSZ := hide SZ
    clear SZ
    go_enter Try.func15, Try.ntmps15
    go_wp2_with fail
    (with_reducible refine (HSZ.out _).mono ?_)
    rintro e w' ⟨rfl, rfl⟩
    go_wp2_with fail
    (with_reducible refine (toItemS_l _ _ _ _ L HI.out hn).mono ?_)
    rintro e u1 ⟨A1, c1, rfl, ho1, hb1⟩
    go_wp2_with fail
    (with_reducible refine (ValidItems_s _ _ _ _ L ho1.reads hll).mono ?_)
    rintro e u2 ⟨rfl, hb2⟩
    have HB2 := hide (bl_call hb2 hb1)
    clear ho1 hb1 hb2
    go_wp2_with fail
    (with_reducible refine (toItemS_l _ _ _ _ L (HI.out.below HB2.out) hn).mono ?_)
    rintro e u3 ⟨A3, c3, rfl, ho3, hb3⟩
    have HB3 := hide (bl_call hb3 HB2.out)
    go_wp2_with fail
    (with_reducible refine (ValidItems_i _ _ _ _ L ho3.reads hll).mono ?_)
    rintro e u4 ⟨rfl, hb4⟩
    have HB4 := hide (bl_call hb4 HB3.out)
    have HO := hide (ho3.reads.below hb4)
    clear hb3 hb4 ho3
    go_wp2_with fail
    (with_reducible refine (toItemS_l _ _ _ _ L (HI.out.below HB4.out) hn).mono ?_)
    rintro e u5 ⟨A5, c5, rfl, ho5, hb5⟩
    go_wp2_with fail
    (with_reducible refine (eqItemS_l _ _ _ _ _ _ L (HO.out.below hb5) ho5.reads (by have := HNL.out; omega)).mono ?_)
    rintro e u6 ⟨rfl, hb6⟩
    go_wp2
    go_ret
    exact ⟨rfl, bl_call hb6 (bl_call hb5 HB4.out)⟩
set_option maxRecDepth 100000 in
theorem lifted_FnExactValidItems (os : Os) (started : os.Started) (H : Type) (enc : TypeId × Value → H) :
    ReturnsInHanded {} Try.checked os 15 .any (Rows.fnExactValidItemsSpec.pre6 enc Try.prog Try.f15 Rows.fnExactValidItemsRow.domain false) (Rows.fnExactValidItemsSpec.post enc Try.prog Try.f15 false true false false) := by
  refine returnsInHanded_of_change (C := Try.checked) own_knob started (by kernel_rfl) Try.func15
    (ChangeSpec.witness6 (enc := enc) (C := Try.checked) false ⟨#[], #[.slice none 0 0], []⟩ 8 (by kernel_rfl) (by kernel_rfl) (by kernel_rfl) (by kernel_rfl)) ?_
  intro W base args ds gs before hval0 hW hcnd _
  have hval : ∀ (j : Nat) t v, Try.f15.params[j]? = some t → args[j]? = some v → Value.okWide Try.prog W .any base t v := hval0
  have hW' := hW
  obtain ⟨p, q, hA0, hV, rfl, hfz, hnd⟩ := hW
  have hA : DataW.TrodAll enc Try.prog W 0 (fun _ => true) true Try.f15.params.toList args.toList ds p := hA0
  rw [Try.params15] at hA hval
  obtain ⟨v0, vs0, d0, ds0, p0, q0, hargs, rfl, rfl, zh0, r0⟩ := trodAll_cons hA
  obtain ⟨rfl, rfl, rfl⟩ := trodAll_nil r0
  obtain rfl : args = #[v0] := by cases args; simp_all
  obtain ⟨rfl, rfl⟩ := trodVars_none hV
  have zk0 := zh0
  have zl0 : ∀ x ∈ p0, x.block < W.heap.size := by obtain ⟨m, hm⟩ := zk0; exact DataW.trod_lt m _ _ _ hm
  clear hA0 hval0
  obtain ⟨a_a, n_a, c_a, rfl⟩ := okWide_slice Try.underlying22 (hval 0 22 v0 rfl rfl)
  obtain ⟨L_a, t_a, m_a, _⟩ := items_in Try.underlying22 (by kernel_rfl) (by kernel_rfl) zh0
  refine (walk_FnExactValidItems a_a n_a c_a L_a W t_a m_a).mono fun e W' ⟨he, bel⟩ => ?_
  subst he
  exact ⟨_, rfl, _, _, _, [], _, [], hW', trodAll_mk1 (shut_bool Try.underlying4 _), (trodAll_cons_mk (Below.trod laid_out (by kernel_rfl) (of_decide_eq_true (by kernel_rfl)) zk0 bel zl0) trodAll_mk0), rfl, bel.frame _, fun h => by cases h⟩

/-- The statement. -/
theorem FnExactValidItems_holds : Rows.FnExactValidItemsSaid :=
  OpenClaim.holds_of_wide 15 Try.f15 rfl rfl rfl rfl rfl rfl rfl ⟨rfl, rfl, rfl, rfl, rfl⟩ rfl rfl rfl rfl rfl (by kernel_rfl) Try.func15 (by unfold joinedFacts; rw [may_enter, lifts_final, make_cut]; kernel_rfl)
    (of_decide_eq_true (by kernel_rfl)) (by unfold Func.isWrapper; first | (rw [if_pos (by decide +kernel)]; kernel_rfl) | (rw [if_neg (by decide +kernel)]; exact ⟨rfl, rfl⟩))
    (fun os started H enc _ => lifted_FnExactValidItems os started H enc)
end Go.Proofs.Ytmolkppdfbldnaa
