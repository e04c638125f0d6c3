/- The law that no breaks have fewer lines holds for every code. No condition. -/
import Derived.Test.YtmncdpiojhgcdaaSa
import Derived.Test.YtmncdpiojhgcdaaDrawCb
import Derived.Test.YtmncdpiojhgcdaaCbS
import Derived.Test.YtmncdpiojhgcdaaLlM
namespace Go.Proofs.Ytmncdpiojhgcdaa
open Go.ChangeShapes Go.WideShapes Go.ChangeAt Go.RowKit
set_option linter.unusedVariables false
set_option maxRecDepth 4000
open Classical

set_option maxHeartbeats 4000000 in
theorem walk_FnLeastLines (a : Option Addr) (n c : Nat) (zs : List Int) (w : World) (hr : IsRow .u8 w a n c zs) :
    Calls Try.prog 4 #[.slice a n c] w fun e w' => e = .returned (.bool true) ∧ Below w.heap.size w w' := by
  have hm := small_row hr; unfold maxLen at hm; (rcases (by omega : 1048576 < n ∨ n ≤ 1048576) with hn | hn); (next => (go_enter Try.func4, Try.ntmps4; go_wp2; go_ret; exact ⟨rfl, bl_refl _⟩)); go_enter Try.func4, Try.ntmps4; go_wp2_with fail; (with_reducible refine (DrawCheckBreaks_any _ _ _ _ _ hr).mono ?_); rintro e u0 ⟨A, B, c', c2, L, d, t, E, rfl, hTL, hll, hd, hIL, hEl, hEw, hb⟩; clear hr; have CI := fun (u : World) (h1 : TL u A L.length L) (h2 : IL u B E.length E) => CheckBreaks_i u A B L.length c' E.length c2 L E d t h1 (by omega) h2 (by omega) hEw; have CS := fun (u : World) (h1 : TL u A L.length L) (h2 : IL u B E.length E) => CheckBreaks_s u A B L.length c' E.length c2 L E d t h1 (by omega) h2 (by omega) hEw
  have TR := fun h => ll_least (L := L) (d := d) (t := t) (E := E) h
  have TP := ll_pos (L := L) (d := d) (t := t)
  have BI := fun (u : World) (h1 : TL u A L.length L) => BestBreaks_i u A L.length c' L d t h1 (by omega)
  have LI := fun (u : World) (h1 : TL u A L.length L) => LeastLines_i u A L.length c' L d t h1 (by omega)
  have LS := fun (u : World) (h1 : TL u A L.length L) => LeastLines_s u A L.length c' L d t h1 (by omega)
  unfold RetW at BI
  have HT := hide hTL
  have HE := hide hIL
  have HB := hide hb
  obtain ⟨V, hV⟩ : ∃ V, V = cbO L d t E := ⟨_, rfl⟩
  obtain ⟨W, hW⟩ : ∃ V, V = bbV L d t := ⟨_, rfl⟩
  obtain ⟨m, hM⟩ : ∃ V, V = llO L d t := ⟨_, rfl⟩
  rw [← hV] at CI CS TR
  rw [← hW] at TP BI
  rw [← hM] at TP TR LI LS
  obtain ⟨x, fo⟩ := V
  obtain ⟨R, y, fy⟩ := W
  simp only at CI CS TR BI TP
  have HCI := hide CI
  have HCS := hide CS
  have HBI := hide BI
  have HLI := hide LI
  have HLS := hide LS
  replace TR := hide TR
  clear CI CS BI LI LS hV hW hM hTL hIL hb hEw hd
  have TPP : (fy = true ∧ 0 < m) ∨ (fy = false ∧ ¬ 0 < m) := by
    cases fy
    · exact .inr ⟨rfl, of_decide_eq_false TP⟩
    · exact .inl ⟨rfl, of_decide_eq_true TP⟩
  clear TP
  rcases TPP with ⟨rfl, p1⟩ | ⟨rfl, p1⟩
  · have p2 : decide (0 < m) = true := decide_eq_true p1
    cases fo
    · clear TR
      go_wp2_with fail; (with_reducible refine (HCI.out _ HT.out HE.out).mono ?_); rintro e u1 ⟨rfl, hb1⟩; have HT1 := hide (HT.out.below hb1); have HE1 := hide (HE.out.below hb1); have HB1 := hide (bl_call hb1 HB.out); clear hb1 HT HE HB; go_wp2_with fail; (with_reducible refine (HCS.out _ HT1.out HE1.out).mono ?_); rintro e u2 ⟨rfl, hb2⟩; have HT2 := hide (HT1.out.below hb2); have HE2 := hide (HE1.out.below hb2); have HB2 := hide (bl_call hb2 HB1.out); clear hb2 HT1 HE1 HB1 HCI HCS
      go_wp2_with fail; (with_reducible refine (HLI.out _ HT2.out).mono ?_); rintro e u3 ⟨rfl, hb3⟩; have HT3 := hide (HT2.out.below hb3); have HB3 := hide (bl_call hb3 HB2.out); clear hb3 HT2 HB2 HLI; go_wp2_with fail; (with_reducible refine (HBI.out _ HT3.out).mono ?_); rintro e u4 ⟨A4, c4, rfl, ho4, hb4⟩; have HT4 := hide (HT3.out.below hb4); have HB4 := hide (bl_call hb4 HB3.out); clear ho4 hb4 HT3 HB3 HBI; go_wp2_with fail; (with_reducible refine (HLS.out _ HT4.out).mono ?_); rintro e u5 ⟨rfl, hb5⟩; have HB5 := hide (bl_call hb5 HB4.out); clear hb5 HT4 HB4 HLS
      go_wp2
      go_ret
      exact ⟨rfl, HB5.out⟩
    · have v1 := TR.out rfl
      have v2 : decide (m ≤ (E.length : Int)) = true := decide_eq_true v1
      clear TR
      go_wp2_with fail; (with_reducible refine (HCI.out _ HT.out HE.out).mono ?_); rintro e u1 ⟨rfl, hb1⟩; have HT1 := hide (HT.out.below hb1); have HE1 := hide (HE.out.below hb1); have HB1 := hide (bl_call hb1 HB.out); clear hb1 HT HE HB; go_wp2_with fail; (with_reducible refine (HCS.out _ HT1.out HE1.out).mono ?_); rintro e u2 ⟨rfl, hb2⟩; have HT2 := hide (HT1.out.below hb2); have HE2 := hide (HE1.out.below hb2); have HB2 := hide (bl_call hb2 HB1.out); clear hb2 HT1 HE1 HB1 HCI HCS
      go_wp2_with fail; (with_reducible refine (HLI.out _ HT2.out).mono ?_); rintro e u3 ⟨rfl, hb3⟩; have HT3 := hide (HT2.out.below hb3); have HB3 := hide (bl_call hb3 HB2.out); clear hb3 HT2 HB2 HLI; go_wp2_with fail; (with_reducible refine (HBI.out _ HT3.out).mono ?_); rintro e u4 ⟨A4, c4, rfl, ho4, hb4⟩; have HT4 := hide (HT3.out.below hb4); have HB4 := hide (bl_call hb4 HB3.out); clear ho4 hb4 HT3 HB3 HBI; go_wp2_with fail; (with_reducible refine (HLS.out _ HT4.out).mono ?_); rintro e u5 ⟨rfl, hb5⟩; have HB5 := hide (bl_call hb5 HB4.out); clear hb5 HT4 HB4 HLS
      go_wp2
      go_ret
      exact ⟨rfl, HB5.out⟩
  · have p2 : decide (0 < m) = false := decide_eq_false p1
    cases fo
    · clear TR
      go_wp2_with fail; (with_reducible refine (HCI.out _ HT.out HE.out).mono ?_); rintro e u1 ⟨rfl, hb1⟩; have HT1 := hide (HT.out.below hb1); have HE1 := hide (HE.out.below hb1); have HB1 := hide (bl_call hb1 HB.out); clear hb1 HT HE HB; go_wp2_with fail; (with_reducible refine (HCS.out _ HT1.out HE1.out).mono ?_); rintro e u2 ⟨rfl, hb2⟩; have HT2 := hide (HT1.out.below hb2); have HE2 := hide (HE1.out.below hb2); have HB2 := hide (bl_call hb2 HB1.out); clear hb2 HT1 HE1 HB1 HCI HCS
      go_wp2_with fail; (with_reducible refine (HLI.out _ HT2.out).mono ?_); rintro e u3 ⟨rfl, hb3⟩; have HT3 := hide (HT2.out.below hb3); have HB3 := hide (bl_call hb3 HB2.out); clear hb3 HT2 HB2 HLI; go_wp2_with fail; (with_reducible refine (HBI.out _ HT3.out).mono ?_); rintro e u4 ⟨A4, c4, rfl, ho4, hb4⟩; have HT4 := hide (HT3.out.below hb4); have HB4 := hide (bl_call hb4 HB3.out); clear ho4 hb4 HT3 HB3 HBI; go_wp2_with fail; (with_reducible refine (HLS.out _ HT4.out).mono ?_); rintro e u5 ⟨rfl, hb5⟩; have HB5 := hide (bl_call hb5 HB4.out); clear hb5 HT4 HB4 HLS
      go_wp2
      go_ret
      exact ⟨rfl, HB5.out⟩
    · have v1 := TR.out rfl
      have v2 : decide (m ≤ (E.length : Int)) = true := decide_eq_true v1
      clear TR
      go_wp2_with fail; (with_reducible refine (HCI.out _ HT.out HE.out).mono ?_); rintro e u1 ⟨rfl, hb1⟩; have HT1 := hide (HT.out.below hb1); have HE1 := hide (HE.out.below hb1); have HB1 := hide (bl_call hb1 HB.out); clear hb1 HT HE HB; go_wp2_with fail; (with_reducible refine (HCS.out _ HT1.out HE1.out).mono ?_); rintro e u2 ⟨rfl, hb2⟩; have HT2 := hide (HT1.out.below hb2); have HE2 := hide (HE1.out.below hb2); have HB2 := hide (bl_call hb2 HB1.out); clear hb2 HT1 HE1 HB1 HCI HCS
      go_wp2_with fail; (with_reducible refine (HLI.out _ HT2.out).mono ?_); rintro e u3 ⟨rfl, hb3⟩; have HT3 := hide (HT2.out.below hb3); have HB3 := hide (bl_call hb3 HB2.out); clear hb3 HT2 HB2 HLI; go_wp2_with fail; (with_reducible refine (HBI.out _ HT3.out).mono ?_); rintro e u4 ⟨A4, c4, rfl, ho4, hb4⟩; have HT4 := hide (HT3.out.below hb4); have HB4 := hide (bl_call hb4 HB3.out); clear ho4 hb4 HT3 HB3 HBI; go_wp2_with fail; (with_reducible refine (HLS.out _ HT4.out).mono ?_); rintro e u5 ⟨rfl, hb5⟩; have HB5 := hide (bl_call hb5 HB4.out); clear hb5 HT4 HB4 HLS
      go_wp2
      go_ret
      exact ⟨rfl, HB5.out⟩
set_option maxRecDepth 100000 in
theorem lifted_FnLeastLines (os : Os) (started : os.Started) (H : Type) (enc : TypeId × Value → H) :
    ReturnsInHanded {} Try.checked os 4 .any (Rows.fnLeastLinesSpec.pre6 enc Try.prog Try.f4 Rows.fnLeastLinesRow.domain false) (Rows.fnLeastLinesSpec.post enc Try.prog Try.f4 false true false false) := by
  refine returnsInHanded_of_change (C := Try.checked) own_knob started (by kernel_rfl) Try.func4
    (ChangeSpec.witness6 (enc := enc) (C := Try.checked) false ⟨#[], #[.slice none 0 0], []⟩ 8 (by kernel_rfl) (by kernel_rfl) (by kernel_rfl) (by kernel_rfl)) ?_
  intro W base args ds gs before hval0 hW hcnd _
  have hval : ∀ (j : Nat) t v, Try.f4.params[j]? = some t → args[j]? = some v → Value.okWide Try.prog W .any base t v := hval0
  have hW' := hW
  obtain ⟨p, q, hA0, hV, rfl, hfz, hnd⟩ := hW
  have hA : DataW.TrodAll enc Try.prog W 0 (fun _ => true) true Try.f4.params.toList args.toList ds p := hA0
  rw [Try.params4] at hA hval
  obtain ⟨v0, vs0, d0, ds0, p0, q0, hargs, rfl, rfl, zh0, r0⟩ := trodAll_cons hA
  obtain ⟨rfl, rfl, rfl⟩ := trodAll_nil r0
  obtain rfl : args = #[v0] := by cases args; simp_all
  obtain ⟨rfl, rfl⟩ := trodVars_none hV
  have zk0 := zh0
  have zl0 : ∀ x ∈ p0, x.block < W.heap.size := by obtain ⟨m, hm⟩ := zk0; exact DataW.trod_lt m _ _ _ hm
  clear hA0 hval0
  obtain ⟨a_code, n_code, c_code, rfl⟩ := okWide_slice Try.underlying29 (hval 0 29 v0 rfl rfl)
  obtain ⟨code, w_code⟩ := isRow_of Try.underlying29 Try.underlying5 (by kernel_rfl) zh0
  refine (walk_FnLeastLines a_code n_code c_code code W w_code).mono fun e W' ⟨he, bel⟩ => ?_
  subst he
  exact ⟨_, rfl, _, _, _, [], _, [], hW', trodAll_mk1 (shut_bool Try.underlying4 _), (trodAll_cons_mk (Below.trod laid_out (by kernel_rfl) (of_decide_eq_true (by kernel_rfl)) zk0 bel zl0) trodAll_mk0), rfl, bel.frame _, fun h => by cases h⟩

/-- The statement. -/
theorem FnLeastLines_holds : Rows.FnLeastLinesSaid :=
  OpenClaim.holds_of_wide 4 Try.f4 rfl rfl rfl rfl rfl rfl rfl ⟨rfl, rfl, rfl, rfl, rfl⟩ rfl rfl rfl rfl rfl (by kernel_rfl) Try.func4 (by unfold joinedFacts; rw [may_enter, lifts_final, make_cut]; kernel_rfl)
    (of_decide_eq_true (by kernel_rfl)) (by unfold Func.isWrapper; first | (rw [if_pos (by decide +kernel)]; kernel_rfl) | (rw [if_neg (by decide +kernel)]; exact ⟨rfl, rfl⟩))
    (fun os started H enc _ => lifted_FnLeastLines os started H enc)
end Go.Proofs.Ytmncdpiojhgcdaa
