/- The law that checks agree for one width holds for every code. No condition. -/
import Derived.Test.YtmncdpiojhgcdaaSa
import Derived.Test.YtmncdpiojhgcdaaDrawCb
import Derived.Test.YtmncdpiojhgcdaaCs
import Derived.Test.YtmncdpiojhgcdaaCbS
namespace Go.Proofs.Ytmncdpiojhgcdaa
open Go.ChangeShapes Go.WideShapes Go.ChangeAt Go.RowKit
set_option linter.unusedVariables false
set_option maxRecDepth 4000
open Classical

set_option maxHeartbeats 4000000 in
theorem walk_FnCheckShape (a : Option Addr) (n c : Nat) (zs : List Int) (w : World) (hr : IsRow .u8 w a n c zs) :
    Calls Try.prog 8 #[.slice a n c] w fun e w' => e = .returned (.bool true) ∧ Below w.heap.size w w' := by
  have hm := small_row hr; unfold maxLen at hm; (rcases (by omega : 1048576 < n ∨ n ≤ 1048576) with hn | hn); (next => (go_enter Try.func8, Try.ntmps8; go_wp2; go_ret; exact ⟨rfl, bl_refl _⟩)); go_enter Try.func8, Try.ntmps8; go_wp2_with fail; (with_reducible refine (DrawCheckBreaks_any _ _ _ _ _ hr).mono ?_); rintro e u0 ⟨A, B, c', c2, L, d, t, E, rfl, hTL, hll, hd, hIL, hEl, hEw, hb⟩; clear hr; have CI := fun (u : World) (h1 : TL u A L.length L) (h2 : IL u B E.length E) => CheckBreaks_i u A B L.length c' E.length c2 L E d t h1 (by omega) h2 (by omega) hEw; have CS := fun (u : World) (h1 : TL u A L.length L) (h2 : IL u B E.length E) => CheckBreaks_s u A B L.length c' E.length c2 L E d t h1 (by omega) h2 (by omega) hEw
  have SI := fun (u : World) (D : Option Addr) (h1 : TL u A L.length L) (h2 : IL u B E.length E) (h3 : IL u D 1 [d]) => CheckShape_i u A B D L.length c' E.length c2 1 1 L E [d] t h1 (by omega) h3 (by omega) h2 (by omega) hEw
  rw [csO_one] at SI
  have HT := hide hTL
  have HE := hide hIL
  have HB := hide hb
  obtain ⟨V, hV⟩ : ∃ V, V = cbO L d t E := ⟨_, rfl⟩
  rw [← hV] at CI CS SI
  obtain ⟨x, fo⟩ := V
  simp only at CI CS SI
  have HCI := hide CI
  have HCS := hide CS
  have HSI := hide SI
  clear CI CS SI hV hTL hIL hb hEw hd
  go_wp2_with fail; (with_reducible refine (HCI.out _ HT.out HE.out).mono ?_); rintro e u1 ⟨rfl, hb1⟩; have HT1 := hide (HT.out.below hb1); have HE1 := hide (HE.out.below hb1); have HB1 := hide (bl_call hb1 HB.out); clear hb1 HT HE HB; go_wp2_with fail; (with_reducible refine (HCS.out _ HT1.out HE1.out).mono ?_); rintro e u2 ⟨rfl, hb2⟩; have HT2 := hide (HT1.out.below hb2); have HE2 := hide (HE1.out.below hb2); have HB2 := hide (bl_call hb2 HB1.out); clear hb2 HT1 HE1 HB1 HCI HCS
  have HO := hide (show IL (u2.alloc (.cells #[.int .i64 d] 3)) (some ⟨u2.heap.size, 0, none⟩) 1 [d] from by
    have := OL.lit (w := u2) (e := 3) (B := u2.heap.size) (Nat.le_refl _) [d] (by simp [maxLen])
    simpa using this.reads)
  have HT3 := hide (HT2.out.below (bl_alloc (bl_refl _) (.cells #[.int .i64 d] 3)))
  have HE3 := hide (HE2.out.below (bl_alloc (bl_refl _) (.cells #[.int .i64 d] 3)))
  go_wp2_with fail
  (with_reducible refine (HSI.out _ _ HT3.out HE3.out HO.out).mono ?_)
  rintro e u3 ⟨rfl, hb3⟩
  have HB3 := hide (bl_call hb3 (bl_alloc HB2.out (.cells #[.int .i64 d] 3)))
  clear hb3
  cases fo
  · go_wp2
    go_ret
    exact ⟨rfl, HB3.out⟩
  · go_wp2
    go_ret
    exact ⟨rfl, HB3.out⟩
set_option maxRecDepth 100000 in
theorem lifted_FnCheckShape (os : Os) (started : os.Started) (H : Type) (enc : TypeId × Value → H) :
    ReturnsInHanded {} Try.checked os 8 .any (Rows.fnCheckShapeSpec.pre6 enc Try.prog Try.f8 Rows.fnCheckShapeRow.domain false) (Rows.fnCheckShapeSpec.post enc Try.prog Try.f8 false true false false) := by
  refine returnsInHanded_of_change (C := Try.checked) own_knob started (by kernel_rfl) Try.func8
    (ChangeSpec.witness6 (enc := enc) (C := Try.checked) false ⟨#[], #[.slice none 0 0], []⟩ 8 (by kernel_rfl) (by kernel_rfl) (by kernel_rfl) (by kernel_rfl)) ?_
  intro W base args ds gs before hval0 hW hcnd _
  have hval : ∀ (j : Nat) t v, Try.f8.params[j]? = some t → args[j]? = some v → Value.okWide Try.prog W .any base t v := hval0
  have hW' := hW
  obtain ⟨p, q, hA0, hV, rfl, hfz, hnd⟩ := hW
  have hA : DataW.TrodAll enc Try.prog W 0 (fun _ => true) true Try.f8.params.toList args.toList ds p := hA0
  rw [Try.params8] at hA hval
  obtain ⟨v0, vs0, d0, ds0, p0, q0, hargs, rfl, rfl, zh0, r0⟩ := trodAll_cons hA
  obtain ⟨rfl, rfl, rfl⟩ := trodAll_nil r0
  obtain rfl : args = #[v0] := by cases args; simp_all
  obtain ⟨rfl, rfl⟩ := trodVars_none hV
  have zk0 := zh0
  have zl0 : ∀ x ∈ p0, x.block < W.heap.size := by obtain ⟨m, hm⟩ := zk0; exact DataW.trod_lt m _ _ _ hm
  clear hA0 hval0
  obtain ⟨a_code, n_code, c_code, rfl⟩ := okWide_slice Try.underlying29 (hval 0 29 v0 rfl rfl)
  obtain ⟨code, w_code⟩ := isRow_of Try.underlying29 Try.underlying5 (by kernel_rfl) zh0
  refine (walk_FnCheckShape a_code n_code c_code code W w_code).mono fun e W' ⟨he, bel⟩ => ?_
  subst he
  exact ⟨_, rfl, _, _, _, [], _, [], hW', trodAll_mk1 (shut_bool Try.underlying4 _), (trodAll_cons_mk (Below.trod laid_out (by kernel_rfl) (of_decide_eq_true (by kernel_rfl)) zk0 bel zl0) trodAll_mk0), rfl, bel.frame _, fun h => by cases h⟩

/-- The statement. -/
theorem FnCheckShape_holds : Rows.FnCheckShapeSaid :=
  OpenClaim.holds_of_wide 8 Try.f8 rfl rfl rfl rfl rfl rfl rfl ⟨rfl, rfl, rfl, rfl, rfl⟩ rfl rfl rfl rfl rfl (by kernel_rfl) Try.func8 (by unfold joinedFacts; rw [may_enter, lifts_final, make_cut]; kernel_rfl)
    (of_decide_eq_true (by kernel_rfl)) (by unfold Func.isWrapper; first | (rw [if_pos (by decide +kernel)]; kernel_rfl) | (rw [if_neg (by decide +kernel)]; exact ⟨rfl, rfl⟩))
    (fun os started H enc _ => lifted_FnCheckShape os started H enc)
end Go.Proofs.Ytmncdpiojhgcdaa
