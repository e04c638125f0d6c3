/- The law that no pages are better holds at every input. No condition. -/
import Derived.Test.YtkclecfjpabplaaFrame
import Derived.Test.YtkclecfjpabplaaDrawBp
import Derived.Test.YtkclecfjpabplaaPgM
namespace Go.Proofs.Ytkclecfjpabplaa
open Go.ChangeShapes Go.WideShapes Go.ChangeAt Go.RowKit
set_option linter.unusedVariables false
set_option maxRecDepth 4000
open Classical

theorem TO_capq {w : World} {e : TypeId} {B : Nat} {A : Option Addr} {c : Nat} {L : List Gp} (h : TO w e B A c L) : L.length ≤ c := by
  rcases Nat.eq_zero_or_pos L.length with h0 | h0
  · omega
  · obtain ⟨_, _, _, _, h1, _⟩ := h.form h0
    exact h1
set_option maxHeartbeats 4000000 in
theorem walk_FnPagesOfAll (a : Option Addr) (n c : Nat) (zs : List Int) (w : World) (hr : IsRow .u8 w a n c zs) :
    Calls Try.prog 12 #[.slice a n c] w fun e w' => e = .returned (.bool true) ∧ Below w.heap.size w w' := by
  have hm := small_row hr
  unfold maxLen at hm
  rcases (by omega : 1048576 < n ∨ n ≤ 1048576) with hn | hn
  · go_enter Try.func12, Try.ntmps12
    go_wp2
    go_ret
    exact ⟨rfl, bl_refl _⟩
  go_enter Try.func12, Try.ntmps12
  go_wp2_with fail
  (with_reducible refine (DrawCheckPages_any _ _ _ _ _ hr).mono ?_)
  rintro e u0 ⟨A, c', L, z, B, d, E, rfl, hol, hll, hz, hoE, hlE, hb⟩
  clear hr
  have CI := fun (u : World) (h1 : TL u A L.length L) (h2 : IL u B E.length E) => CheckPages_i u A B L.length c' E.length d L z E h1 (by omega) (TO_capq hol) h2 (by omega)
  have CS := fun (u : World) (h1 : TL u A L.length L) (h2 : IL u B E.length E) => CheckPages_s u A B L.length c' E.length d L z E h1 (by omega) h2 (by omega)
  have BI := fun (u : World) (h1 : TL u A L.length L) => BestPages_i u A L.length c' L z h1 (by omega) (TO_capq hol)
  have TR := hide (show (cpV L z E).2 = true → (bpV L z).2.2 = true ∧ (bpV L z).2.1 ≤ (cpV L z E).1 from fun e => by
    rw [(cpV_true e).2.2.2]
    exact bp_least (cpV_true e).1 (fits_of e))
  unfold RetB at BI
  obtain ⟨V, hV⟩ : ∃ V, V = bpV L z := ⟨_, rfl⟩
  obtain ⟨t, ht⟩ : ∃ t, t = cpV L z E := ⟨_, rfl⟩
  rw [← ht] at CI CS TR
  rw [← hV] at BI TR
  obtain ⟨R, y, f⟩ := V
  obtain ⟨s, g⟩ := t
  simp only at BI TR CI CS
  have HO := hide hol
  have HE := hide hoE
  have HB := hide hb
  have HCI := hide CI
  have HCS := hide CS
  have HBI := hide BI
  clear hol hoE hb hV ht CI CS BI
  go_wp2_with fail
  (with_reducible refine (HCI.out _ HO.out.reads HE.out.reads).mono ?_)
  rintro e u1 ⟨rfl, hb1⟩
  have HO1 := hide (HO.out.below hb1)
  have HE1 := hide (HE.out.below hb1)
  have HB1 := hide (bl_call hb1 HB.out)
  clear hb1 HO HB HE
  go_wp2_with fail
  (with_reducible refine (HCS.out _ HO1.out.reads HE1.out.reads).mono ?_)
  rintro e w' ⟨rfl, rfl⟩
  cases g
  · go_wp2
    go_ret
    exact ⟨rfl, HB1.out⟩
  · obtain ⟨v1, v2⟩ := TR.out rfl
    obtain rfl : f = true := v1
    have d1 : decide (y ≤ s) = true := decide_eq_true v2
    clear TR
    go_wp2_with fail
    (with_reducible refine (HBI.out _ HO1.out.reads).mono ?_)
    rintro e u3 ⟨A3, d3, rfl, ho3, hb3⟩
    have HB3 := hide (bl_call hb3 HB1.out)
    clear hb3 ho3
    go_wp2
    go_ret
    exact ⟨rfl, HB3.out⟩
set_option maxRecDepth 100000 in
theorem lifted_FnPagesOfAll (os : Os) (started : os.Started) (H : Type) (enc : TypeId × Value → H) :
    ReturnsInHanded {} Try.checked os 12 .any (Rows.fnPagesOfAllSpec.pre6 enc Try.prog Try.f12 Rows.fnPagesOfAllRow.domain false) (Rows.fnPagesOfAllSpec.post enc Try.prog Try.f12 false true false false) := by
  refine returnsInHanded_of_change (C := Try.checked) own_knob started (by kernel_rfl) Try.func12
    (ChangeSpec.witness6 (enc := enc) (C := Try.checked) false ⟨#[], #[.slice none 0 0], []⟩ 8 (by kernel_rfl) (by kernel_rfl) (by kernel_rfl) (by kernel_rfl)) ?_
  intro W base args ds gs before hval0 hW hcnd _
  have hval : ∀ (j : Nat) t v, Try.f12.params[j]? = some t → args[j]? = some v → Value.okWide Try.prog W .any base t v := hval0
  have hW' := hW
  obtain ⟨p, q, hA0, hV, rfl, hfz, hnd⟩ := hW
  have hA : DataW.TrodAll enc Try.prog W 0 (fun _ => true) true Try.f12.params.toList args.toList ds p := hA0
  rw [Try.params12] at hA hval
  obtain ⟨v0, vs0, d0, ds0, p0, q0, hargs, rfl, rfl, zh0, r0⟩ := trodAll_cons hA
  obtain ⟨rfl, rfl, rfl⟩ := trodAll_nil r0
  obtain rfl : args = #[v0] := by cases args; simp_all
  obtain ⟨rfl, rfl⟩ := trodVars_none hV
  have zk0 := zh0
  have zl0 : ∀ x ∈ p0, x.block < W.heap.size := by obtain ⟨m, hm⟩ := zk0; exact DataW.trod_lt m _ _ _ hm
  clear hA0 hval0
  obtain ⟨a_code, n_code, c_code, rfl⟩ := okWide_slice Try.underlying27 (hval 0 27 v0 rfl rfl)
  obtain ⟨code, w_code⟩ := isRow_of Try.underlying27 Try.underlying5 (by kernel_rfl) zh0
  refine (walk_FnPagesOfAll a_code n_code c_code code W w_code).mono fun e W' ⟨he, bel⟩ => ?_
  subst he
  exact ⟨_, rfl, _, _, _, [], _, [], hW', trodAll_mk1 (shut_bool Try.underlying4 _), (trodAll_cons_mk (Below.trod laid_out (by kernel_rfl) (of_decide_eq_true (by kernel_rfl)) zk0 bel zl0) trodAll_mk0), rfl, bel.frame _, fun h => by cases h⟩

/-- The statement. -/
theorem FnPagesOfAll_holds : Rows.FnPagesOfAllSaid :=
  OpenClaim.holds_of_wide 12 Try.f12 rfl rfl rfl rfl rfl rfl rfl ⟨rfl, rfl, rfl, rfl, rfl⟩ rfl rfl rfl rfl rfl (by kernel_rfl) Try.func12 (by kernel_rfl)
    (of_decide_eq_true (by kernel_rfl)) (by unfold Func.isWrapper; first | (rw [if_pos (by decide +kernel)]; kernel_rfl) | (rw [if_neg (by decide +kernel)]; exact ⟨rfl, rfl⟩))
    (fun os started H enc _ => lifted_FnPagesOfAll os started H enc)
end Go.Proofs.Ytkclecfjpabplaa
