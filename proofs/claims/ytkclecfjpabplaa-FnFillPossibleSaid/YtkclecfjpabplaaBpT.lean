/- The law that pages can be filled if they are possible holds at every input. No condition. -/
import Derived.Test.YtkclecfjpabplaaFrame
import Derived.Test.YtkclecfjpabplaaDrawBp
import Derived.Test.YtkclecfjpabplaaPgN
namespace Go.Proofs.Ytkclecfjpabplaa
open Go.ChangeShapes Go.WideShapes Go.ChangeAt Go.RowKit
set_option linter.unusedVariables false
set_option maxRecDepth 4000
open Classical

theorem TO_capt {w : World} {e : TypeId} {B : Nat} {A : Option Addr} {c : Nat} {L : List Gp} (h : TO w e B A c L) : L.length ≤ c := by
  rcases Nat.eq_zero_or_pos L.length with h0 | h0
  · omega
  · obtain ⟨_, _, _, _, h1, _⟩ := h.form h0
    exact h1
set_option maxHeartbeats 4000000 in
theorem walk_FnFillPossible (a : Option Addr) (n c : Nat) (zs : List Int) (w : World) (hr : IsRow .u8 w a n c zs) :
    Calls Try.prog 15 #[.slice a n c] w fun e w' => e = .returned (.bool true) ∧ Below w.heap.size w w' := by
  have hm := small_row hr
  unfold maxLen at hm
  rcases (by omega : 1048576 < n ∨ n ≤ 1048576) with hn | hn
  · go_enter Try.func15, Try.ntmps15
    go_wp2
    go_ret
    exact ⟨rfl, bl_refl _⟩
  go_enter Try.func15, Try.ntmps15
  go_wp2_with fail
  (with_reducible refine (DrawFillPages_any _ _ _ _ _ hr).mono ?_)
  rintro e u0 ⟨A, c', L, z, rfl, hol, hll, hz, hb⟩
  clear hr
  have FI := fun (u : World) (h1 : TL u A L.length L) => FillPages_i u A L.length c' L z h1 (by omega) (TO_capt hol)
  have FS := fun (u : World) (h1 : TL u A L.length L) => FillPages_s u A L.length c' L z h1 (by omega)
  have BI := fun (u : World) (h1 : TL u A L.length L) => BestPages_i u A L.length c' L z h1 (by omega) (TO_capt hol)
  have TR := fp_bp (L := L) (h := z)
  unfold RetB at BI
  unfold RetQ at FI FS
  rw [TR] at FI FS
  obtain ⟨V, hV⟩ : ∃ V, V = bpV L z := ⟨_, rfl⟩
  rw [← hV] at BI FI FS
  obtain ⟨R, hR⟩ : ∃ R, R = (fpV L z).getD [] := ⟨_, rfl⟩
  rw [← hR] at FI FS
  obtain ⟨P, y, g⟩ := V
  simp only at BI FI FS
  have HO := hide hol
  have HB := hide hb
  have HFI := hide FI
  have HFS := hide FS
  have HBI := hide BI
  clear hol hb hV TR hR FI FS BI
  go_wp2_with fail
  (with_reducible refine (HFI.out _ HO.out.reads).mono ?_)
  rintro e u1 ⟨A1, d1, rfl, ho1, hb1⟩
  have HO1 := hide (HO.out.below hb1)
  have HB1 := hide (bl_call hb1 HB.out)
  clear hb1 HO HB ho1
  go_wp2_with fail
  (with_reducible refine (HFS.out _ HO1.out.reads).mono ?_)
  rintro e u2 ⟨A2, d2, rfl, ho2, hb2⟩
  have HO2 := hide (HO1.out.below hb2)
  have HB2 := hide (bl_call hb2 HB1.out)
  clear hb2 HO1 HB1 ho2 HFI HFS
  go_wp2_with fail
  (with_reducible refine (HBI.out _ HO2.out.reads).mono ?_)
  rintro e u3 ⟨A3, d3, rfl, ho3, hb3⟩
  have HB3 := hide (bl_call hb3 HB2.out)
  clear hb3 ho3 HBI HO2 HB2
  cases g
  all_goals
    go_wp2
    go_ret
    exact ⟨rfl, HB3.out⟩
set_option maxRecDepth 100000 in
theorem lifted_FnFillPossible (os : Os) (started : os.Started) (H : Type) (enc : TypeId × Value → H) :
    ReturnsInHanded {} Try.checked os 15 .any (Rows.fnFillPossibleSpec.pre6 enc Try.prog Try.f15 Rows.fnFillPossibleRow.domain false) (Rows.fnFillPossibleSpec.post enc Try.prog Try.f15 false true false false) := by
  refine returnsInHanded_of_change (C := Try.checked) own_knob started (by kernel_rfl) Try.func15
    (ChangeSpec.witness6 (enc := enc) (C := Try.checked) false ⟨#[], #[.slice none 0 0], []⟩ 8 (by kernel_rfl) (by kernel_rfl) (by kernel_rfl) (by kernel_rfl)) ?_
  intro W base args ds gs before hval0 hW hcnd _
  have hval : ∀ (j : Nat) t v, Try.f15.params[j]? = some t → args[j]? = some v → Value.okWide Try.prog W .any base t v := hval0
  have hW' := hW
  obtain ⟨p, q, hA0, hV, rfl, hfz, hnd⟩ := hW
  have hA : DataW.TrodAll enc Try.prog W 0 (fun _ => true) true Try.f15.params.toList args.toList ds p := hA0
  rw [Try.params15] at hA hval
  obtain ⟨v0, vs0, d0, ds0, p0, q0, hargs, rfl, rfl, zh0, r0⟩ := trodAll_cons hA
  obtain ⟨rfl, rfl, rfl⟩ := trodAll_nil r0
  obtain rfl : args = #[v0] := by cases args; simp_all
  obtain ⟨rfl, rfl⟩ := trodVars_none hV
  have zk0 := zh0
  have zl0 : ∀ x ∈ p0, x.block < W.heap.size := by obtain ⟨m, hm⟩ := zk0; exact DataW.trod_lt m _ _ _ hm
  clear hA0 hval0
  obtain ⟨a_code, n_code, c_code, rfl⟩ := okWide_slice Try.underlying27 (hval 0 27 v0 rfl rfl)
  obtain ⟨code, w_code⟩ := isRow_of Try.underlying27 Try.underlying5 (by kernel_rfl) zh0
  refine (walk_FnFillPossible a_code n_code c_code code W w_code).mono fun e W' ⟨he, bel⟩ => ?_
  subst he
  exact ⟨_, rfl, _, _, _, [], _, [], hW', trodAll_mk1 (shut_bool Try.underlying4 _), (trodAll_cons_mk (Below.trod laid_out (by kernel_rfl) (of_decide_eq_true (by kernel_rfl)) zk0 bel zl0) trodAll_mk0), rfl, bel.frame _, fun h => by cases h⟩

/-- The statement. -/
theorem FnFillPossible_holds : Rows.FnFillPossibleSaid :=
  OpenClaim.holds_of_wide 15 Try.f15 rfl rfl rfl rfl rfl rfl rfl ⟨rfl, rfl, rfl, rfl, rfl⟩ rfl rfl rfl rfl rfl (by kernel_rfl) Try.func15 (by kernel_rfl)
    (of_decide_eq_true (by kernel_rfl)) (by unfold Func.isWrapper; first | (rw [if_pos (by decide +kernel)]; kernel_rfl) | (rw [if_neg (by decide +kernel)]; exact ⟨rfl, rfl⟩))
    (fun os started H enc _ => lifted_FnFillPossible os started H enc)
end Go.Proofs.Ytkclecfjpabplaa
