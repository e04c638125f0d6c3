/- The law FnWrapBest holds at every input: no accepted lines cost less than those of WrapWords. No condition. -/
import Derived.Test.YtmljmcckkbomcaaLwP
namespace Go.Proofs.Ytmljmcckkbomcaa
open Go.ChangeShapes Go.WideShapes Go.ChangeAt Go.RowKit
set_option linter.unusedVariables false
set_option linter.unusedSimpArgs false
open Classical

set_option maxRecDepth 8000 in
set_option maxHeartbeats 4000000 in
theorem walk_FnWrapBest (a : Option Addr) (n c : Nat) (zs : List Int) (w : World) (hr : IsRow .u8 w a n c zs) :
    Calls Try.prog 7 #[.slice a n c] w fun e w' => e = .returned (.bool true) ∧ Below w.heap.size w w' := by
  have hm := small_rowl hr
  unfold maxLen at hm
  rcases (by omega : 1048576 < n ∨ n ≤ 1048576) with hn | hn
  · go_enter Try.func7, Try.ntmps7
    go_wp2
    go_ret
    exact ⟨rfl, bl_refl _⟩
  go_enter Try.func7, Try.ntmps7
  go_wp2_with fail
  (with_reducible refine (DrawWrapCost_any _ _ _ _ _ hr).mono ?_)
  rintro e u0 ⟨A, cc, l, wd, B, d, E, rfl, hol, hll, hwq, ⟨wd0, wd1⟩, hoe, hel, hb⟩
  clear hr
  have R := hide hol.reads
  have RE := hide hoe.reads
  have HSZ := hide (fun k (hk : k < l.length) => show (sg l k).size ≤ 1048576 by have := hwq k hk; omega)
  have HB := hide hb
  have hcap := hol.cap2
  clear hol hb hwq hoe
  have CC := hide (fun (V : World) (h : SL V A l.length l) (hE : IL V B E.length E) => WrapCost_i V A B l.length cc E.length d l wd E h hcap HSZ.out (by omega) hE (by omega))
  have SC := hide (fun (V : World) (h : SL V A l.length l) (hE : IL V B E.length E) => WrapCost_s V A B l.length cc E.length d l wd E h hcap HSZ.out (by omega) hE (by omega))
  have FACT := hide (lc_le (l := l) (wd := wd) (E := E))
  obtain ⟨t, ht⟩ : ∃ t, t = wcO l wd E := ⟨_, rfl⟩
  rw [← ht] at CC SC FACT
  clear ht
  obtain ⟨t1, t2⟩ := t
  dsimp only at FACT
  cases t2
  · clear FACT
    go_wp2_with fail
    (with_reducible refine (CC.out _ R.out RE.out).mono ?_)
    rintro e u1 ⟨rfl, hb1⟩
    have HB1 := hide (bl_call hb1 HB.out)
    have R1 := hide (R.out.below hb1)
    have RE1 := hide (RE.out.below hb1)
    clear hb1
    go_wp2_with fail
    (with_reducible refine (SC.out _ R1.out RE1.out).mono ?_)
    rintro e u2 ⟨rfl, j2, rfl⟩
    go_wp2
    go_ret
    exact ⟨bool_ret (by simp), bl_drewN HB1.out _⟩
  · obtain ⟨q, qle⟩ := FACT.out rfl
    have CI := hide (fun (V : World) (h : SL V A l.length l) => WrapWords_i V A l.length cc l wd h hcap HSZ.out (by omega))
    have WC := hide (fun (V : World) (B : Option Addr) (d : Nat) (h : SL V A l.length l) (hE : IL V B (wwO l wd).length (wwO l wd)) => WrapCost_i V A B l.length cc (wwO l wd).length d l wd (wwO l wd) h hcap HSZ.out (by omega) hE (by have := wwO_len (l := l) (wd := wd); omega))
    have hwc : wcO l wd (wwO l wd) = (lc l wd, true) := by rw [wwO_yes q]; exact wW_cost q
    rw [hwc] at WC
    unfold RetI at CI
    obtain ⟨F, hF⟩ : ∃ F, F = wwO l wd := ⟨_, rfl⟩
    rw [← hF] at CI WC
    obtain ⟨m, hm'⟩ : ∃ m, m = lc l wd := ⟨_, rfl⟩
    rw [← hm'] at WC qle
    clear hF hwc FACT q hm'
    go_wp2_with fail
    (with_reducible refine (CC.out _ R.out RE.out).mono ?_)
    rintro e u1 ⟨rfl, hb1⟩
    have HB1 := hide (bl_call hb1 HB.out)
    have R1 := hide (R.out.below hb1)
    have RE1 := hide (RE.out.below hb1)
    clear hb1
    go_wp2_with fail
    (with_reducible refine (SC.out _ R1.out RE1.out).mono ?_)
    rintro e u2 ⟨rfl, j2, rfl⟩
    go_wp2_with fail
    (with_reducible refine (CI.out _ (R1.out.drewN j2)).mono ?_)
    rintro e u3 ⟨A3, c3, rfl, ho3, hb3⟩
    have HB3 := hide (bl_call hb3 (bl_drewN HB1.out j2))
    have R3 := hide ((R1.out.drewN j2).below hb3)
    have E3 := hide ho3.reads
    clear hb3 ho3
    go_wp2_with fail
    (with_reducible refine (WC.out _ _ _ R3.out E3.out).mono ?_)
    rintro e u4 ⟨rfl, hb4⟩
    have HB4 := hide (bl_call hb4 HB3.out)
    clear hb4
    go_wp2
    go_ret
    exact ⟨bool_ret (by simp; try omega), HB4.out⟩
set_option maxRecDepth 100000 in
theorem lifted_FnWrapBest (os : Os) (started : os.Started) (H : Type) (enc : TypeId × Value → H) :
    ReturnsInHanded {} Try.checked os 7 .any (Rows.fnWrapBestSpec.pre6 enc Try.prog Try.f7 Rows.fnWrapBestRow.domain false) (Rows.fnWrapBestSpec.post enc Try.prog Try.f7 false true false false) := by
  refine returnsInHanded_of_change (C := Try.checked) own_knob started (by kernel_rfl) Try.func7
    (ChangeSpec.witness6 (enc := enc) (C := Try.checked) false ⟨#[], #[.slice none 0 0], []⟩ 8 (by kernel_rfl) (by kernel_rfl) (by kernel_rfl) (by kernel_rfl)) ?_
  intro W base args ds gs before hval0 hW hcnd _
  have hval : ∀ (j : Nat) t v, Try.f7.params[j]? = some t → args[j]? = some v → Value.okWide Try.prog W .any base t v := hval0
  have hW' := hW
  obtain ⟨p, q, hA0, hV, rfl, hfz, hnd⟩ := hW
  have hA : DataW.TrodAll enc Try.prog W 0 (fun _ => true) true Try.f7.params.toList args.toList ds p := hA0
  rw [Try.params7] at hA hval
  obtain ⟨v0, vs0, d0, ds0, p0, q0, hargs, rfl, rfl, zh0, r0⟩ := trodAll_cons hA
  obtain ⟨rfl, rfl, rfl⟩ := trodAll_nil r0
  obtain rfl : args = #[v0] := by cases args; simp_all
  obtain ⟨rfl, rfl⟩ := trodVars_none hV
  have zk0 := zh0
  have zl0 : ∀ x ∈ p0, x.block < W.heap.size := by obtain ⟨m, hm⟩ := zk0; exact DataW.trod_lt m _ _ _ hm
  clear hA0 hval0
  obtain ⟨a_code, n_code, c_code, rfl⟩ := okWide_slice Try.underlying36 (hval 0 36 v0 rfl rfl)
  obtain ⟨code, w_code⟩ := isRow_of Try.underlying36 Try.underlying5 (by kernel_rfl) zh0
  refine (walk_FnWrapBest a_code n_code c_code code W w_code).mono fun e W' ⟨he, bel⟩ => ?_
  subst he
  exact ⟨_, rfl, _, _, _, [], _, [], hW', trodAll_mk1 (shut_bool Try.underlying4 _), (trodAll_cons_mk (Below.trod laid_out (by kernel_rfl) (of_decide_eq_true (by kernel_rfl)) zk0 bel zl0) trodAll_mk0), rfl, bel.frame _, fun h => by cases h⟩

/-- The statement. -/
theorem FnWrapBest_holds : Rows.FnWrapBestSaid :=
  OpenClaim.holds_of_wide 7 Try.f7 rfl rfl rfl rfl rfl rfl rfl ⟨rfl, rfl, rfl, rfl, rfl⟩ rfl rfl rfl rfl rfl (by kernel_rfl) Try.func7 (by kernel_rfl)
    (of_decide_eq_true (by kernel_rfl)) (by unfold Func.isWrapper; first | (rw [if_pos (by decide +kernel)]; kernel_rfl) | (rw [if_neg (by decide +kernel)]; exact ⟨rfl, rfl⟩))
    (fun os started H enc _ => lifted_FnWrapBest os started H enc)
end Go.Proofs.Ytmljmcckkbomcaa
