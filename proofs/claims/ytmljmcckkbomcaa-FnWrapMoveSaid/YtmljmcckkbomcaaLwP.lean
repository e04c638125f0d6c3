/- The law FnWrapWords holds at every input: wrapped lines are accepted. No condition. -/
import Derived.Test.YtmljmcckkbomcaaJn
import Derived.Test.YtmljmcckkbomcaaLwM
import Derived.Test.YtmljmcckkbomcaaDrawWw
namespace Go.Proofs.Ytmljmcckkbomcaa
open Go.ChangeShapes Go.WideShapes Go.ChangeAt Go.RowKit
set_option linter.unusedVariables false
set_option linter.unusedSimpArgs false
open Classical

theorem small_rowl {w : World} {a : Option Addr} {n c : Nat} {zs : List Int} (hr : IsRow .u8 w a n c zs) : n ≤ maxLen := by
  rcases hr with ⟨_, rfl, _, _⟩ | ⟨_, _, hl, hm, _⟩
  · exact Nat.zero_le _
  · omega
theorem OS.cap2 {w : World} {e : TypeId} {B c : Nat} {A : Option Addr} {l : List ByteArray} (h : OS w e B A c l) : l.length ≤ c := by
  rcases Nat.eq_zero_or_pos l.length with h0 | h0
  · omega
  · obtain ⟨g, _, _, _, hc, _⟩ := h.form h0
    exact hc
set_option maxRecDepth 8000 in
set_option maxHeartbeats 4000000 in
theorem walk_FnWrapWords (a : Option Addr) (n c : Nat) (zs : List Int) (w : World) (hr : IsRow .u8 w a n c zs) :
    Calls Try.prog 6 #[.slice a n c] w fun e w' => e = .returned (.bool true) ∧ Below w.heap.size w w' := by
  have hm := small_rowl hr
  unfold maxLen at hm
  rcases (by omega : 1048576 < n ∨ n ≤ 1048576) with hn | hn
  · go_enter Try.func6, Try.ntmps6
    go_wp2
    go_ret
    exact ⟨rfl, bl_refl _⟩
  go_enter Try.func6, Try.ntmps6
  go_wp2_with fail
  (with_reducible refine (DrawWrapWords_any _ _ _ _ _ hr).mono ?_)
  rintro e u0 ⟨A, cc, l, wd, rfl, hol, hll, hwq, ⟨wd0, wd1⟩, hb⟩
  clear hr
  have R := hide hol.reads
  have HSZ := hide (fun k (hk : k < l.length) => show (sg l k).size ≤ 1048576 by have := hwq k hk; omega)
  have HB := hide hb
  have hcap := hol.cap2
  clear hol hb hwq
  have CI := hide (fun (V : World) (h : SL V A l.length l) => WrapWords_i V A l.length cc l wd h hcap HSZ.out (by omega))
  have CS := hide (fun (V : World) (h : SL V A l.length l) => WrapWords_s V A l.length cc l wd h hcap HSZ.out (by omega))
  have WC := hide (fun (V : World) (B : Option Addr) (d : Nat) (h : SL V A l.length l) (hE : IL V B (wwO l wd).length (wwO l wd)) => WrapCost_i V A B l.length cc (wwO l wd).length d l wd (wwO l wd) h hcap HSZ.out (by omega) hE (by have := wwO_len (l := l) (wd := wd); omega))
  have hlen := wwO_len (l := l) (wd := wd)
  have FACT := hide (fun (h : wwO l wd ≠ []) => show ∃ z, 0 ≤ z ∧ wcO l wd (wwO l wd) = (z, true) ∧ ng (wwO l wd) ((wwO l wd).length - 1) = l.length by
    cases q : (wok l && inB wd 20 60) with
    | false => exact absurd (wwO_no q) h
    | true =>
      rw [wwO_yes q] at h ⊢
      exact ⟨_, lc_pos q, wW_cost q, wW_last q h⟩)
  unfold RetI at CI CS
  obtain ⟨E, hE⟩ : ∃ E, E = wwO l wd := ⟨_, rfl⟩
  rw [← hE] at CI CS WC FACT hlen
  clear hE
  go_wp2_with fail
  (with_reducible refine (CI.out _ R.out).mono ?_)
  rintro e u1 ⟨A1, c1, rfl, ho1, hb1⟩
  have R1 := hide (R.out.below hb1)
  have HB1 := hide (bl_call hb1 HB.out)
  clear hb1
  have BRANCH := hide (fun (u : World) (h : SL u A l.length l) => CS.out u h)
  go_wp2_with fail
  (with_reducible refine (CS.out _ R1.out).mono ?_)
  rintro e u2 ⟨A2, c2, rfl, ho2, hb2⟩
  have ho1 := ho1.below hb2
  have R2 := hide (R1.out.below hb2)
  have HB2 := hide (bl_call hb2 HB1.out)
  clear hb2
  have E1 := hide ho1.reads
  have E2 := hide ho2.reads
  clear ho1 ho2
  by_cases hz : E = []
  · have q0 : ((E.length : Int) == 0) = true := by rw [hz]; rfl
    clear hz FACT WC
    go_wp2_with fail
    (with_reducible refine (eqInts_l _ _ _ _ _ _ _ E E E1.out E2.out (by omega) (by omega)).mono ?_)
    rintro e u3 ⟨rfl, j3, rfl⟩
    simp only [decide_true]
    go_wp2_with fail
    (with_reducible refine (CS.out _ (R2.out.drewN j3)).mono ?_)
    rintro e u4 ⟨A4, c4, rfl, ho4, hb4⟩
    have HB4 := hide (bl_call hb4 (bl_drewN HB2.out j3))
    have E3 := hide ((E1.out.drewN j3).below hb4)
    clear hb4
    go_wp2_with fail
    (with_reducible refine (eqInts_l _ _ _ _ _ _ _ E E E3.out ho4.reads (by omega) (by omega)).mono ?_)
    rintro e u5 ⟨rfl, j5, rfl⟩
    simp only [decide_true]
    go_wp2
    go_ret
    exact ⟨rfl, bl_drewN HB4.out _⟩
  · obtain ⟨z, hz0, hwc, hlst⟩ := FACT.out hz
    have hlp : ¬ E.length = 0 := fun h => hz (List.eq_nil_of_length_eq_zero h)
    have HZ := hide hz
    rw [hwc] at WC
    have hlst2 : (if E = [] then (-1 : Int) else ng E (E.length - 1)) = l.length := by rw [if_neg hz]; exact hlst
    have HL2 := hide hlst2
    clear hz FACT hwc hlst hlst2
    go_wp2_with fail
    (with_reducible refine (eqInts_l _ _ _ _ _ _ _ E E E1.out E2.out (by omega) (by omega)).mono ?_)
    rintro e u3 ⟨rfl, j3, rfl⟩
    simp only [decide_true]
    go_wp2_with fail
    (with_reducible refine (WC.out _ _ _ (R2.out.drewN j3) (E1.out.drewN j3)).mono ?_)
    rintro e u4 ⟨rfl, hb4⟩
    have HB4 := hide (bl_call hb4 (bl_drewN HB2.out j3))
    have E3 := hide ((E1.out.drewN j3).below hb4)
    clear hb4
    go_wp2_with fail
    (with_reducible refine (last_l _ _ _ _ E E3.out (by omega)).mono ?_)
    rintro e u5 ⟨rfl, rfl⟩
    rw [HL2.out]
    go_wp2
    go_ret
    exact ⟨bool_ret (by simp; try omega), HB4.out⟩
set_option maxRecDepth 100000 in
theorem lifted_FnWrapWords (os : Os) (started : os.Started) (H : Type) (enc : TypeId × Value → H) :
    ReturnsInHanded {} Try.checked os 6 .any (Rows.fnWrapWordsSpec.pre6 enc Try.prog Try.f6 Rows.fnWrapWordsRow.domain false) (Rows.fnWrapWordsSpec.post enc Try.prog Try.f6 false true false false) := by
  refine returnsInHanded_of_change (C := Try.checked) own_knob started (by kernel_rfl) Try.func6
    (ChangeSpec.witness6 (enc := enc) (C := Try.checked) false ⟨#[], #[.slice none 0 0], []⟩ 8 (by kernel_rfl) (by kernel_rfl) (by kernel_rfl) (by kernel_rfl)) ?_
  intro W base args ds gs before hval0 hW hcnd _
  have hval : ∀ (j : Nat) t v, Try.f6.params[j]? = some t → args[j]? = some v → Value.okWide Try.prog W .any base t v := hval0
  have hW' := hW
  obtain ⟨p, q, hA0, hV, rfl, hfz, hnd⟩ := hW
  have hA : DataW.TrodAll enc Try.prog W 0 (fun _ => true) true Try.f6.params.toList args.toList ds p := hA0
  rw [Try.params6] at hA hval
  obtain ⟨v0, vs0, d0, ds0, p0, q0, hargs, rfl, rfl, zh0, r0⟩ := trodAll_cons hA
  obtain ⟨rfl, rfl, rfl⟩ := trodAll_nil r0
  obtain rfl : args = #[v0] := by cases args; simp_all
  obtain ⟨rfl, rfl⟩ := trodVars_none hV
  have zk0 := zh0
  have zl0 : ∀ x ∈ p0, x.block < W.heap.size := by obtain ⟨m, hm⟩ := zk0; exact DataW.trod_lt m _ _ _ hm
  clear hA0 hval0
  obtain ⟨a_code, n_code, c_code, rfl⟩ := okWide_slice Try.underlying36 (hval 0 36 v0 rfl rfl)
  obtain ⟨code, w_code⟩ := isRow_of Try.underlying36 Try.underlying5 (by kernel_rfl) zh0
  refine (walk_FnWrapWords a_code n_code c_code code W w_code).mono fun e W' ⟨he, bel⟩ => ?_
  subst he
  exact ⟨_, rfl, _, _, _, [], _, [], hW', trodAll_mk1 (shut_bool Try.underlying4 _), (trodAll_cons_mk (Below.trod laid_out (by kernel_rfl) (of_decide_eq_true (by kernel_rfl)) zk0 bel zl0) trodAll_mk0), rfl, bel.frame _, fun h => by cases h⟩

/-- The statement. -/
theorem FnWrapWords_holds : Rows.FnWrapWordsSaid :=
  OpenClaim.holds_of_wide 6 Try.f6 rfl rfl rfl rfl rfl rfl rfl ⟨rfl, rfl, rfl, rfl, rfl⟩ rfl rfl rfl rfl rfl (by kernel_rfl) Try.func6 (by unfold joinedFacts; rw [may_enter, lifts_final, make_cut]; kernel_rfl)
    (of_decide_eq_true (by kernel_rfl)) (by unfold Func.isWrapper; first | (rw [if_pos (by decide +kernel)]; kernel_rfl) | (rw [if_neg (by decide +kernel)]; exact ⟨rfl, rfl⟩))
    (fun os started H enc _ => lifted_FnWrapWords os started H enc)
end Go.Proofs.Ytmljmcckkbomcaa
