/- The law that there are at least as many lines as forced breaks holds for every code. No condition. -/
import Derived.Test.YtmncdpiojhgcdaaSa
import Derived.Test.YtmncdpiojhgcdaaDrawBb
import Derived.Test.YtmncdpiojhgcdaaLlM
namespace Go.Proofs.Ytmncdpiojhgcdaa
open Go.ChangeShapes Go.WideShapes Go.ChangeAt Go.RowKit
set_option linter.unusedVariables false
set_option maxRecDepth 4000
open Classical

theorem DrawLeastLines_any (w : World) (a : Option Addr) (n c : Nat) (zs : List Int) (h : IsRow .u8 w a n c zs) :
    Calls Try.prog 27 #[.slice a n c] w fun e w' => ∃ (A : Option Addr) (c : Nat) (L : List It) (d t : Int), e = .returned (.tuple #[.slice A L.length c, .int .i64 d, .int .i64 t]) ∧ TO w' 45 w.heap.size A c L ∧ L.length ≤ 23 ∧ (0 ≤ d ∧ d ≤ 10001) ∧ (-1 ≤ t ∧ t ≤ 20000) ∧ Below w.heap.size w w' := by
  go_enter Try.func27, Try.ntmps27
  go_wp2_with fail
  (with_reducible refine (DrawBestBreaks_any _ _ _ _ _ h).mono ?_)
  rintro e u0 ⟨A, c', L, d, t, rfl, hol, hll, hz, htt, hb⟩
  go_wp2
  refine bodyPost_ret (v := .tuple #[.slice A L.length c', .int .i64 d, .int .i64 t]) (by simp [results, Try.results27, go_sem]) rfl ?_
  exact ⟨A, c', L, d, t, rfl, hol, hll, hz, htt, hb⟩
set_option maxHeartbeats 4000000 in
theorem walk_FnLeastForced (a : Option Addr) (n c : Nat) (zs : List Int) (w : World) (hr : IsRow .u8 w a n c zs) :
    Calls Try.prog 5 #[.slice a n c] w fun e w' => e = .returned (.bool true) ∧ Below w.heap.size w w' := by
  have hm := small_row hr
  unfold maxLen at hm
  rcases (by omega : 1048576 < n ∨ n ≤ 1048576) with hn | hn
  · go_enter Try.func5, Try.ntmps5
    go_wp2
    go_ret
    exact ⟨rfl, bl_refl _⟩
  go_enter Try.func5, Try.ntmps5
  go_wp2_with fail
  (with_reducible refine (DrawLeastLines_any _ _ _ _ _ hr).mono ?_)
  rintro e u0 ⟨A, c', L, d, t, rfl, hol, hll, hz, htt, hb⟩
  clear hr
  have TR := fun h => ll_between (L := L) (d := d) (t := t) h
  have LI := fun (u : World) (h1 : TL u A L.length L) => LeastLines_i u A L.length c' L d t h1 (by omega)
  have LS := fun (u : World) (h1 : TL u A L.length L) => LeastLines_s u A L.length c' L d t h1 (by omega)
  have FI := hide (fun (u : World) (h1 : TL u A L.length L) => ForcedBreaks_i u A L.length c' L h1 (by omega))
  have BI := hide (fun (u : World) (h1 : TL u A L.length L) => BreaksOf_i u A L.length c' L h1 (by omega))
  have HT := hide hol.reads
  have HB := hide hb
  obtain ⟨m, hM⟩ : ∃ V, V = llO L d t := ⟨_, rfl⟩
  rw [← hM] at TR LI LS
  have HLI := hide LI
  have HLS := hide LS
  replace TR := hide TR
  clear LI LS hM hol hb hz htt
  rcases (by omega : m = 0 ∨ m ≠ 0) with h0 | h0
  · subst h0
    clear TR
    go_wp2_with fail
    (with_reducible refine (HLI.out _ HT.out).mono ?_)
    rintro e u1 ⟨rfl, hb1⟩
    have HT1 := hide (HT.out.below hb1)
    have HB1 := hide (bl_call hb1 HB.out)
    clear hb1
    go_wp2_with fail
    (with_reducible refine (HLS.out _ HT1.out).mono ?_)
    rintro e u2 ⟨rfl, hb2⟩
    have HT2 := hide (HT1.out.below hb2)
    have HB2 := hide (bl_call hb2 HB1.out)
    clear hb2
    go_wp2_with fail
    (with_reducible refine (HLS.out _ HT2.out).mono ?_)
    rintro e u3 ⟨rfl, hb3⟩
    have HB3 := hide (bl_call hb3 HB2.out)
    clear hb3
    go_wp2
    go_ret
    exact ⟨rfl, HB3.out⟩
  · obtain ⟨t1, t2⟩ := TR.out h0
    obtain ⟨fl, hfl⟩ : ∃ x, x = (fba L).length := ⟨_, rfl⟩
    obtain ⟨bl, hbl⟩ : ∃ x, x = (brO L).length := ⟨_, rfl⟩
    rw [← hfl] at t1
    rw [← hbl] at t2
    have HF := hide hfl
    have HBL := hide hbl
    have t3 : decide ((fl : Int) ≤ m) = true := decide_eq_true t1
    have t4 : decide (m ≤ (bl : Int)) = true := decide_eq_true t2
    clear TR hfl hbl
    go_wp2_with fail
    (with_reducible refine (HLI.out _ HT.out).mono ?_)
    rintro e u1 ⟨rfl, hb1⟩
    have HT1 := hide (HT.out.below hb1)
    have HB1 := hide (bl_call hb1 HB.out)
    clear hb1
    go_wp2_with fail
    (with_reducible refine (HLS.out _ HT1.out).mono ?_)
    rintro e u2 ⟨rfl, hb2⟩
    have HT2 := hide (HT1.out.below hb2)
    have HB2 := hide (bl_call hb2 HB1.out)
    clear hb2
    go_wp2_with fail
    (with_reducible refine (FI.out _ HT2.out).mono ?_)
    rintro e u3 ⟨A3, c3, rfl, ho3, hb3⟩
    rw [← HF.out]
    have HT3 := hide (HT2.out.below hb3)
    have HB3 := hide (bl_call hb3 HB2.out)
    clear hb3 ho3
    go_wp2_with fail
    (with_reducible refine (BI.out _ HT3.out).mono ?_)
    rintro e u4 ⟨A4, c4, rfl, ho4, hb4⟩
    rw [← HBL.out]
    have HB4 := hide (bl_call hb4 HB3.out)
    clear hb4 ho4
    go_wp2
    go_ret
    exact ⟨rfl, HB4.out⟩
set_option maxRecDepth 100000 in
theorem lifted_FnLeastForced (os : Os) (started : os.Started) (H : Type) (enc : TypeId × Value → H) :
    ReturnsInHanded {} Try.checked os 5 .any (Rows.fnLeastForcedSpec.pre6 enc Try.prog Try.f5 Rows.fnLeastForcedRow.domain false) (Rows.fnLeastForcedSpec.post enc Try.prog Try.f5 false true false false) := by
  refine returnsInHanded_of_change (C := Try.checked) own_knob started (by kernel_rfl) Try.func5
    (ChangeSpec.witness6 (enc := enc) (C := Try.checked) false ⟨#[], #[.slice none 0 0], []⟩ 8 (by kernel_rfl) (by kernel_rfl) (by kernel_rfl) (by kernel_rfl)) ?_
  intro W base args ds gs before hval0 hW hcnd _
  have hval : ∀ (j : Nat) t v, Try.f5.params[j]? = some t → args[j]? = some v → Value.okWide Try.prog W .any base t v := hval0
  have hW' := hW
  obtain ⟨p, q, hA0, hV, rfl, hfz, hnd⟩ := hW
  have hA : DataW.TrodAll enc Try.prog W 0 (fun _ => true) true Try.f5.params.toList args.toList ds p := hA0
  rw [Try.params5] at hA hval
  obtain ⟨v0, vs0, d0, ds0, p0, q0, hargs, rfl, rfl, zh0, r0⟩ := trodAll_cons hA
  obtain ⟨rfl, rfl, rfl⟩ := trodAll_nil r0
  obtain rfl : args = #[v0] := by cases args; simp_all
  obtain ⟨rfl, rfl⟩ := trodVars_none hV
  have zk0 := zh0
  have zl0 : ∀ x ∈ p0, x.block < W.heap.size := by obtain ⟨m, hm⟩ := zk0; exact DataW.trod_lt m _ _ _ hm
  clear hA0 hval0
  obtain ⟨a_code, n_code, c_code, rfl⟩ := okWide_slice Try.underlying29 (hval 0 29 v0 rfl rfl)
  obtain ⟨code, w_code⟩ := isRow_of Try.underlying29 Try.underlying5 (by kernel_rfl) zh0
  refine (walk_FnLeastForced a_code n_code c_code code W w_code).mono fun e W' ⟨he, bel⟩ => ?_
  subst he
  exact ⟨_, rfl, _, _, _, [], _, [], hW', trodAll_mk1 (shut_bool Try.underlying4 _), (trodAll_cons_mk (Below.trod laid_out (by kernel_rfl) (of_decide_eq_true (by kernel_rfl)) zk0 bel zl0) trodAll_mk0), rfl, bel.frame _, fun h => by cases h⟩

/-- The statement. -/
theorem FnLeastForced_holds : Rows.FnLeastForcedSaid :=
  OpenClaim.holds_of_wide 5 Try.f5 rfl rfl rfl rfl rfl rfl rfl ⟨rfl, rfl, rfl, rfl, rfl⟩ rfl rfl rfl rfl rfl (by kernel_rfl) Try.func5 (by unfold joinedFacts; rw [may_enter, lifts_final, make_cut]; kernel_rfl)
    (of_decide_eq_true (by kernel_rfl)) (by unfold Func.isWrapper; first | (rw [if_pos (by decide +kernel)]; kernel_rfl) | (rw [if_neg (by decide +kernel)]; exact ⟨rfl, rfl⟩))
    (fun os started H enc _ => lifted_FnLeastForced os started H enc)
end Go.Proofs.Ytmncdpiojhgcdaa
