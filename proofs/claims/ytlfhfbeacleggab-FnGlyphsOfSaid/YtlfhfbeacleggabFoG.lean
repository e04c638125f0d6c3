/- The law on glyphs holds for every code: ligatures shorten words, and without them the glyphs are the letters. No condition. -/
import Derived.Test.YtlfhfbeacleggabFoP
import Derived.BigQuiet
import Derived.Deep.QuietTactic
namespace Go.Proofs.Ytlfhfbeacleggab
open Go.ChangeShapes Go.WideShapes Go.ChangeAt Go.RowKit
set_option linter.unusedVariables false
set_option linter.unusedSimpArgs false
set_option maxRecDepth 4000
open Classical

set_option maxHeartbeats 4000000 in
theorem walk_FnGlyphsOf (a : Option Addr) (n c : Nat) (zs : List Int) (w : World) (hr : IsRow .u8 w a n c zs) :
    Calls Try.prog 3 #[.slice a n c] w fun e w' => e = .returned (.bool true) ∧ Below w.heap.size w w' := by
  have hm := small_row hr
  unfold maxLen at hm
  rcases (by omega : 1048576 < n ∨ n ≤ 1048576) with hn | hn
  · go_enter Try.func3, Try.ntmps3
    go_wp2
    go_ret
    exact ⟨rfl, bl_refl _⟩
  go_enter Try.func3, Try.ntmps3
  go_wp2_with fail
  (with_reducible refine (DrawGlyphsOf_any _ _ _ _ _ hr).mono ?_)
  rintro e u0 ⟨AW, cW, AK, cK, AL, cL, f, s, rfl, ⟨g, hfg, hg⟩, hW, hK, hL, hs, hb⟩
  clear hr
  have HF := hide hfg.reads
  have HB := hide hb
  have CI := hide (fun (u : World) (hh : FR u (fv AW f.W.length cW f.a f.b f.c f.h AK f.K.length cK AL f.L.length cL) f) => GlyphsOf_i u _ f s hh (by omega) (by omega) (by omega) (by omega))
  have CS := hide (fun (u : World) (hh : FR u (fv AW f.W.length cW f.a f.b f.c f.h AK f.K.length cK AL f.L.length cL) f) => GlyphsOf_s u _ f s hh (by omega) (by omega) (by omega) (by omega))
  have G20 := glA_len20 (f := f) (s := s)
  have LTS := hide (fun (q : (glA f s).length ≠ 0) => glA_letters (f := f) (s := s) q)
  have CN := hide (fun (u : World) (hh : FR u (fv AW f.W.length cW f.a f.b f.c f.h AK f.K.length cK none 0 0) (noL f)) => GlyphsOf_i u _ (noL f) s hh (by show f.W.length ≤ _; omega) (by show f.K.length ≤ _; omega) (by show 0 ≤ _; omega) (by omega))
  obtain ⟨M, hM⟩ : ∃ M, M = glA (noL f) s := ⟨_, rfl⟩
  rw [← hM] at LTS CN
  clear hM
  obtain ⟨L, hLg⟩ : ∃ L, L = glA f s := ⟨_, rfl⟩
  rw [← hLg] at CI CS G20 LTS
  have EQ := hide (fun (u : World) (A C : Option Addr) (c d : Nat) (h1 : IL u A L.length L) (h2 : IL u C L.length L) => eqInts_l u A C L.length L.length c d L L h1 h2 (by omega) (by omega))
  simp only [decide_true] at EQ
  clear hLg hb hfg hg
  go_wp2_with fail
  (with_reducible refine (CI.out _ (HF.out.below (by (repeat' (first | with_reducible exact bl_refl _ | with_reducible assumption | with_reducible refine bl_alloc ?_ _ | with_reducible refine bl_set ?_ ?_ _ | with_reducible refine bl_drewN ?_ _ | with_reducible refine bl_drew ?_ | with_reducible refine bl_call (by assumption) ?_)); (all_goals (first | omega | (simp; done) | (simp; omega)))))).mono ?_)
  rintro e u1 ⟨A1, d1, rfl, ho1, hb1⟩
  obtain ⟨hf1, hb1', -, -⟩ := ret_cellB hb1 (by simp)
  have HX1 := hide hf1
  have HB1 := hide (bl_call hb1' HB.out)
  have F1 := hide (HF.out.below hb1')
  have T1 := hide ho1.reads
  clear hf1 hb1 hb1' HF CI HB ho1
  (have c0 := HX1.out.c0; have c1 := HX1.out.c1; have c2 := HX1.out.c2; have c3 := HX1.out.c3; have c4 := HX1.out.c4; have c5 := HX1.out.c5; have c6 := HX1.out.c6)
  obtain ⟨b, hbe⟩ : ∃ b, b = u0.heap.size := ⟨_, rfl⟩
  rw [← hbe] at c0 c1 c2 c3 c4 c5 c6 ⊢
  clear hbe HX1
  go_wp2_with fail
  (with_reducible refine (CS.out _ F1.out).mono ?_)
  rintro e u2 ⟨A2, d2, rfl, ho2, hb2⟩
  (replace c0 := keep_cell hb2 c0; replace c1 := keep_cell hb2 c1; replace c2 := keep_cell hb2 c2; replace c3 := keep_cell hb2 c3; replace c4 := keep_cell hb2 c4; replace c5 := keep_cell hb2 c5; replace c6 := keep_cell hb2 c6)
  have HB2 := hide (bl_call hb2 HB1.out)
  have F2 := hide (F1.out.below hb2)
  have T2 := hide (T1.out.below hb2)
  have O2 := hide ho2.reads
  clear hb2 HB1 F1 T1 ho2
  go_wp2_with fail
  (with_reducible refine (EQ.out _ _ _ _ _ T2.out O2.out).mono ?_)
  rintro e wl ⟨rfl, jd, hjd⟩
  have hb3 : Below u2.heap.size u2 wl := by rw [← hjd]; exact bl_drewN (bl_refl _) jd
  (replace c0 := keep_cell hb3 c0; replace c1 := keep_cell hb3 c1; replace c2 := keep_cell hb3 c2; replace c3 := keep_cell hb3 c3; replace c4 := keep_cell hb3 c4; replace c5 := keep_cell hb3 c5; replace c6 := keep_cell hb3 c6)
  have HB3 := hide (bl_call hb3 HB2.out)
  have F3 := hide (F2.out.below hb3)
  have T3 := hide (T2.out.below hb3)
  clear hb3 hjd HB2 F2 T2 O2
  rcases Nat.eq_zero_or_pos L.length with h0 | h0
  · have g0 : ((L.length : Int) == 0) = true := by rw [h0]; rfl
    have h0i := hide h0
    clear h0
    go_wp2_with fail
    (with_reducible refine (CS.out _ F3.out).mono ?_)
    rintro e u4 ⟨A3, d3, rfl, ho3, hb3⟩
    have HB4 := hide (bl_call hb3 HB3.out)
    have T4 := hide (T3.out.below hb3)
    have O3 := hide ho3.reads
    clear hb3 ho3
    go_wp2_with fail
    (with_reducible refine (EQ.out _ _ _ _ _ T4.out O3.out).mono ?_)
    rintro e u5 ⟨rfl, je, rfl⟩
    go_wp2
    go_ret
    exact ⟨rfl, bl_drewN HB4.out je⟩
  · have g0 : ((L.length : Int) == 0) = false := beq_eq_false_iff_ne.2 (by omega)
    obtain ⟨m1, m2, m3, m4⟩ := LTS.out (by omega)
    have M1 := hide m1
    have M2 := hide m2
    have FP := hide (FR.plainL F3.out)
    clear F3 EQ CS LTS m1 m2
    go_wp2_with fail
    (with_reducible refine (CN.out _ (FP.out.below (by (repeat' (first | with_reducible exact bl_refl _ | with_reducible assumption | with_reducible refine bl_alloc ?_ _ | with_reducible refine bl_set ?_ ?_ _ | with_reducible refine bl_drewN ?_ _ | with_reducible refine bl_drew ?_ | with_reducible refine bl_call (by assumption) ?_)); (all_goals (first | omega | (simp; done) | (simp; omega)))))).mono ?_)
    rintro e w4 ⟨A4, d4, rfl, ho4, hb4⟩
    have HB4 : Hid (Below w.heap.size w w4) := hide (bl_call (bl_call hb4 (bl_alloc (bl_refl _) _)) HB3.out)
    have T4 := hide ho4.reads
    clear hb4 ho4 T3 HB3 FP CN c0 c1 c2 c3 c4 c5 c6
    have hM20 : M.length ≤ 20 := by have := M1.out; omega
    go_wp2
    go_loopw [8] (fun i u => ∃ (k j : Nat), k ≤ M.length ∧ i = .int .i64 k ∧ u = w4.drewN j) (fun i _ => M.length - (intOf i).toNat)
    case atStart => exact ⟨0, 0, by omega, rfl, rfl⟩
    case round =>
      obtain ⟨k, j, hk, rfl, rfl⟩ := hrel
      by_cases hlt : k < M.length
      · obtain ⟨b1, o1, rfl, _, hc1⟩ := T4.out.at_ hlt
        have hks : k < s.size := by have := M1.out; omega
        obtain ⟨e1, l1, l2⟩ := M2.out k hks
        rw [e1] at hc1
        clear e1
        go_wp2_with fail
        go_quiet (fail)
        go_wp2
        go_roundw
        case rel => exact ⟨k + 1, _, by omega, by go_num, rfl⟩
        case measure => simp [intOf]; omega
      · have e1 : ((M.length : Int) == (s.size : Int)) = true := beq_iff_eq.2 (by have := M1.out; omega)
        go_wp2
        go_ret
        exact ⟨rfl, bl_drewN HB4.out j⟩
set_option maxRecDepth 100000 in
theorem lifted_FnGlyphsOf (os : Os) (started : os.Started) (H : Type) (enc : TypeId × Value → H) :
    ReturnsInHanded {} Try.checked os 3 .any (Rows.fnGlyphsOfSpec.pre6 enc Try.prog Try.f3 Rows.fnGlyphsOfRow.domain false) (Rows.fnGlyphsOfSpec.post enc Try.prog Try.f3 false true false false) := by
  refine returnsInHanded_of_change (C := Try.checked) own_knob started (by kernel_rfl) Try.func3
    (ChangeSpec.witness6 (enc := enc) (C := Try.checked) false ⟨#[], #[.slice none 0 0], []⟩ 8 (by kernel_rfl) (by kernel_rfl) (by kernel_rfl) (by kernel_rfl)) ?_
  intro W base args ds gs before hval0 hW hcnd _
  have hval : ∀ (j : Nat) t v, Try.f3.params[j]? = some t → args[j]? = some v → Value.okWide Try.prog W .any base t v := hval0
  have hW' := hW
  obtain ⟨p, q, hA0, hV, rfl, hfz, hnd⟩ := hW
  have hA : DataW.TrodAll enc Try.prog W 0 (fun _ => true) true Try.f3.params.toList args.toList ds p := hA0
  rw [Try.params3] at hA hval
  obtain ⟨v0, vs0, d0, ds0, p0, q0, hargs, rfl, rfl, zh0, r0⟩ := trodAll_cons hA
  obtain ⟨rfl, rfl, rfl⟩ := trodAll_nil r0
  obtain rfl : args = #[v0] := by cases args; simp_all
  obtain ⟨rfl, rfl⟩ := trodVars_none hV
  have zk0 := zh0
  have zl0 : ∀ x ∈ p0, x.block < W.heap.size := by obtain ⟨m, hm⟩ := zk0; exact DataW.trod_lt m _ _ _ hm
  clear hA0 hval0
  obtain ⟨a_code, n_code, c_code, rfl⟩ := okWide_slice Try.underlying22 (hval 0 22 v0 rfl rfl)
  obtain ⟨code, w_code⟩ := isRow_of Try.underlying22 Try.underlying5 (by kernel_rfl) zh0
  refine (walk_FnGlyphsOf a_code n_code c_code code W w_code).mono fun e W' ⟨he, bel⟩ => ?_
  subst he
  exact ⟨_, rfl, _, _, _, [], _, [], hW', trodAll_mk1 (shut_bool Try.underlying4 _), (trodAll_cons_mk (Below.trod laid_out (by kernel_rfl) (of_decide_eq_true (by kernel_rfl)) zk0 bel zl0) trodAll_mk0), rfl, bel.frame _, fun h => by cases h⟩

/-- The statement. -/
theorem FnGlyphsOf_holds : Rows.FnGlyphsOfSaid :=
  OpenClaim.holds_of_wide 3 Try.f3 rfl rfl rfl rfl rfl rfl rfl ⟨rfl, rfl, rfl, rfl, rfl⟩ rfl rfl rfl rfl rfl (by kernel_rfl) Try.func3 (by kernel_rfl)
    (of_decide_eq_true (by kernel_rfl)) (by unfold Func.isWrapper; first | (rw [if_pos (by decide +kernel)]; kernel_rfl) | (rw [if_neg (by decide +kernel)]; exact ⟨rfl, rfl⟩))
    (fun os started H enc _ => lifted_FnGlyphsOf os started H enc)
end Go.Proofs.Ytlfhfbeacleggab
