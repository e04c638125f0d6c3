/- The law on widths of glyphs holds for every code: without kerns the widths add up. No condition. -/
import Derived.Test.YtlfhfbeacleggabDrawFr
import Derived.Test.YtlfhfbeacleggabFoP
import Derived.Test.YtlfhfbeacleggabGWidL
import Derived.Test.YtlfhfbeacleggabValFont
import Derived.BigQuiet
import Derived.Deep.QuietTactic
namespace Go.Proofs.Ytlfhfbeacleggab
open Go.ChangeShapes Go.WideShapes Go.ChangeAt Go.RowKit
set_option linter.unusedVariables false
set_option linter.unusedSimpArgs false
set_option maxRecDepth 4000
open Classical

theorem GTo.snoc {l : List Int} {k : Nat} (h : GTo l k) (h0 : 0 ≤ ng l k) (h1 : ng l k ≤ 35) : GTo l (k + 1) := fun j hj => by
  rcases (by omega : j < k ∨ j = k) with q | q
  · exact h j q
  · subst q
    exact ⟨h0, h1⟩
theorem gwid_plain {f : Ft} (h : fok f = true) {l : List Int} (hl : l.length ≤ 20) (hg : GTo l l.length) : gwid (noKL f) l = wS f.W l l.length := by
  rw [gwid_yes ⟨fok_noKL h, hl, hg⟩, wsum_noKL]
set_option maxHeartbeats 4000000 in
theorem walk_FnGlyphsWidth (a : Option Addr) (n c : Nat) (zs : List Int) (w : World) (hr : IsRow .u8 w a n c zs) :
    Calls Try.prog 5 #[.slice a n c] w fun e w' => e = .returned (.bool true) ∧ Below w.heap.size w w' := by
  have hm := small_row hr
  unfold maxLen at hm
  rcases (by omega : 1048576 < n ∨ n ≤ 1048576) with hn | hn
  · go_enter Try.func5, Try.ntmps5
    go_wp2
    go_ret
    exact ⟨rfl, bl_refl _⟩
  go_enter Try.func5, Try.ntmps5
  go_wp2_with fail
  (with_reducible refine (DrawGlyphsWidth_any _ _ _ _ _ hr).mono ?_)
  rintro e u0 ⟨AW, cW, AK, cK, AL, cL, f, A, cc, l, rfl, hfr, hW, hK, hL, hl, hil, hb⟩
  clear hr
  have HF := hide hfr
  have HI := hide hil
  have HB := hide hb
  have CI := hide (fun (u : World) (hh : FR u (fv AW f.W.length cW f.a f.b f.c f.h AK f.K.length cK AL f.L.length cL) f) (ha : IL u A l.length l) => GlyphsWidth_i u _ f A l.length cc l hh ha (by omega) (by omega) (by omega) (by omega))
  have CS := hide (fun (u : World) (hh : FR u (fv AW f.W.length cW f.a f.b f.c f.h AK f.K.length cK AL f.L.length cL) f) (ha : IL u A l.length l) => GlyphsWidth_s u _ f A l.length cc l hh ha (by omega) (by omega) (by omega) (by omega))
  have VF := hide (fun (u : World) (hh : FR u (fv AW f.W.length cW f.a f.b f.c f.h AK f.K.length cK AL f.L.length cL) f) => ValidFont_i u _ f hh (by omega) (by omega) (by omega))
  have CN := hide (fun (u : World) (hh : FR u (fv AW f.W.length cW f.a f.b f.c f.h none 0 0 none 0 0) (noKL f)) (ha : IL u A l.length l) => GlyphsWidth_i u _ (noKL f) A l.length cc l hh ha (by show f.W.length ≤ _; omega) (by show 0 ≤ _; omega) (by show 0 ≤ _; omega) (by omega))
  have BAD := hide (fun (j : Nat) (hj : j < l.length) (h : ¬ (0 ≤ ng l j ∧ ng l j ≤ 35)) => gwid_bad (f := f) hj h)
  obtain ⟨x, hx⟩ : ∃ x, x = gwid f l := ⟨_, rfl⟩
  rw [← hx] at CI CS BAD
  obtain ⟨ok, hok⟩ : ∃ ok, ok = fok f := ⟨_, rfl⟩
  rw [← hok] at VF
  have HOK := hide hok
  clear hx hok hb hil hfr
  go_wp2_with fail
  (with_reducible refine (CI.out _ (HF.out.below (by (repeat' (first | with_reducible exact bl_refl _ | with_reducible assumption | with_reducible refine bl_alloc ?_ _ | with_reducible refine bl_set ?_ ?_ _ | with_reducible refine bl_drewN ?_ _ | with_reducible refine bl_drew ?_ | with_reducible refine bl_call (by assumption) ?_)); (all_goals (first | omega | (simp; done) | (simp; omega))))) (HI.out.below (by (repeat' (first | with_reducible exact bl_refl _ | with_reducible assumption | with_reducible refine bl_alloc ?_ _ | with_reducible refine bl_set ?_ ?_ _ | with_reducible refine bl_drewN ?_ _ | with_reducible refine bl_drew ?_ | with_reducible refine bl_call (by assumption) ?_)); (all_goals (first | omega | (simp; done) | (simp; omega)))))).mono ?_)
  rintro e u1 ⟨rfl, hb1⟩
  obtain ⟨hf1, hb1', -, -⟩ := ret_cellB hb1 (by simp)
  have HX1 := hide hf1
  have HB1 := hide (bl_call hb1' HB.out)
  have F1 := hide (HF.out.below hb1')
  have T1 := hide (HI.out.below hb1')
  clear hf1 hb1 hb1' HF HI CI HB
  (have c0 := HX1.out.c0; have c1 := HX1.out.c1; have c2 := HX1.out.c2; have c3 := HX1.out.c3; have c4 := HX1.out.c4; have c5 := HX1.out.c5; have c6 := HX1.out.c6)
  obtain ⟨b, hbe⟩ : ∃ b, b = u0.heap.size := ⟨_, rfl⟩
  rw [← hbe] at c0 c1 c2 c3 c4 c5 c6 ⊢
  clear hbe HX1
  go_wp2_with fail
  (with_reducible refine (CS.out _ F1.out T1.out).mono ?_)
  rintro e u2 ⟨rfl, hb2⟩
  (replace c0 := keep_cell hb2 c0; replace c1 := keep_cell hb2 c1; replace c2 := keep_cell hb2 c2; replace c3 := keep_cell hb2 c3; replace c4 := keep_cell hb2 c4; replace c5 := keep_cell hb2 c5; replace c6 := keep_cell hb2 c6)
  have HB2 := hide (bl_call hb2 HB1.out)
  have F2 := hide (F1.out.below hb2)
  have T2 := hide (T1.out.below hb2)
  clear hb2 HB1 F1 T1
  have gx : (x != x) = false := by simp
  go_wp2_with fail
  (with_reducible refine (VF.out _ F2.out).mono ?_)
  rintro e u3 ⟨rfl, hb3⟩
  (replace c0 := keep_cell hb3 c0; replace c1 := keep_cell hb3 c1; replace c2 := keep_cell hb3 c2; replace c3 := keep_cell hb3 c3; replace c4 := keep_cell hb3 c4; replace c5 := keep_cell hb3 c5; replace c6 := keep_cell hb3 c6)
  have HB3 := hide (bl_call hb3 HB2.out)
  have F3 := hide (F2.out.below hb3)
  have T3 := hide (T2.out.below hb3)
  clear hb3 HB2 F2 T2
  cases ok
  · go_wp2_with fail
    (with_reducible refine (CS.out _ F3.out T3.out).mono ?_)
    rintro e u4 ⟨rfl, hb4⟩
    go_wp2
    go_ret
    exact ⟨rfl, bl_call hb4 HB3.out⟩
  · rcases (by omega : 20 < l.length ∨ l.length ≤ 20) with hl2 | hl2
    · go_wp2_with fail
      (with_reducible refine (CS.out _ F3.out T3.out).mono ?_)
      rintro e u4 ⟨rfl, hb4⟩
      go_wp2
      go_ret
      exact ⟨rfl, bl_call hb4 HB3.out⟩
    · have FP := hide (FR.plainKL F3.out)
      have RW := hide (FR.rows F3.out).1
      have GP := hide (fun (hg : GTo l l.length) => gwid_plain HOK.out.symm hl2 hg)
      have WB := hide (fun (k : Nat) (hg : GTo l k) => wS_bd HOK.out.symm hg)
      have H36 := hide (fok_iff.1 HOK.out.symm).1
      clear F3 CS VF HOK
      go_wp2
      have HX := hide (fb_new u3 (.slice AW f.W.length cW) (.int .i64 f.a) (.int .i64 f.b) (.int .i64 f.c) (.int .i64 f.h) (.slice none 0 0) (.slice none 0 0) 28)
      obtain ⟨wl, hwl⟩ : ∃ wl, wl = u3.alloc (.cells #[.slice AW f.W.length cW, .int .i64 f.a, .int .i64 f.b, .int .i64 f.c, .int .i64 f.h, .slice none 0 0, .slice none 0 0] 28) := ⟨_, rfl⟩
      have hb4 : Below u3.heap.size u3 wl := by rw [hwl]; exact bl_alloc (bl_refl _) _
      rw [← hwl] at HX ⊢
      (replace c0 := keep_cell hb4 c0; replace c1 := keep_cell hb4 c1; replace c2 := keep_cell hb4 c2; replace c3 := keep_cell hb4 c3; replace c4 := keep_cell hb4 c4; replace c5 := keep_cell hb4 c5; replace c6 := keep_cell hb4 c6)
      have HB4 := hide (bl_call hb4 HB3.out)
      have FP4 := hide (FP.out.below hb4)
      have T4 := hide (T3.out.below hb4)
      have RW4 := hide (RW.out.below hb4)
      obtain ⟨b6, hb6⟩ : ∃ b6, b6 = u3.heap.size := ⟨_, rfl⟩
      rw [← hb6] at HX ⊢
      have k0 := HX.out.c0
      have k1 := HX.out.c1
      have k2 := HX.out.c2
      have k3 := HX.out.c3
      have k4 := HX.out.c4
      have k5 := HX.out.c5
      have k6 := HX.out.c6
      clear hb6 hwl hb4 HX HB3 FP T3 RW
      go_loopw [7, 8] (fun v i u => ∃ (k : Nat) (t : Int) (j : Nat), k ≤ l.length ∧ i = .int .i64 k ∧ v = .int .i64 t ∧ t = wS f.W l k ∧ GTo l k ∧ u = wl.drewN j) (fun _ i _ => l.length - (intOf i).toNat)
      case atStart => exact ⟨0, 0, 0, by omega, rfl, rfl, rfl, fun j hj => by omega, rfl⟩
      case round =>
        obtain ⟨k, t, j, hk, rfl, rfl, ht, hg, rfl⟩ := hrel
        have tb := WB.out k hg
        rw [← ht] at tb
        have HT := hide ht
        have HG := hide hg
        clear ht hg
        by_cases hlt : k < l.length
        · obtain ⟨b1, o1, rfl, _, hc1⟩ := T4.out.at_ hlt
          have BADk := hide (BAD.out k hlt)
          have STEP := hide (show wS f.W l (k + 1) = wS f.W l k + ng f.W (ng l k).toNat from rfl)
          have SN := hide (fun h0 h1 => GTo.snoc HG.out (k := k) h0 h1)
          obtain ⟨z, hz⟩ : ∃ z, z = ng l k := ⟨_, rfl⟩
          rw [← hz] at hc1 BADk STEP SN
          clear hz
          rcases (by omega : z < 0 ∨ 36 ≤ z ∨ 0 ≤ z ∧ z ≤ 35) with q | q | ⟨q1, q2⟩
          · have x0 := BADk.out (by omega)
            subst x0
            go_wp2
            go_ret
            exact ⟨rfl, bl_drewN HB4.out j⟩
          · have x0 := BADk.out (by omega)
            subst x0
            go_wp2
            go_ret
            exact ⟨rfl, bl_drewN HB4.out j⟩
          · have G2 := hide (SN.out q1 q2)
            obtain ⟨y, rfl⟩ := Int.eq_ofNat_of_zero_le q1
            have hy : y < f.W.length := by have := H36.out; omega
            obtain ⟨b2, o2, rfl, _, hc2⟩ := RW4.out.at_ hy
            have S2 := hide (show wS f.W l (k + 1) = t + ng f.W y by rw [STEP.out, HT.out]; simp)
            have tb2 := WB.out (k + 1) G2.out
            rw [S2.out] at tb2
            obtain ⟨v, hv⟩ : ∃ v, v = ng f.W y := ⟨_, rfl⟩
            rw [← hv] at hc2 S2 tb2
            clear hv
            go_wp2_with fail
            go_quiet (fail)
            go_wp2
            go_roundw
            case rel => exact ⟨k + 1, t + v, _, by omega, by go_num, rfl, S2.out.symm, G2.out, rfl⟩
            case measure => simp [intOf]; omega
        · have hkl : k = l.length := by omega
          have E := hide (show gwid (noKL f) l = t by rw [GP.out (hkl ▸ HG.out), HT.out, hkl])
          rw [E.out] at CN
          clear hkl
          go_wp2_with fail
          (with_reducible refine (CN.out _ (FP4.out.drewN j) (T4.out.drewN j)).mono ?_)
          rintro e u5 ⟨rfl, hb5⟩
          go_wp2
          go_ret
          exact ⟨rfl, bl_call hb5 (bl_drewN HB4.out j)⟩
set_option maxRecDepth 100000 in
theorem lifted_FnGlyphsWidth (os : Os) (started : os.Started) (H : Type) (enc : TypeId × Value → H) :
    ReturnsInHanded {} Try.checked os 5 .any (Rows.fnGlyphsWidthSpec.pre6 enc Try.prog Try.f5 Rows.fnGlyphsWidthRow.domain false) (Rows.fnGlyphsWidthSpec.post enc Try.prog Try.f5 false true false false) := by
  refine returnsInHanded_of_change (C := Try.checked) own_knob started (by kernel_rfl) Try.func5
    (ChangeSpec.witness6 (enc := enc) (C := Try.checked) false ⟨#[], #[.slice none 0 0], []⟩ 8 (by kernel_rfl) (by kernel_rfl) (by kernel_rfl) (by kernel_rfl)) ?_
  intro W base args ds gs before hval0 hW hcnd _
  have hval : ∀ (j : Nat) t v, Try.f5.params[j]? = some t → args[j]? = some v → Value.okWide Try.prog W .any base t v := hval0
  have hW' := hW
  obtain ⟨p, q, hA0, hV, rfl, hfz, hnd⟩ := hW
  have hA : DataW.TrodAll enc Try.prog W 0 (fun _ => true) true Try.f5.params.toList args.toList ds p := hA0
  rw [Try.params5] at hA hval
  obtain ⟨v0, vs0, d0, ds0, p0, q0, hargs, rfl, rfl, zh0, r0⟩ := trodAll_cons hA
  obtain ⟨rfl, rfl, rfl⟩ := trodAll_nil r0
  obtain rfl : args = #[v0] := by cases args; simp_all
  obtain ⟨rfl, rfl⟩ := trodVars_none hV
  have zk0 := zh0
  have zl0 : ∀ x ∈ p0, x.block < W.heap.size := by obtain ⟨m, hm⟩ := zk0; exact DataW.trod_lt m _ _ _ hm
  clear hA0 hval0
  obtain ⟨a_code, n_code, c_code, rfl⟩ := okWide_slice Try.underlying22 (hval 0 22 v0 rfl rfl)
  obtain ⟨code, w_code⟩ := isRow_of Try.underlying22 Try.underlying5 (by kernel_rfl) zh0
  refine (walk_FnGlyphsWidth a_code n_code c_code code W w_code).mono fun e W' ⟨he, bel⟩ => ?_
  subst he
  exact ⟨_, rfl, _, _, _, [], _, [], hW', trodAll_mk1 (shut_bool Try.underlying4 _), (trodAll_cons_mk (Below.trod laid_out (by kernel_rfl) (of_decide_eq_true (by kernel_rfl)) zk0 bel zl0) trodAll_mk0), rfl, bel.frame _, fun h => by cases h⟩

/-- The statement. -/
theorem FnGlyphsWidth_holds : Rows.FnGlyphsWidthSaid :=
  OpenClaim.holds_of_wide 5 Try.f5 rfl rfl rfl rfl rfl rfl rfl ⟨rfl, rfl, rfl, rfl, rfl⟩ rfl rfl rfl rfl rfl (by kernel_rfl) Try.func5 (by kernel_rfl)
    (of_decide_eq_true (by kernel_rfl)) (by unfold Func.isWrapper; first | (rw [if_pos (by decide +kernel)]; kernel_rfl) | (rw [if_neg (by decide +kernel)]; exact ⟨rfl, rfl⟩))
    (fun os started H enc _ => lifted_FnGlyphsWidth os started H enc)
end Go.Proofs.Ytlfhfbeacleggab
