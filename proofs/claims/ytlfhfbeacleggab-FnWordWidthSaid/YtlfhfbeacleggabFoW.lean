/- The law on words' widths holds for every code: a word is as wide as its glyphs. No condition. -/
import Derived.Test.YtlfhfbeacleggabDrawFq
import Derived.Test.YtlfhfbeacleggabFoM
import Derived.Test.YtlfhfbeacleggabWordL
import Derived.BigQuiet
import Derived.Deep.QuietTactic
namespace Go.Proofs.Ytlfhfbeacleggab
open Go.ChangeShapes Go.WideShapes Go.ChangeAt Go.RowKit
set_option linter.unusedVariables false
set_option linter.unusedSimpArgs false
set_option maxRecDepth 4000
open Classical

theorem wwid_gwid {f : Ft} {s : ByteArray} (h : ¬ wwid f s < 0) : wwid f s = max 0 (gwid f (glA f s)) ∧ (-100000 ≤ gwid f (glA f s) ∧ gwid f (glA f s) ≤ 100000) := by
  by_cases q : fok f = true ∧ okWord s = true
  · obtain ⟨k1, k2, k3⟩ := gl_ok q.1 q.2
    rw [wwid_yes q, gwid_yes ⟨q.1, k2, k3⟩]
    have := wsum_bd q.1 (l := glA f s) (k := (glA f s).length) k3
    exact ⟨rfl, by omega⟩
  · rw [wwid_no q] at h
    omega
theorem glA_len20 {f : Ft} {s : ByteArray} : (glA f s).length ≤ 20 := by
  by_cases q : fok f = true ∧ okWord s = true
  · exact (gl_ok q.1 q.2).2.1
  · rw [glA_no q]
    simp
set_option maxHeartbeats 4000000 in
theorem walk_FnWordWidth (a : Option Addr) (n c : Nat) (zs : List Int) (w : World) (hr : IsRow .u8 w a n c zs) :
    Calls Try.prog 6 #[.slice a n c] w fun e w' => e = .returned (.bool true) ∧ Below w.heap.size w w' := by
  have hm := small_row hr
  unfold maxLen at hm
  rcases (by omega : 1048576 < n ∨ n ≤ 1048576) with hn | hn
  · go_enter Try.func6, Try.ntmps6
    go_wp2
    go_ret
    exact ⟨rfl, bl_refl _⟩
  go_enter Try.func6, Try.ntmps6
  go_wp2_with fail
  (with_reducible refine (DrawWordWidth_any _ _ _ _ _ hr).mono ?_)
  rintro e u0 ⟨AW, cW, AK, cK, AL, cL, f, s, rfl, ⟨g, hfg, hg⟩, hW, hK, hL, hs, hb⟩
  clear hr
  have HF := hide hfg.reads
  have HB := hide hb
  have CI := hide (fun (u : World) (hh : FR u (fv AW f.W.length cW f.a f.b f.c f.h AK f.K.length cK AL f.L.length cL) f) => WordWidth_i u _ f s hh (by omega) (by omega) (by omega) (by omega))
  have CS := hide (fun (u : World) (hh : FR u (fv AW f.W.length cW f.a f.b f.c f.h AK f.K.length cK AL f.L.length cL) f) => WordWidth_s u _ f s hh (by omega) (by omega) (by omega) (by omega))
  have CG := hide (fun (u : World) (hh : FR u (fv AW f.W.length cW f.a f.b f.c f.h AK f.K.length cK AL f.L.length cL) f) => GlyphsOf_i u _ f s hh (by omega) (by omega) (by omega) (by omega))
  have CW := hide (fun (u : World) (A : Option Addr) (c : Nat) (hh : FR u (fv AW f.W.length cW f.a f.b f.c f.h AK f.K.length cK AL f.L.length cL) f) (ha : IL u A (glA f s).length (glA f s)) => GlyphsWidth_i u _ f A (glA f s).length c (glA f s) hh ha (by omega) (by omega) (by omega) (by have := glA_len20 (f := f) (s := s); omega))
  have E := hide (fun (q : ¬ wwid f s < 0) => wwid_gwid (f := f) (s := s) q)
  have G20 := hide (glA_len20 (f := f) (s := s))
  obtain ⟨m, hm⟩ : ∃ m, m = wwid f s := ⟨_, rfl⟩
  rw [← hm] at CI CS E
  obtain ⟨L, hLg⟩ : ∃ L, L = glA f s := ⟨_, rfl⟩
  rw [← hLg] at CG CW E G20
  obtain ⟨x, hx⟩ : ∃ x, x = gwid f L := ⟨_, rfl⟩
  rw [← hx] at CW E
  clear hx hLg hm hb hfg hg
  go_wp2_with fail
  (with_reducible refine (CI.out _ (HF.out.below (by (repeat' (first | with_reducible exact bl_refl _ | with_reducible assumption | with_reducible refine bl_alloc ?_ _ | with_reducible refine bl_set ?_ ?_ _ | with_reducible refine bl_drewN ?_ _ | with_reducible refine bl_drew ?_ | with_reducible refine bl_call (by assumption) ?_)); (all_goals (first | omega | (simp; done) | (simp; omega)))))).mono ?_)
  rintro e u1 ⟨rfl, hb1⟩
  obtain ⟨hf1, hb1', -, -⟩ := ret_cellB hb1 (by simp)
  have HX1 := hide hf1
  have HB1 := hide (bl_call hb1' HB.out)
  have F1 := hide (HF.out.below hb1')
  clear hf1 hb1 hb1' HF CI HB
  (have c0 := HX1.out.c0; have c1 := HX1.out.c1; have c2 := HX1.out.c2; have c3 := HX1.out.c3; have c4 := HX1.out.c4; have c5 := HX1.out.c5; have c6 := HX1.out.c6)
  go_wp2_with fail
  (with_reducible refine (CS.out _ F1.out).mono ?_)
  rintro e u2 ⟨rfl, hb2⟩
  have HX2 := hide (HX1.out.of_block (hb2.block _ HX1.out.lt))
  have HB2 := hide (bl_call hb2 HB1.out)
  have F2 := hide (F1.out.below hb2)
  clear hb2 HX1 HB1 F1 c0 c1 c2 c3 c4 c5 c6
  obtain ⟨b, hbe⟩ : ∃ b, b = u0.heap.size := ⟨_, rfl⟩
  rw [← hbe] at HX2 ⊢
  clear hbe
  (have c0 := HX2.out.c0; have c1 := HX2.out.c1; have c2 := HX2.out.c2; have c3 := HX2.out.c3; have c4 := HX2.out.c4; have c5 := HX2.out.c5; have c6 := HX2.out.c6)
  rcases (by omega : m < 0 ∨ ¬ m < 0) with q | q
  · go_wp2_with fail
    (with_reducible refine (CS.out _ F2.out).mono ?_)
    rintro e u3 ⟨rfl, hb3⟩
    go_wp2
    go_ret
    exact ⟨rfl, bl_call hb3 HB2.out⟩
  · obtain ⟨E1, E2, E3⟩ := E.out (by omega)
    have HE1 := hide E1
    clear E1
    rcases (by omega : x ≤ 0 ∨ ¬ x ≤ 0) with hx0 | hx0
    · have e0 : m = 0 := by have := HE1.out; omega
      subst e0
      go_wp2
      go_region_with (first | (go_at_call 8; (with_reducible refine (CG.out _ (F2.out.below (bl_drew (bl_refl u2)))).mono ?_); rintro e u3 ⟨A, c, rfl, ho, hb⟩; replace hb := bl_undrew hb; have HB3 := hide (bl_call hb HB2.out); have HO := hide ho.reads; (replace c0 := keep_cell hb c0; replace c1 := keep_cell hb c1; replace c2 := keep_cell hb c2; replace c3 := keep_cell hb c3; replace c4 := keep_cell hb c4; replace c5 := keep_cell hb c5; replace c6 := keep_cell hb c6); have F3 := hide (F2.out.below hb); clear hb ho) | (go_at_call 12; (with_reducible refine (CW.out _ _ _ F3.out HO.out).mono ?_); rintro e u4 ⟨rfl, hb⟩; have HB4 := hide (bl_call hb HB3.out); clear hb))
      all_goals
        go_wp2
        go_ret
        exact ⟨by first | rfl | (congr 2; simp; omega), HB4.out⟩
    · have e0 : m = x := by have := HE1.out; omega
      subst e0
      go_wp2
      go_region_with (first | (go_at_call 8; (with_reducible refine (CG.out _ (F2.out.below (bl_drew (bl_refl u2)))).mono ?_); rintro e u3 ⟨A, c, rfl, ho, hb⟩; replace hb := bl_undrew hb; have HB3 := hide (bl_call hb HB2.out); have HO := hide ho.reads; (replace c0 := keep_cell hb c0; replace c1 := keep_cell hb c1; replace c2 := keep_cell hb c2; replace c3 := keep_cell hb c3; replace c4 := keep_cell hb c4; replace c5 := keep_cell hb c5; replace c6 := keep_cell hb c6); have F3 := hide (F2.out.below hb); clear hb ho) | (go_at_call 12; (with_reducible refine (CW.out _ _ _ F3.out HO.out).mono ?_); rintro e u4 ⟨rfl, hb⟩; have HB4 := hide (bl_call hb HB3.out); clear hb))
      all_goals
        go_wp2
        go_ret
        exact ⟨by first | rfl | (congr 2; simp; omega), HB4.out⟩
set_option maxRecDepth 100000 in
theorem lifted_FnWordWidth (os : Os) (started : os.Started) (H : Type) (enc : TypeId × Value → H) :
    ReturnsInHanded {} Try.checked os 6 .any (Rows.fnWordWidthSpec.pre6 enc Try.prog Try.f6 Rows.fnWordWidthRow.domain false) (Rows.fnWordWidthSpec.post enc Try.prog Try.f6 false true false false) := by
  refine returnsInHanded_of_change (C := Try.checked) own_knob started (by kernel_rfl) Try.func6
    (ChangeSpec.witness6 (enc := enc) (C := Try.checked) false ⟨#[], #[.slice none 0 0], []⟩ 8 (by kernel_rfl) (by kernel_rfl) (by kernel_rfl) (by kernel_rfl)) ?_
  intro W base args ds gs before hval0 hW hcnd _
  have hval : ∀ (j : Nat) t v, Try.f6.params[j]? = some t → args[j]? = some v → Value.okWide Try.prog W .any base t v := hval0
  have hW' := hW
  obtain ⟨p, q, hA0, hV, rfl, hfz, hnd⟩ := hW
  have hA : DataW.TrodAll enc Try.prog W 0 (fun _ => true) true Try.f6.params.toList args.toList ds p := hA0
  rw [Try.params6] at hA hval
  obtain ⟨v0, vs0, d0, ds0, p0, q0, hargs, rfl, rfl, zh0, r0⟩ := trodAll_cons hA
  obtain ⟨rfl, rfl, rfl⟩ := trodAll_nil r0
  obtain rfl : args = #[v0] := by cases args; simp_all
  obtain ⟨rfl, rfl⟩ := trodVars_none hV
  have zk0 := zh0
  have zl0 : ∀ x ∈ p0, x.block < W.heap.size := by obtain ⟨m, hm⟩ := zk0; exact DataW.trod_lt m _ _ _ hm
  clear hA0 hval0
  obtain ⟨a_code, n_code, c_code, rfl⟩ := okWide_slice Try.underlying22 (hval 0 22 v0 rfl rfl)
  obtain ⟨code, w_code⟩ := isRow_of Try.underlying22 Try.underlying5 (by kernel_rfl) zh0
  refine (walk_FnWordWidth a_code n_code c_code code W w_code).mono fun e W' ⟨he, bel⟩ => ?_
  subst he
  exact ⟨_, rfl, _, _, _, [], _, [], hW', trodAll_mk1 (shut_bool Try.underlying4 _), (trodAll_cons_mk (Below.trod laid_out (by kernel_rfl) (of_decide_eq_true (by kernel_rfl)) zk0 bel zl0) trodAll_mk0), rfl, bel.frame _, fun h => by cases h⟩

/-- The statement. -/
theorem FnWordWidth_holds : Rows.FnWordWidthSaid :=
  OpenClaim.holds_of_wide 6 Try.f6 rfl rfl rfl rfl rfl rfl rfl ⟨rfl, rfl, rfl, rfl, rfl⟩ rfl rfl rfl rfl rfl (by kernel_rfl) Try.func6 (by kernel_rfl)
    (of_decide_eq_true (by kernel_rfl)) (by unfold Func.isWrapper; first | (rw [if_pos (by decide +kernel)]; kernel_rfl) | (rw [if_neg (by decide +kernel)]; exact ⟨rfl, rfl⟩))
    (fun os started H enc _ => lifted_FnWordWidth os started H enc)
end Go.Proofs.Ytlfhfbeacleggab
