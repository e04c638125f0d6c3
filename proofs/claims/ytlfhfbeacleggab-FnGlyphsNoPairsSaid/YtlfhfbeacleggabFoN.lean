/- The law on ligatures holds for every code: none is left. No condition. -/
import Derived.Test.YtlfhfbeacleggabFoP
import Derived.BigQuiet
import Derived.Deep.QuietTactic
namespace Go.Proofs.Ytlfhfbeacleggab
open Go.ChangeShapes Go.WideShapes Go.ChangeAt Go.RowKit
set_option linter.unusedVariables false
set_option linter.unusedSimpArgs false
set_option maxRecDepth 4000
open Classical

set_option maxHeartbeats 4000000 in
theorem walk_FnGlyphsNoPairs (a : Option Addr) (n c : Nat) (zs : List Int) (w : World) (hr : IsRow .u8 w a n c zs) :
    Calls Try.prog 4 #[.slice a n c] w fun e w' => e = .returned (.bool true) ∧ Below w.heap.size w w' := by
  have hm := small_row hr
  unfold maxLen at hm
  rcases (by omega : 1048576 < n ∨ n ≤ 1048576) with hn | hn
  · go_enter Try.func4, Try.ntmps4
    go_wp2
    go_ret
    exact ⟨rfl, bl_refl _⟩
  go_enter Try.func4, Try.ntmps4
  go_wp2_with fail
  (with_reducible refine (DrawGlyphsOf_any _ _ _ _ _ hr).mono ?_)
  rintro e u0 ⟨AW, cW, AK, cK, AL, cL, f, s, rfl, ⟨g, hfg, hg⟩, hW, hK, hL, hs, hb⟩
  clear hr
  have HF := hide hfg.reads
  have HB := hide hb
  have CI := hide (fun (u : World) (hh : FR u (fv AW f.W.length cW f.a f.b f.c f.h AK f.K.length cK AL f.L.length cL) f) => GlyphsOf_i u _ f s hh (by omega) (by omega) (by omega) (by omega))
  have CS := hide (fun (u : World) (hh : FR u (fv AW f.W.length cW f.a f.b f.c f.h AK f.K.length cK AL f.L.length cL) f) => GlyphsOf_s u _ f s hh (by omega) (by omega) (by omega) (by omega))
  have G20 := glA_len20 (f := f) (s := s)
  have NP := hide (fun (j m : Nat) (h0 : 0 < j) (h : j < (glA f s).length) (hm : m < f.L.length) (h1 : (tg f.L m).a = ng (glA f s) (j - 1)) => glA_np h0 h hm h1)
  obtain ⟨L, hLg⟩ : ∃ L, L = glA f s := ⟨_, rfl⟩
  rw [← hLg] at CI CS G20 NP
  have EQ := hide (fun (u : World) (A C : Option Addr) (c d : Nat) (h1 : IL u A L.length L) (h2 : IL u C L.length L) => eqInts_l u A C L.length L.length c d L L h1 h2 (by omega) (by omega))
  simp only [decide_true] at EQ
  clear hLg hb hfg hg
  go_wp2_with fail
  (with_reducible refine (CI.out _ (HF.out.below (by (repeat' (first | with_reducible exact bl_refl _ | with_reducible assumption | with_reducible refine bl_alloc ?_ _ | with_reducible refine bl_set ?_ ?_ _ | with_reducible refine bl_drewN ?_ _ | with_reducible refine bl_drew ?_ | with_reducible refine bl_call (by assumption) ?_)); (all_goals (first | omega | (simp; done) | (simp; omega)))))).mono ?_)
  rintro e u1 ⟨A1, d1, rfl, ho1, hb1⟩
  obtain ⟨hf1, hb1', -, -⟩ := ret_cellB hb1 (by simp)
  have HX1 := hide hf1
  have HB1 := hide (bl_call hb1' HB.out)
  have F1 := hide (HF.out.below hb1')
  have T1 := hide ho1.reads
  clear hf1 hb1 hb1' HF CI HB ho1
  (have c0 := HX1.out.c0; have c1 := HX1.out.c1; have c2 := HX1.out.c2; have c3 := HX1.out.c3; have c4 := HX1.out.c4; have c5 := HX1.out.c5; have c6 := HX1.out.c6)
  obtain ⟨b, hbe⟩ : ∃ b, b = u0.heap.size := ⟨_, rfl⟩
  rw [← hbe] at c0 c1 c2 c3 c4 c5 c6 ⊢
  clear hbe HX1
  go_wp2_with fail
  (with_reducible refine (CS.out _ F1.out).mono ?_)
  rintro e wl ⟨A2, d2, rfl, ho2, hb2⟩
  (replace c0 := keep_cell hb2 c0; replace c1 := keep_cell hb2 c1; replace c2 := keep_cell hb2 c2; replace c3 := keep_cell hb2 c3; replace c4 := keep_cell hb2 c4; replace c5 := keep_cell hb2 c5; replace c6 := keep_cell hb2 c6)
  have HB2 := hide (bl_call hb2 HB1.out)
  have F2 := hide (F1.out.below hb2)
  have T2 := hide (T1.out.below hb2)
  have O2 := hide ho2.reads
  clear hb2 HB1 F1 T1 ho2
  go_wp2_with fail
  (with_reducible refine (EQ.out _ _ _ _ _ T2.out O2.out).mono ?_)
  rintro e u3 ⟨rfl, jd, rfl⟩
  rcases Nat.eq_zero_or_pos L.length with h0 | h0
  · have g0 : ((L.length : Int) == 0) = true := by rw [h0]; rfl
    have h0i := hide h0
    clear h0
    go_wp2_with fail
    (with_reducible refine (CS.out _ (F2.out.drewN jd)).mono ?_)
    rintro e u4 ⟨A3, d3, rfl, ho3, hb3⟩
    have HB3 := hide (bl_call hb3 (bl_drewN HB2.out jd))
    have T3 := hide ((T2.out.drewN jd).below hb3)
    have O3 := hide ho3.reads
    clear hb3 ho3
    go_wp2_with fail
    (with_reducible refine (EQ.out _ _ _ _ _ T3.out O3.out).mono ?_)
    rintro e u5 ⟨rfl, je, rfl⟩
    go_wp2
    go_ret
    exact ⟨rfl, bl_drewN HB3.out je⟩
  · have g0 : ((L.length : Int) == 0) = false := beq_eq_false_iff_ne.2 (by omega)
    have TL6 := hide (FR.rows F2.out).2.2
    clear F2 O2 EQ CS c0 c1 c2 c3 c4 c5
    go_wp2
    go_loopw [6] (fun i u => ∃ (k j : Nat), 1 ≤ k ∧ k ≤ L.length ∧ i = .int .i64 k ∧ u = wl.drewN j) (fun i _ => L.length - (intOf i).toNat)
    case atStart => exact ⟨1, jd, by omega, by omega, rfl, rfl⟩
    case round =>
      obtain ⟨k, j, hk1, hk, rfl, rfl⟩ := hrel
      by_cases hlt : k < L.length
      · obtain ⟨b1, o1, rfl, _, hc1⟩ := T2.out.at_ hlt
        obtain ⟨b1', o1', e1, _, hc0⟩ := T2.out.at_ (i := k - 1) (by omega)
        injection e1 with e1
        cases e1
        have NPk := hide (fun (m : Nat) (hm : m < f.L.length) => NP.out k m (by omega) hlt hm)
        obtain ⟨y, hy⟩ : ∃ y, y = ng L (k - 1) := ⟨_, rfl⟩
        obtain ⟨t, ht⟩ : ∃ t, t = ng L k := ⟨_, rfl⟩
        rw [← hy] at hc0 NPk
        rw [← ht] at hc1 NPk
        clear hy ht
        have wk : IntKind.i64.wrap ((k : Int) - 1) = ((k - 1 : Nat) : Int) := (IntWalk.i64_in _ (by omega)).trans (by omega)
        go_wp2
        go_loopw [7] (fun i u => ∃ (m j : Nat), m ≤ f.L.length ∧ i = .int .i64 m ∧ u = wl.drewN j) (fun i _ => f.L.length - (intOf i).toNat)
        case atStart => exact ⟨0, j, by omega, rfl, rfl⟩
        case round =>
          obtain ⟨m, j, hm, rfl, rfl⟩ := hrel
          by_cases hml : m < f.L.length
          · obtain ⟨b2, o2, rfl, _, m0, m1, m2⟩ := TL6.out.at3 hml
            have NPm := NPk.out m hml
            obtain ⟨x, hx⟩ : ∃ x, x = (tg f.L m).a := ⟨_, rfl⟩
            obtain ⟨z, hz⟩ : ∃ z, z = (tg f.L m).b := ⟨_, rfl⟩
            rw [← hx] at m0 NPm
            rw [← hz] at m1 NPm
            clear hx hz m2
            rcases (by omega : x ≠ y ∨ x = y) with q | q
            · have e1 : (x == y) = false := beq_eq_false_iff_ne.2 q
              have HQ := hide q
              clear q NPm
              go_wp2_with fail
              go_quiet (fail)
              go_wp2
              go_roundw
              case rel => exact ⟨m + 1, _, by omega, by go_num, rfl⟩
              case measure => simp [intOf]; omega
            · have e2 : (z == t) = false := beq_eq_false_iff_ne.2 (NPm q)
              subst q
              clear NPm
              go_wp2_with fail
              go_quiet (fail)
              go_wp2
              go_roundw
              case rel => exact ⟨m + 1, _, by omega, by go_num, rfl⟩
              case measure => simp [intOf]; omega
          · go_wp2
            go_roundw
            case rel => exact ⟨k + 1, j, by omega, by omega, by go_num, rfl⟩
            case measure => simp [intOf]; omega
      · go_wp2
        go_ret
        exact ⟨rfl, bl_drewN HB2.out j⟩
set_option maxRecDepth 100000 in
theorem lifted_FnGlyphsNoPairs (os : Os) (started : os.Started) (H : Type) (enc : TypeId × Value → H) :
    ReturnsInHanded {} Try.checked os 4 .any (Rows.fnGlyphsNoPairsSpec.pre6 enc Try.prog Try.f4 Rows.fnGlyphsNoPairsRow.domain false) (Rows.fnGlyphsNoPairsSpec.post enc Try.prog Try.f4 false true false false) := by
  refine returnsInHanded_of_change (C := Try.checked) own_knob started (by kernel_rfl) Try.func4
    (ChangeSpec.witness6 (enc := enc) (C := Try.checked) false ⟨#[], #[.slice none 0 0], []⟩ 8 (by kernel_rfl) (by kernel_rfl) (by kernel_rfl) (by kernel_rfl)) ?_
  intro W base args ds gs before hval0 hW hcnd _
  have hval : ∀ (j : Nat) t v, Try.f4.params[j]? = some t → args[j]? = some v → Value.okWide Try.prog W .any base t v := hval0
  have hW' := hW
  obtain ⟨p, q, hA0, hV, rfl, hfz, hnd⟩ := hW
  have hA : DataW.TrodAll enc Try.prog W 0 (fun _ => true) true Try.f4.params.toList args.toList ds p := hA0
  rw [Try.params4] at hA hval
  obtain ⟨v0, vs0, d0, ds0, p0, q0, hargs, rfl, rfl, zh0, r0⟩ := trodAll_cons hA
  obtain ⟨rfl, rfl, rfl⟩ := trodAll_nil r0
  obtain rfl : args = #[v0] := by cases args; simp_all
  obtain ⟨rfl, rfl⟩ := trodVars_none hV
  have zk0 := zh0
  have zl0 : ∀ x ∈ p0, x.block < W.heap.size := by obtain ⟨m, hm⟩ := zk0; exact DataW.trod_lt m _ _ _ hm
  clear hA0 hval0
  obtain ⟨a_code, n_code, c_code, rfl⟩ := okWide_slice Try.underlying22 (hval 0 22 v0 rfl rfl)
  obtain ⟨code, w_code⟩ := isRow_of Try.underlying22 Try.underlying5 (by kernel_rfl) zh0
  refine (walk_FnGlyphsNoPairs a_code n_code c_code code W w_code).mono fun e W' ⟨he, bel⟩ => ?_
  subst he
  exact ⟨_, rfl, _, _, _, [], _, [], hW', trodAll_mk1 (shut_bool Try.underlying4 _), (trodAll_cons_mk (Below.trod laid_out (by kernel_rfl) (of_decide_eq_true (by kernel_rfl)) zk0 bel zl0) trodAll_mk0), rfl, bel.frame _, fun h => by cases h⟩

/-- The statement. -/
theorem FnGlyphsNoPairs_holds : Rows.FnGlyphsNoPairsSaid :=
  OpenClaim.holds_of_wide 4 Try.f4 rfl rfl rfl rfl rfl rfl rfl ⟨rfl, rfl, rfl, rfl, rfl⟩ rfl rfl rfl rfl rfl (by kernel_rfl) Try.func4 (by kernel_rfl)
    (of_decide_eq_true (by kernel_rfl)) (by unfold Func.isWrapper; first | (rw [if_pos (by decide +kernel)]; kernel_rfl) | (rw [if_neg (by decide +kernel)]; exact ⟨rfl, rfl⟩))
    (fun os started H enc _ => lifted_FnGlyphsNoPairs os started H enc)
end Go.Proofs.Ytlfhfbeacleggab
