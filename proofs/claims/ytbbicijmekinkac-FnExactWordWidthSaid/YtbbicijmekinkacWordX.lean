/- The exact law on WordWidth holds at every input: it answers as its model does and writes into no argument. No condition. -/
import Derived.Test.YtbbicijmekinkacWordL
namespace Go.Proofs.Ytbbicijmekinkac
open Go.ChangeShapes Go.WideShapes Go.ChangeAt Go.RowKit
set_option linter.unusedVariables false
set_option maxRecDepth 4000

set_option maxHeartbeats 4000000 in
theorem walk_FnExactWordWidth (v : Value) (f : Ft) (s : ByteArray) (w : World) (hf : FR w v f) (h1 : f.W.length ≤ maxLen) (h2 : f.K.length ≤ maxLen) (h3 : f.L.length ≤ maxLen) (hs : s.size ≤ maxLen) :
    Calls Try.prog 6 #[v, .string s] w fun e w' => e = .returned (.bool true) ∧ Below w.heap.size w w' := by
  unfold maxLen at h1 h2 h3 hs
  have HF := hide hf
  obtain ⟨AW, cW, AK, cK, AL, cL, rfl, hW, hK, hL⟩ := hf
  clear hW hK hL
  rcases (by omega : 1048576 < s.size ∨ s.size ≤ 1048576) with hb0 | hb0
  · go_enter Try.func6, Try.ntmps6
    go_wp2
    go_ret
    exact ⟨rfl, bl_alloc (bl_refl _) _⟩
  go_enter Try.func6, Try.ntmps6
  go_wp2_with fail
  (with_reducible refine (szFont_l _ _ f (HF.out.below (by (repeat' (first | with_reducible exact bl_refl _ | with_reducible assumption | with_reducible refine bl_alloc ?_ _ | with_reducible refine bl_set ?_ ?_ _ | with_reducible refine bl_drewN ?_ _ | with_reducible refine bl_drew ?_ | with_reducible refine bl_call (by assumption) ?_)); (all_goals (first | omega | (simp; done) | (simp; omega))))) (by omega) (by omega) (by omega)).mono ?_)
  rintro e u1 ⟨z, rfl, hzz, hb⟩
  have HB1 := hide (bl_call hb (bl_alloc (bl_refl _) _))
  rcases hzz with hzz | ⟨hzz, hsum⟩
  · go_wp2
    go_ret
    exact ⟨rfl, HB1.out⟩
  have z0' : ¬ z < 0 := by omega
  have CS := fun (u : World) (vv : Value) (h : FR u vv f) => WordWidth_s u vv f s h (by omega) (by omega) (by omega) hb0
  have CI := fun (u : World) (vv : Value) (h : FR u vv f) => WordWidth_i u vv f s h (by omega) (by omega) (by omega) hb0
  obtain ⟨G, hG⟩ : ∃ G, G = wwid f s := ⟨_, rfl⟩
  rw [← hG] at CS CI
  have HCS := hide CS
  have HCI := hide CI
  clear CS CI hG
  obtain ⟨hc, hq⟩ := bcell hb
  have m0 : u1.cell? ⟨w.heap.size, 0, none⟩ = some (.slice AW f.W.length cW) := by simp [go_sem, *]
  have m1 : u1.cell? ⟨w.heap.size, 1, none⟩ = some (.int .i64 f.a) := by simp [go_sem, *]
  have m2 : u1.cell? ⟨w.heap.size, 2, none⟩ = some (.int .i64 f.b) := by simp [go_sem, *]
  have m3 : u1.cell? ⟨w.heap.size, 3, none⟩ = some (.int .i64 f.c) := by simp [go_sem, *]
  have m4 : u1.cell? ⟨w.heap.size, 4, none⟩ = some (.int .i64 f.h) := by simp [go_sem, *]
  have m5 : u1.cell? ⟨w.heap.size, 5, none⟩ = some (.slice AK f.K.length cK) := by simp [go_sem, *]
  have m6 : u1.cell? ⟨w.heap.size, 6, none⟩ = some (.slice AL f.L.length cL) := by simp [go_sem, *]
  clear hc hq hb
  go_wp2_with fail
  (with_reducible refine (toFont_l _ _ f (HF.out.below HB1.out) (by omega) (by omega) (by omega)).mono ?_)
  rintro e u2 ⟨v1, rfl, hfo, hb⟩
  have HR1 := hide hfo.reads
  clear hfo
  have HB2 := hide (bl_call hb HB1.out)
  (replace m0 := keep_cell hb m0; replace m1 := keep_cell hb m1; replace m2 := keep_cell hb m2; replace m3 := keep_cell hb m3; replace m4 := keep_cell hb m4; replace m5 := keep_cell hb m5; replace m6 := keep_cell hb m6)
  clear hb
  go_wp2_with fail
  (with_reducible refine (HCS.out _ _ HR1.out).mono ?_)
  rintro e u4 ⟨rfl, hb⟩
  have HB4 := hide (bl_call hb HB2.out)
  (replace m0 := keep_cell hb m0; replace m1 := keep_cell hb m1; replace m2 := keep_cell hb m2; replace m3 := keep_cell hb m3; replace m4 := keep_cell hb m4; replace m5 := keep_cell hb m5; replace m6 := keep_cell hb m6)
  clear hb HR1
  go_wp2_with fail
  (with_reducible refine (toFont_l _ _ f (HF.out.below HB4.out) (by omega) (by omega) (by omega)).mono ?_)
  rintro e u5 ⟨v2, rfl, hfo, hb⟩
  have HR5 := hide hfo.reads
  obtain ⟨B1, d1, B2, d2, B3, d3, rfl, g1, g2, g3, g4⟩ := hfo
  clear g1 g2 g3 g4
  have HB5 := hide (bl_call hb HB4.out)
  (replace m0 := keep_cell hb m0; replace m1 := keep_cell hb m1; replace m2 := keep_cell hb m2; replace m3 := keep_cell hb m3; replace m4 := keep_cell hb m4; replace m5 := keep_cell hb m5; replace m6 := keep_cell hb m6)
  clear hb
  go_wp2_with fail
  (with_reducible refine (HCI.out _ _ (HR5.out.below (by (repeat' (first | with_reducible exact bl_refl _ | with_reducible assumption | with_reducible refine bl_alloc ?_ _ | with_reducible refine bl_set ?_ ?_ _ | with_reducible refine bl_drewN ?_ _ | with_reducible refine bl_drew ?_ | with_reducible refine bl_call (by assumption) ?_)); (all_goals (first | omega | (simp; done) | (simp; omega)))))).mono ?_)
  rintro e u6 ⟨rfl, hb⟩
  have HB6 := hide (bl_call hb (bl_alloc HB5.out _))
  have HR6 := hide (HR5.out.below (bl_call hb (bl_alloc (bl_refl _) _)))
  obtain ⟨hc, hq⟩ := bcell hb
  have j0 : u6.cell? ⟨u5.heap.size, 0, none⟩ = some (.slice B1 f.W.length d1) := by simp [go_sem, *]
  have j1 : u6.cell? ⟨u5.heap.size, 1, none⟩ = some (.int .i64 f.a) := by simp [go_sem, *]
  have j2 : u6.cell? ⟨u5.heap.size, 2, none⟩ = some (.int .i64 f.b) := by simp [go_sem, *]
  have j3 : u6.cell? ⟨u5.heap.size, 3, none⟩ = some (.int .i64 f.c) := by simp [go_sem, *]
  have j4 : u6.cell? ⟨u5.heap.size, 4, none⟩ = some (.int .i64 f.h) := by simp [go_sem, *]
  have j5 : u6.cell? ⟨u5.heap.size, 5, none⟩ = some (.slice B2 f.K.length d2) := by simp [go_sem, *]
  have j6 : u6.cell? ⟨u5.heap.size, 6, none⟩ = some (.slice B3 f.L.length d3) := by simp [go_sem, *]
  clear hc hq HR5
  replace m0 := keep_cell hb (keep_alloc m0 _)
  replace m1 := keep_cell hb (keep_alloc m1 _)
  replace m2 := keep_cell hb (keep_alloc m2 _)
  replace m3 := keep_cell hb (keep_alloc m3 _)
  replace m4 := keep_cell hb (keep_alloc m4 _)
  replace m5 := keep_cell hb (keep_alloc m5 _)
  replace m6 := keep_cell hb (keep_alloc m6 _)
  clear hb
  have HB7 := HB6
  have HR7 := HR6
  go_wp2_with fail
  go_region_with (first | (go_at_call 17; (with_reducible refine (toFont_l _ _ f (HF.out.below (bl_drew HB7.out)) (by omega) (by omega) (by omega)).mono ?_); rintro e u8 ⟨v3, rfl, hfo, hb⟩; have HR8 := hide hfo.reads; obtain ⟨E1, e1, E2, e2, E3, e3, rfl, g1, g2, g3, g4⟩ := hfo; clear g1 g2 g3 g4; replace hb := bl_undrew hb; have HB78 := hide hb; (replace m0 := keep_cell hb m0; replace m1 := keep_cell hb m1; replace m2 := keep_cell hb m2; replace m3 := keep_cell hb m3; replace m4 := keep_cell hb m4; replace m5 := keep_cell hb m5; replace m6 := keep_cell hb m6); (replace j0 := keep_cell hb j0; replace j1 := keep_cell hb j1; replace j2 := keep_cell hb j2; replace j3 := keep_cell hb j3; replace j4 := keep_cell hb j4; replace j5 := keep_cell hb j5; replace j6 := keep_cell hb j6); clear hb) | (go_at_call 19; (with_reducible refine (eqFont_l _ _ _ f (HR7.out.below HB78.out) HR8.out (by omega) (by omega) (by omega)).mono ?_); rintro e u9 ⟨rfl, hb⟩; have HB89 := hide hb; clear hb))
  all_goals
    have HB79 := hide (bl_call HB89.out HB78.out)
    go_wp2
    go_ret
    exact ⟨rfl, bl_call HB79.out HB7.out⟩
set_option maxRecDepth 100000 in
theorem lifted_FnExactWordWidth (os : Os) (started : os.Started) (H : Type) (enc : TypeId × Value → H) :
    ReturnsInHanded {} Try.checked os 6 .any (Rows.fnExactWordWidthSpec.pre6 enc Try.prog Try.f6 Rows.fnExactWordWidthRow.domain false) (Rows.fnExactWordWidthSpec.post enc Try.prog Try.f6 false true false false) := by
  refine returnsInHanded_of_change (C := Try.checked) own_knob started (by kernel_rfl) Try.func6
    (ChangeSpec.witness6 (enc := enc) (C := Try.checked) false ⟨#[], #[.agg #[.slice none 0 0, .int .i64 0, .int .i64 0, .int .i64 0, .int .i64 0, .slice none 0 0, .slice none 0 0], .string ByteArray.empty], []⟩ 8 (by kernel_rfl) (by kernel_rfl) (by kernel_rfl) (by kernel_rfl)) ?_
  intro W base args ds gs before hval0 hW hcnd _
  have hval : ∀ (j : Nat) t v, Try.f6.params[j]? = some t → args[j]? = some v → Value.okWide Try.prog W .any base t v := hval0
  have hW' := hW
  obtain ⟨p, q, hA0, hV, rfl, hfz, hnd⟩ := hW
  have hA : DataW.TrodAll enc Try.prog W 0 (fun _ => true) true Try.f6.params.toList args.toList ds p := hA0
  rw [Try.params6] at hA hval
  obtain ⟨v0, vs0, d0, ds0, p0, q0, hargs, rfl, rfl, zh0, r0⟩ := trodAll_cons hA
  obtain ⟨v1, vs1, d1, ds1, p1, q1, rfl, rfl, rfl, zh1, r1⟩ := trodAll_cons r0
  obtain ⟨rfl, rfl, rfl⟩ := trodAll_nil r1
  obtain rfl : args = #[v0, v1] := by cases args; simp_all
  obtain ⟨rfl, rfl⟩ := trodVars_none hV
  have zk0 := zh0
  have zl0 : ∀ x ∈ p0, x.block < W.heap.size := by obtain ⟨m, hm⟩ := zk0; exact DataW.trod_lt m _ _ _ hm
  have zk1 := zh1
  have zl1 : ∀ x ∈ p1, x.block < W.heap.size := by obtain ⟨m, hm⟩ := zk1; exact DataW.trod_lt m _ _ _ hm
  clear hA0 hval0
  obtain ⟨f_a, fr_a, l1_a, l2_a, l3_a⟩ := font_in Try.underlying27 (by kernel_rfl) rfl rfl rfl rfl rfl (by kernel_rfl) (by kernel_rfl) (by kernel_rfl) (by kernel_rfl) (by kernel_rfl) (e0 := 3) (e3 := 90) (by kernel_rfl) (by kernel_rfl) (by kernel_rfl) (by kernel_rfl) (by kernel_rfl) (by kernel_rfl) (by kernel_rfl) (by kernel_rfl) (by kernel_rfl) (hval 0 27 v0 rfl rfl) zh0
  obtain ⟨s, rfl, rfl, rfl, w_s⟩ := Go.ChangeMaps.open_string Try.underlying9 (hval 1 9 v1 rfl rfl) zh1
  refine (walk_FnExactWordWidth v0 f_a s W fr_a l1_a l2_a l3_a w_s).mono fun e W' ⟨he, bel⟩ => ?_
  subst he
  exact ⟨_, rfl, _, _, _, [], _, [], hW', trodAll_mk1 (shut_bool Try.underlying4 _), (trodAll_cons_mk (Below.trod laid_out (by kernel_rfl) (of_decide_eq_true (by kernel_rfl)) zk0 bel zl0) (trodAll_cons_mk (Below.trod laid_out (by kernel_rfl) (of_decide_eq_true (by kernel_rfl)) zk1 bel zl1) trodAll_mk0)), rfl, bel.frame _, fun h => by cases h⟩

/-- The statement. -/
theorem FnExactWordWidth_holds : Rows.FnExactWordWidthSaid :=
  OpenClaim.holds_of_wide 6 Try.f6 rfl rfl rfl rfl rfl rfl rfl ⟨rfl, rfl, rfl, rfl, rfl⟩ rfl rfl rfl rfl rfl (by kernel_rfl) Try.func6 (by kernel_rfl)
    (of_decide_eq_true (by kernel_rfl)) (by unfold Func.isWrapper; first | (rw [if_pos (by decide +kernel)]; kernel_rfl) | (rw [if_neg (by decide +kernel)]; exact ⟨rfl, rfl⟩))
    (fun os started H enc _ => lifted_FnExactWordWidth os started H enc)
end Go.Proofs.Ytbbicijmekinkac
