/- Drawn fonts and words, fonts and glyphs. -/
import Derived.Test.YtlfhfbeacleggabDrawFp
import Derived.Test.YtlfhfbeacleggabDrawS
namespace Go.Proofs.Ytlfhfbeacleggab
open Go.ChangeShapes Go.WideShapes Go.ChangeAt Go.RowKit
set_option linter.unusedVariables false
set_option linter.unusedSimpArgs false
set_option maxRecDepth 4000

theorem ret_cellB {w u : World} {B : Nat} {v0 v1 v2 v3 v4 v5 v6 : Value} {t : TypeId} (h : Below B (w.alloc (.cells #[v0, v1, v2, v3, v4, v5, v6] t)) u) (hB : w.heap.size < B) : FB u w.heap.size v0 v1 v2 v3 v4 v5 v6 ∧ Below w.heap.size w u ∧ w.heap.size < u.heap.size ∧ (w.alloc (.cells #[v0, v1, v2, v3, v4, v5, v6] t)).heap.size = w.heap.size + 1 := by
  have e := h.block w.heap.size hB
  have f : FB u w.heap.size v0 v1 v2 v3 v4 v5 v6 := FB.of_block (u := w.alloc (.cells #[v0, v1, v2, v3, v4, v5, v6] t)) ⟨by simp [go_sem], by simp [go_sem], by simp [go_sem], by simp [go_sem], by simp [go_sem], by simp [go_sem], by simp [go_sem], fun j => by simp [go_sem]⟩ e
  exact ⟨f, (bl_alloc (bl_refl w) _).trans (h.mono (by omega)), f.lt, by simp⟩
/-- A font in a box. -/
theorem fb_new (u : World) (v0 v1 v2 v3 v4 v5 v6 : Value) (t : TypeId) : FB (u.alloc (.cells #[v0, v1, v2, v3, v4, v5, v6] t)) u.heap.size v0 v1 v2 v3 v4 v5 v6 :=
  ⟨by simp [go_sem], by simp [go_sem], by simp [go_sem], by simp [go_sem], by simp [go_sem], by simp [go_sem], by simp [go_sem], fun j => by simp [go_sem]⟩
theorem fr_fin {w u : World} {g : Nat} {AW : Option Addr} {cW : Nat} {AK : Option Addr} {cK : Nat} {AL : Option Addr} {cL : Nat} {f : Ft} {s : ByteArray} (h : FRg u g (fv AW f.W.length cW f.a f.b f.c f.h AK f.K.length cK AL f.L.length cL) f) (hg : w.heap.size < g) (hW : f.W.length ≤ 36) (hK : f.K.length ≤ 4) (hL : f.L.length ≤ 5) (hs : s.size ≤ 27) (hb : Below w.heap.size w u) :
    ∃ (AW' : Option Addr) (cW' : Nat) (AK' : Option Addr) (cK' : Nat) (AL' : Option Addr) (cL' : Nat) (f' : Ft) (s' : ByteArray), Ending.returned (.tuple #[fv AW f.W.length cW f.a f.b f.c f.h AK f.K.length cK AL f.L.length cL, .string s]) = .returned (.tuple #[fv AW' f'.W.length cW' f'.a f'.b f'.c f'.h AK' f'.K.length cK' AL' f'.L.length cL', .string s']) ∧ (∃ g', FRg u g' (fv AW' f'.W.length cW' f'.a f'.b f'.c f'.h AK' f'.K.length cK' AL' f'.L.length cL') f' ∧ w.heap.size < g') ∧ f'.W.length ≤ 36 ∧ f'.K.length ≤ 4 ∧ f'.L.length ≤ 5 ∧ s'.size ≤ 27 ∧ Below w.heap.size w u :=
  ⟨AW, cW, AK, cK, AL, cL, f, s, rfl, ⟨g, h, hg⟩, hW, hK, hL, hs, hb⟩
set_option maxHeartbeats 4000000 in
theorem DrawGlyphsOf_any (w : World) (a : Option Addr) (n c : Nat) (zs : List Int) (h : IsRow .u8 w a n c zs) :
    Calls Try.prog 7 #[.slice a n c] w fun e w' => ∃ (AW : Option Addr) (cW : Nat) (AK : Option Addr) (cK : Nat) (AL : Option Addr) (cL : Nat) (f : Ft) (s : ByteArray), e = .returned (.tuple #[fv AW f.W.length cW f.a f.b f.c f.h AK f.K.length cK AL f.L.length cL, .string s]) ∧ (∃ g, FRg w' g (fv AW f.W.length cW f.a f.b f.c f.h AK f.K.length cK AL f.L.length cL) f ∧ w.heap.size < g) ∧ f.W.length ≤ 36 ∧ f.K.length ≤ 4 ∧ f.L.length ≤ 5 ∧ s.size ≤ 27 ∧ Below w.heap.size w w' := by
  go_enter Try.func7, Try.ntmps7
  go_wp2_with fail
  (with_reducible refine (newReader_any _ _ _ _ _ (h.below (by repeat' (first | with_reducible exact bl_refl _ | with_reducible assumption | with_reducible refine bl_alloc ?_ _ | with_reducible refine bl_set ?_ ?_ _ | with_reducible refine bl_drewN ?_ _ | with_reducible refine bl_drew ?_ | with_reducible refine bl_call (by assumption) ?_)))).mono ?_)
  rintro e u0 ⟨rfl, hrd, hb⟩
  obtain ⟨hr0, hb0, hlt0, hsz⟩ := ret_cellB hb (by simp)
  rw [hsz] at hrd ⊢
  have HRD0 := hide hrd
  have hg0 := hrd.lt
  have HB0 := hide hb0
  have HR0 := hide hr0
  clear hr0 hb0 hrd hb h hsz
  go_wp2_with fail
  (with_reducible refine (anyFont_any _ _ _ _ HRD0.out (by omega) (by omega)).mono ?_)
  rintro e u1 ⟨AW, cW, AK, cK, AL, cL, f, rfl, hfg, hW, hK, hL, hrd1, hon1⟩
  have HR1 := hide ((HR0.out.of_block (hon1.block _ HR0.out.lt (fun q => by injection q with q; omega))).of_block ((on_alloc (on_refl u1 (some (w.heap.size + 1))) (.cells #[.slice AW f.W.length cW, .int .i64 f.a, .int .i64 f.b, .int .i64 f.c, .int .i64 f.h, .slice AK f.K.length cK, .slice AL f.L.length cL] 28)).block _ (Nat.lt_of_lt_of_le HR0.out.lt hon1.size) (fun q => by injection q with q; omega)))
  have ONB := hide (on_call hon1 (on_below HB0.out (on_refl w (some (w.heap.size + 1)))))
  have hz1 := hon1.size
  have HRD := hide (hrd1.alloc (.cells #[.slice AW f.W.length cW, .int .i64 f.a, .int .i64 f.b, .int .i64 f.c, .int .i64 f.h, .slice AK f.K.length cK, .slice AL f.L.length cL] 28))
  have HF1 := hide (fb_new u1 (.slice AW f.W.length cW) (.int .i64 f.a) (.int .i64 f.b) (.int .i64 f.c) (.int .i64 f.h) (.slice AK f.K.length cK) (.slice AL f.L.length cL) 28)
  have HFG := hide (hfg.more (on_alloc (on_refl u1 (some (w.heap.size + 1))) (.cells #[.slice AW f.W.length cW, .int .i64 f.a, .int .i64 f.b, .int .i64 f.c, .int .i64 f.h, .slice AK f.K.length cK, .slice AL f.L.length cL] 28)))
  clear hon1 hfg hrd1 HR0 HRD0 HB0
  have hlr := HR1.out.lt
  have hlf := HF1.out.lt
  (have d0 := HR1.out.c0; have d1 := HR1.out.c1; have d2 := HR1.out.c2; have d3 := HR1.out.c3; have d4 := HR1.out.c4; have d5 := HR1.out.c5; have d6 := HR1.out.c6; have y0 := HR1.out.fz 0; have y1 := HR1.out.fz 1; have y2 := HR1.out.fz 2; have y3 := HR1.out.fz 3; have y4 := HR1.out.fz 4; have y5 := HR1.out.fz 5; have y6 := HR1.out.fz 6)
  (have c0 := HF1.out.c0; have c1 := HF1.out.c1; have c2 := HF1.out.c2; have c3 := HF1.out.c3; have c4 := HF1.out.c4; have c5 := HF1.out.c5; have c6 := HF1.out.c6)
  go_wp2
  go_region_law (go_simp; go_at_call 20; (with_reducible refine (anyWord_any _ _ _ _ (by first | exact HRD.out | exact RD.drew HRD.out) (by omega)).mono ?_); rintro e u2 ⟨s, hs, rfl, hrd2, hon2⟩; (try (with_reducible have hon2 := on_undrew hon2)); have HR2 := hide (HR1.out.of_block (hon2.block _ HR1.out.lt (fun q => by injection q with q; omega))); have HF2 := hide (HF1.out.of_block (hon2.block _ HF1.out.lt (fun q => by injection q with q; omega))); have HFG2 := hide (HFG.out.more hon2); have HB2 := hide (on_new (on_call hon2 (on_alloc ONB.out _)) (Nat.le_succ _)); (have d0 := HR2.out.c0; have d1 := HR2.out.c1; have d2 := HR2.out.c2; have d3 := HR2.out.c3; have d4 := HR2.out.c4; have d5 := HR2.out.c5; have d6 := HR2.out.c6; have y0 := HR2.out.fz 0; have y1 := HR2.out.fz 1; have y2 := HR2.out.fz 2; have y3 := HR2.out.fz 3; have y4 := HR2.out.fz 4; have y5 := HR2.out.fz 5; have y6 := HR2.out.fz 6); (have c0 := HF2.out.c0; have c1 := HF2.out.c1; have c2 := HF2.out.c2; have c3 := HF2.out.c3; have c4 := HF2.out.c4; have c5 := HF2.out.c5; have c6 := HF2.out.c6))
  all_goals
    have hb2 := HB2.out
    clear HR2 HF2 HFG HR1 HF1 HRD ONB
    go_wp2
    refine bodyPost_ret (v := .tuple #[fv AW f.W.length cW f.a f.b f.c f.h AK f.K.length cK AL f.L.length cL, .string s]) ?_ rfl ?_
    · simp [results, Try.results7, go_sem, *]
    exact fr_fin (g := w.heap.size + 1) (by repeat' (first | with_reducible exact HFG2.out | refine FRg.setR ?_ (by omega))) (by omega) hW hK hL hs (by (repeat' (first | with_reducible exact bl_refl _ | with_reducible assumption | with_reducible refine bl_alloc ?_ _ | with_reducible refine bl_set ?_ ?_ _ | with_reducible refine bl_drewN ?_ _ | with_reducible refine bl_drew ?_ | with_reducible refine bl_call (by assumption) ?_)); (all_goals (first | omega | (simp; done) | (simp; omega))))
theorem DrawWordWidth_any (w : World) (a : Option Addr) (n c : Nat) (zs : List Int) (h : IsRow .u8 w a n c zs) :
    Calls Try.prog 15 #[.slice a n c] w fun e w' => ∃ (AW : Option Addr) (cW : Nat) (AK : Option Addr) (cK : Nat) (AL : Option Addr) (cL : Nat) (f : Ft) (s : ByteArray), e = .returned (.tuple #[fv AW f.W.length cW f.a f.b f.c f.h AK f.K.length cK AL f.L.length cL, .string s]) ∧ (∃ g, FRg w' g (fv AW f.W.length cW f.a f.b f.c f.h AK f.K.length cK AL f.L.length cL) f ∧ w.heap.size < g) ∧ f.W.length ≤ 36 ∧ f.K.length ≤ 4 ∧ f.L.length ≤ 5 ∧ s.size ≤ 27 ∧ Below w.heap.size w w' := by
  go_enter Try.func15, Try.ntmps15
  go_wp2_with fail
  (with_reducible refine (DrawGlyphsOf_any _ _ _ _ _ (h.below (by repeat' (first | with_reducible exact bl_refl _ | with_reducible assumption | with_reducible refine bl_alloc ?_ _ | with_reducible refine bl_set ?_ ?_ _ | with_reducible refine bl_drewN ?_ _ | with_reducible refine bl_drew ?_ | with_reducible refine bl_call (by assumption) ?_)))).mono ?_)
  rintro e u0 ⟨AW, cW, AK, cK, AL, cL, f, s, rfl, hfr, hW, hK, hL, hs, hb⟩
  obtain ⟨hr0, hb0, hlt0, hsz⟩ := ret_cellB hb (by simp)
  have HB0 := hide hb0
  obtain ⟨g, hfg, hg⟩ := hfr
  rw [hsz] at hg
  have HFG := hide hfg
  (have d0 := hr0.c0; have d1 := hr0.c1; have d2 := hr0.c2; have d3 := hr0.c3; have d4 := hr0.c4; have d5 := hr0.c5; have d6 := hr0.c6; have y0 := hr0.fz 0; have y1 := hr0.fz 1; have y2 := hr0.fz 2; have y3 := hr0.fz 3; have y4 := hr0.fz 4; have y5 := hr0.fz 5; have y6 := hr0.fz 6)
  clear hr0 hb h hsz hfg
  go_wp2
  refine bodyPost_ret (v := .tuple #[fv AW f.W.length cW f.a f.b f.c f.h AK f.K.length cK AL f.L.length cL, .string s]) ?_ rfl ?_
  · simp [results, Try.results15, go_sem, *]
  exact fr_fin (g := g) (by repeat' (first | with_reducible exact HFG.out | refine FRg.setR ?_ (by omega))) (by omega) hW hK hL hs (by (repeat' (first | with_reducible exact bl_refl _ | with_reducible assumption | with_reducible refine bl_alloc ?_ _ | with_reducible refine bl_set ?_ ?_ _ | with_reducible refine bl_drewN ?_ _ | with_reducible refine bl_drew ?_ | with_reducible refine bl_call (by assumption) ?_)); (all_goals (first | omega | (simp; done) | (simp; omega))))
end Go.Proofs.Ytlfhfbeacleggab
