/- Drawn fonts and glyphs. -/
import Derived.Test.YtlfhfbeacleggabDrawFq
namespace Go.Proofs.Ytlfhfbeacleggab
open Go.ChangeShapes Go.WideShapes Go.ChangeAt Go.RowKit
set_option linter.unusedVariables false
set_option linter.unusedSimpArgs false
set_option maxRecDepth 4000
theorem fr_finL {w u : World} {g : Nat} {AW : Option Addr} {cW : Nat} {AK : Option Addr} {cK : Nat} {AL : Option Addr} {cL : Nat} {f : Ft} {A : Option Addr} {c p B : Nat} {l : List Int} (h : FRg u g (fv AW f.W.length cW f.a f.b f.c f.h AK f.K.length cK AL f.L.length cL) f) (hg : w.heap.size < g) (hW : f.W.length ≤ 36) (hK : f.K.length ≤ 4) (hL : f.L.length ≤ 5) (hp : p = l.length) (hl : l.length ≤ 21) (ho : OL u 3 B A c l) (hB : w.heap.size < B) (hb : Below w.heap.size w u) :
    ∃ (AW' : Option Addr) (cW' : Nat) (AK' : Option Addr) (cK' : Nat) (AL' : Option Addr) (cL' : Nat) (f' : Ft) (A' : Option Addr) (c' : Nat) (l' : List Int), Ending.returned (.tuple #[fv AW f.W.length cW f.a f.b f.c f.h AK f.K.length cK AL f.L.length cL, .slice A p c]) = .returned (.tuple #[fv AW' f'.W.length cW' f'.a f'.b f'.c f'.h AK' f'.K.length cK' AL' f'.L.length cL', .slice A' l'.length c']) ∧ FR u (fv AW' f'.W.length cW' f'.a f'.b f'.c f'.h AK' f'.K.length cK' AL' f'.L.length cL') f' ∧ f'.W.length ≤ 36 ∧ f'.K.length ≤ 4 ∧ f'.L.length ≤ 5 ∧ l'.length ≤ 21 ∧ IL u A' l'.length l' ∧ Below w.heap.size w u := by
  subst hp
  exact ⟨AW, cW, AK, cK, AL, cL, f, A, c, l, rfl, h.reads, hW, hK, hL, hl, ho.reads, hb⟩
theorem OL.setR {u : World} {e : TypeId} {B c r j : Nat} {A : Option Addr} {l : List Int} {v : Value} (h : OL u e B A c l) (hr : r < B) : OL (u.setCell ⟨r, j, none⟩ v) e B A c l :=
  h.kept (Lib.grownBy_setCell u r j v) (fun k hk q => by have := (h.own_lt k hk).1; injection q with q; omega)
theorem on_alloc_call {u u' : World} {o : Obj} {g : Nat} (h : (u.alloc o).grownBy u' (some g)) : u.grownBy u' (some g) := on_call h (on_alloc (on_refl u (some g)) o)
set_option maxHeartbeats 4000000 in
theorem DrawGlyphsWidth_any (w : World) (a : Option Addr) (n c : Nat) (zs : List Int) (h : IsRow .u8 w a n c zs) :
    Calls Try.prog 11 #[.slice a n c] w fun e w' => ∃ (AW : Option Addr) (cW : Nat) (AK : Option Addr) (cK : Nat) (AL : Option Addr) (cL : Nat) (f : Ft) (A : Option Addr) (cc : Nat) (l : List Int), e = .returned (.tuple #[fv AW f.W.length cW f.a f.b f.c f.h AK f.K.length cK AL f.L.length cL, .slice A l.length cc]) ∧ FR w' (fv AW f.W.length cW f.a f.b f.c f.h AK f.K.length cK AL f.L.length cL) f ∧ f.W.length ≤ 36 ∧ f.K.length ≤ 4 ∧ f.L.length ≤ 5 ∧ l.length ≤ 21 ∧ IL w' A l.length l ∧ Below w.heap.size w w' := by
  obtain ⟨i0, hi0, jz0, jz1, jz2⟩ := info_parts int_info
  go_enter Try.func11, Try.ntmps11
  go_wp2_with fail
  (with_reducible refine (newReader_any _ _ _ _ _ (h.below (by repeat' (first | with_reducible exact bl_refl _ | with_reducible assumption | with_reducible refine bl_alloc ?_ _ | with_reducible refine bl_set ?_ ?_ _ | with_reducible refine bl_drewN ?_ _ | with_reducible refine bl_drew ?_ | with_reducible refine bl_call (by assumption) ?_)))).mono ?_)
  rintro e u0 ⟨rfl, hrd, hb⟩
  obtain ⟨hr0, hb0, hlt0, hsz⟩ := ret_cellB hb (by simp)
  rw [hsz] at hrd ⊢
  have HRD0 := hide hrd
  have hg0 := hrd.lt
  have HB0 := hide hb0
  have HR0 := hide hr0
  clear hr0 hb0 hrd hb h hsz
  go_wp2_with fail
  (with_reducible refine (anyFont_any _ _ _ _ HRD0.out (by omega) (by omega)).mono ?_)
  rintro e u1 ⟨AW, cW, AK, cK, AL, cL, f, rfl, hfg, hW, hK, hL, hrd1, hon1⟩
  have HR1 := hide ((HR0.out.of_block (hon1.block _ HR0.out.lt (fun q => by injection q with q; omega))).of_block ((on_alloc (on_refl u1 (some (w.heap.size + 1))) (.cells #[.slice AW f.W.length cW, .int .i64 f.a, .int .i64 f.b, .int .i64 f.c, .int .i64 f.h, .slice AK f.K.length cK, .slice AL f.L.length cL] 28)).block _ (Nat.lt_of_lt_of_le HR0.out.lt hon1.size) (fun q => by injection q with q; omega)))
  have ONB := hide (on_alloc (on_call hon1 (on_below HB0.out (on_refl w (some (w.heap.size + 1))))) (.cells #[.slice AW f.W.length cW, .int .i64 f.a, .int .i64 f.b, .int .i64 f.c, .int .i64 f.h, .slice AK f.K.length cK, .slice AL f.L.length cL] 28))
  have HRD := hide (hrd1.alloc (.cells #[.slice AW f.W.length cW, .int .i64 f.a, .int .i64 f.b, .int .i64 f.c, .int .i64 f.h, .slice AK f.K.length cK, .slice AL f.L.length cL] 28))
  have HF1 := hide (fb_new u1 (.slice AW f.W.length cW) (.int .i64 f.a) (.int .i64 f.b) (.int .i64 f.c) (.int .i64 f.h) (.slice AK f.K.length cK) (.slice AL f.L.length cL) 28)
  have HFG := hide (hfg.more (on_alloc (on_refl u1 (some (w.heap.size + 1))) (.cells #[.slice AW f.W.length cW, .int .i64 f.a, .int .i64 f.b, .int .i64 f.c, .int .i64 f.h, .slice AK f.K.length cK, .slice AL f.L.length cL] 28)))
  have hz1 := hon1.size
  have hgu : w.heap.size + 1 < u1.heap.size := by omega
  clear hon1 hfg hrd1 HR0 HRD0 HB0
  obtain ⟨b, hbe⟩ : ∃ b, b = u1.heap.size := ⟨_, rfl⟩
  have HBE := hide hbe
  clear hbe
  go_wp2_with fail
  rw [← HBE.out] at HF1 hgu ⊢
  obtain ⟨V, hV⟩ : ∃ V, V = u1.alloc (.cells #[.slice AW f.W.length cW, .int .i64 f.a, .int .i64 f.b, .int .i64 f.c, .int .i64 f.h, .slice AK f.K.length cK, .slice AL f.L.length cL] 28) := ⟨_, rfl⟩
  rw [← hV] at HF1 HFG HRD ONB HR1 ⊢
  have hzV : V.heap.size = b + 1 := by rw [hV, HBE.out]; simp
  have HZV := hide hzV
  clear hV HBE hz1 hlt0 hg0 hzV
  have hgV := HRD.out.lt
  have hbV := HF1.out.lt
  have H0 : Hid (OL (V.alloc (.cells #[] 3)) 3 V.heap.size (some ⟨b + 1, 0, none⟩) 0 []) := hide (by
    have := OL.lit (w := V) (e := 3) (B := V.heap.size) (Nat.le_refl _) [] (by simp)
    rw [← HZV.out]
    simpa using this)
  rw [show b + 1 + 1 = (V.alloc (.cells #[] 3)).heap.size from by simp [HZV.out]]
  refine (one_any _ (w.heap.size + 2) (w.heap.size + 1) _ _ _ (fun z => 0 ≤ z ∧ z ≤ 21) ((HRD.out.alloc _).alloc _) (by omega) (by exact heap_alloc_new _ _) (by simp; omega) (by rfl) (by decide) (by simp)).mono ?_
  rintro e u2 ⟨z, ⟨hz0, hz21⟩, rfl, hrd2, hon2⟩
  have H1 := hide ((H0.out.alloc _).read hon2 hgV)
  have O1 := hide (on_call hon2 (on_alloc (on_alloc (on_refl V (some (w.heap.size + 1))) _) _))
  have HRD2 := hide hrd2
  clear hrd2 hon2 H0 HRD
  go_wp2
  go_loopw [6, 7] (fun v i u => ∃ (p m : Nat) (A : Option Addr) (cc : Nat) (l : List Int), p + m ≤ 21 ∧ i = .int .i64 m ∧ v = .slice A p cc ∧ p = l.length ∧ OL u 3 V.heap.size A cc l ∧ RD u (w.heap.size + 2) (w.heap.size + 1) (100 + p) ∧ V.grownBy u (some (w.heap.size + 1))) (fun _ i _ => (intOf i).toNat)
  case atStart => exact ⟨0, z.toNat, _, _, [], by omega, by go_num, rfl, rfl, H1.out, HRD2.out.more (by omega) (Nat.le_refl _) HRD2.out.2.1, O1.out⟩
  case round =>
    obtain ⟨p, m, A, cc, l, hpm, rfl, rfl, hpl, hol, hrd, hon⟩ := hrel
    have HPL := hide hpl
    clear hpl
    have hzr := hon.size
    rcases Nat.eq_zero_or_pos m with hm | hm
    · subst hm
      have HR2 := hide (HR1.out.of_block (hon.block _ HR1.out.lt (fun q => by injection q with q; omega)))
      have HF2 := hide (HF1.out.of_block (hon.block _ HF1.out.lt (fun q => by injection q with q; omega)))
      have HFG2 := hide (HFG.out.more hon)
      have HON := hide hon
      have hb2 : Below w.heap.size w wr := on_new (on_call hon ONB.out) (Nat.le_succ _)
      rcases Nat.eq_zero_or_pos p with hp | hp
      · have HOL := hide hol
        (have d0 := HR2.out.c0; have d1 := HR2.out.c1; have d2 := HR2.out.c2; have d3 := HR2.out.c3; have d4 := HR2.out.c4; have d5 := HR2.out.c5; have d6 := HR2.out.c6; have y0 := HR2.out.fz 0; have y1 := HR2.out.fz 1; have y2 := HR2.out.fz 2; have y3 := HR2.out.fz 3; have y4 := HR2.out.fz 4; have y5 := HR2.out.fz 5; have y6 := HR2.out.fz 6)
        (have c0 := HF2.out.c0; have c1 := HF2.out.c1; have c2 := HF2.out.c2; have c3 := HF2.out.c3; have c4 := HF2.out.c4; have c5 := HF2.out.c5; have c6 := HF2.out.c6)
        have g0 : decide ((0 : Int) < (p : Int)) = false := decide_eq_false (by omega)
        clear HR2 HF2 HR1 HF1 HFG hol hrd hon H1 O1 HRD2
        go_wp2
        (refine bodyPost_ret (v := .tuple #[fv AW f.W.length cW f.a f.b f.c f.h AK f.K.length cK AL f.L.length cL, .slice A p cc]) ?_ rfl ?_; rotate_left; exact fr_finL (g := w.heap.size + 1) (B := V.heap.size) (l := l) (by repeat' (first | with_reducible exact HFG2.out | refine FRg.setR ?_ (by omega))) (by omega) hW hK hL (by first | rfl | exact HPL.out | (rw [List.length_set]; exact HPL.out)) (by first | omega | (rw [← HPL.out]; omega) | (rw [List.length_set, ← HPL.out]; omega)) (by repeat' (first | with_reducible exact HOL.out | refine OL.setR ?_ (by omega))) (by omega) (by (repeat' (first | with_reducible exact bl_refl _ | with_reducible assumption | with_reducible refine bl_alloc ?_ _ | with_reducible refine bl_set ?_ ?_ _ | with_reducible refine bl_drewN ?_ _ | with_reducible refine bl_drew ?_ | with_reducible refine bl_call (by assumption) ?_)); (all_goals (first | omega | (simp; done) | (simp; omega)))); simp [results, Try.results11, go_sem, *])
      · go_wp2_with fail
        (with_reducible refine (pick_any _ _ _ _ _ hrd (by omega) (by omega) (by omega)).mono ?_)
        rintro e u3 ⟨r, hr0, hr1, rfl, hrd1, hon1⟩
        replace HR2 := hide (HR2.out.of_block (hon1.block _ HR2.out.lt (fun q => by injection q with q; omega)))
        replace HF2 := hide (HF2.out.of_block (hon1.block _ HF2.out.lt (fun q => by injection q with q; omega)))
        replace HFG2 := hide (HFG2.out.more hon1)
        have hol1 := hol.read hon1 hgV
        have hb3 : Below w.heap.size w u3 := on_new (on_call hon1 (on_call hon ONB.out)) (Nat.le_succ _)
        have HON1 := hide (on_call hon1 hon)
        have hz1 := hon1.size
        rcases (by omega : r = 0 ∨ r ≠ 0) with rfl | hr
        · go_wp2_with fail
          refine (one_any _ _ _ _ _ _ (fun _ => True) (hrd1.alloc _) (by omega) (by exact heap_alloc_new _ _) (by omega) (by rfl) (by decide) (by simp)).mono ?_
          rintro e u4 ⟨y, -, rfl, hrd2, hon2⟩
          replace HR2 := hide (HR2.out.of_block ((on_alloc_call hon2).block _ HR2.out.lt (fun q => by injection q with q; omega)))
          replace HF2 := hide (HF2.out.of_block ((on_alloc_call hon2).block _ HF2.out.lt (fun q => by injection q with q; omega)))
          replace HFG2 := hide (HFG2.out.more (on_alloc_call hon2))
          have hol2 := hol1.read (on_alloc_call hon2) hgV
          have hb4 : Below w.heap.size w u4 := on_new (on_call (on_alloc_call hon2) (on_call HON1.out ONB.out)) (Nat.le_succ _)
          obtain ⟨g', rfl, hBg, hgz, hfz⟩ := hol2.frozen (by rw [← HPL.out]; omega)
          obtain ⟨b', o, he, _, hc⟩ := hol2.reads.at_ (i := 0) (by rw [← HPL.out]; omega)
          injection he with he
          cases he
          have fz := hfz 0
          have HOL := hide (hol2.set_ 0 y).1
          rw [Nat.zero_add] at hc
          replace HR2 := hide (HR2.out.of_block ((hol2.set_ 0 y).2.block _ HR2.out.lt (fun q => by injection q with q; omega)))
          replace HF2 := hide (HF2.out.of_block ((hol2.set_ 0 y).2.block _ HF2.out.lt (fun q => by injection q with q; omega)))
          have HON2 : V.grownBy (u4.setCell ⟨g', 0, none⟩ (.int .i64 y)) (some (w.heap.size + 1)) := on_set (on_call (on_alloc_call hon2) HON1.out) (.inr hBg) _
          replace HFG2 := hide (HFG.out.more HON2)
          (have d0 := HR2.out.c0; have d1 := HR2.out.c1; have d2 := HR2.out.c2; have d3 := HR2.out.c3; have d4 := HR2.out.c4; have d5 := HR2.out.c5; have d6 := HR2.out.c6; have y0 := HR2.out.fz 0; have y1 := HR2.out.fz 1; have y2 := HR2.out.fz 2; have y3 := HR2.out.fz 3; have y4 := HR2.out.fz 4; have y5 := HR2.out.fz 5; have y6 := HR2.out.fz 6)
          (have c0 := HF2.out.c0; have c1 := HF2.out.c1; have c2 := HF2.out.c2; have c3 := HF2.out.c3; have c4 := HF2.out.c4; have c5 := HF2.out.c5; have c6 := HF2.out.c6)
          have g1 : (0 : Int) < (p : Int) := by omega
          have g2 : 0 < p := hp
          clear HR2 HF2 HR1 HF1 HFG hol hrd hon H1 O1 HRD2 hol1 hol2 hon1 hon2 HON HON1 HON2 hfz hrd1 hrd2
          go_wp2
          (refine bodyPost_ret (v := .tuple #[fv AW f.W.length cW f.a f.b f.c f.h AK f.K.length cK AL f.L.length cL, .slice (some ⟨g', 0, none⟩) p cc]) ?_ rfl ?_; rotate_left; exact fr_finL (g := w.heap.size + 1) (B := V.heap.size) (l := l.set 0 y) (by repeat' (first | with_reducible exact HFG2.out | refine FRg.setR ?_ (by omega))) (by omega) hW hK hL (by first | rfl | exact HPL.out | (rw [List.length_set]; exact HPL.out)) (by first | omega | (rw [← HPL.out]; omega) | (rw [List.length_set, ← HPL.out]; omega)) (by repeat' (first | with_reducible exact HOL.out | refine OL.setR ?_ (by omega))) (by omega) (by (repeat' (first | with_reducible exact bl_refl _ | with_reducible assumption | with_reducible refine bl_alloc ?_ _ | with_reducible refine bl_set ?_ ?_ _ | with_reducible refine bl_drewN ?_ _ | with_reducible refine bl_drew ?_ | with_reducible refine bl_call (by assumption) ?_)); (all_goals (first | omega | (simp; done) | (simp; omega)))); simp [results, Try.results11, go_sem, *])
        · have g0 : (r == 0) = false := beq_eq_false_iff_ne.2 hr
          have HOL := hide hol1
          (have d0 := HR2.out.c0; have d1 := HR2.out.c1; have d2 := HR2.out.c2; have d3 := HR2.out.c3; have d4 := HR2.out.c4; have d5 := HR2.out.c5; have d6 := HR2.out.c6; have y0 := HR2.out.fz 0; have y1 := HR2.out.fz 1; have y2 := HR2.out.fz 2; have y3 := HR2.out.fz 3; have y4 := HR2.out.fz 4; have y5 := HR2.out.fz 5; have y6 := HR2.out.fz 6)
          (have c0 := HF2.out.c0; have c1 := HF2.out.c1; have c2 := HF2.out.c2; have c3 := HF2.out.c3; have c4 := HF2.out.c4; have c5 := HF2.out.c5; have c6 := HF2.out.c6)
          clear HR2 HF2 HR1 HF1 HFG hol hrd hon H1 O1 HRD2
          go_wp2
          (refine bodyPost_ret (v := .tuple #[fv AW f.W.length cW f.a f.b f.c f.h AK f.K.length cK AL f.L.length cL, .slice A p cc]) ?_ rfl ?_; rotate_left; exact fr_finL (g := w.heap.size + 1) (B := V.heap.size) (l := l) (by repeat' (first | with_reducible exact HFG2.out | refine FRg.setR ?_ (by omega))) (by omega) hW hK hL (by first | rfl | exact HPL.out | (rw [List.length_set]; exact HPL.out)) (by first | omega | (rw [← HPL.out]; omega) | (rw [List.length_set, ← HPL.out]; omega)) (by repeat' (first | with_reducible exact HOL.out | refine OL.setR ?_ (by omega))) (by omega) (by (repeat' (first | with_reducible exact bl_refl _ | with_reducible assumption | with_reducible refine bl_alloc ?_ _ | with_reducible refine bl_set ?_ ?_ _ | with_reducible refine bl_drewN ?_ _ | with_reducible refine bl_drew ?_ | with_reducible refine bl_call (by assumption) ?_)); (all_goals (first | omega | (simp; done) | (simp; omega)))); simp [results, Try.results11, go_sem, *])
    · go_wp2_with fail
      refine (one_any _ _ _ _ _ _ (fun _ => True) (hrd.alloc _) (by omega) (by exact heap_alloc_new _ _) (by omega) (by rfl) (by decide) (by simp)).mono ?_
      rintro e u3 ⟨y, -, rfl, hrd1, hon1⟩
      have hol1 := (hol.alloc _).read hon1 hgV
      have O2 := hide (on_call hon1 (on_alloc hon _))
      have hz1 := hon1.size
      simp at hz1
      clear hon1 hon hol hrd
      go_wp2_with (at_builtin; refine wpList_append_int rfl (.tmp 20) (.tmp 24) _ rfl 3 i0 Try.underlying23 hi0 jz0 jz1 jz2 V.heap.size A cc p l rfl (HPL.out) (hol1.alloc _) u3.heap.size y rfl (by simp) (by omega) (by simp; omega) ?_; intro A' c' w' hol' hb' hg')
      go_roundw
      case rel =>
        refine ⟨p + 1, m - 1, A', c', l ++ [y], by omega, by go_num, rfl, by simp [HPL.out], hol', ?_, ?_⟩
        · exact ((hrd1.alloc _).below' hb' (by omega)).more (by omega) (Nat.le_refl _) (by have := hb'.size; simp at this; omega)
        · exact on_below' hb' (Nat.le_refl _) (on_alloc O2.out _)
      case measure => simp [intOf]; omega
end Go.Proofs.Ytlfhfbeacleggab
