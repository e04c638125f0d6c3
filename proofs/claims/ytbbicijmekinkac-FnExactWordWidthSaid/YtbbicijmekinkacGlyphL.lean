/- The exact law on GlyphsOf holds at every input: it answers as its model does, writes into no argument, and what it returns is its own. No condition. -/
import Derived.Test.YtbbicijmekinkacFontL
import Derived.Test.YtbbicijmekinkacGlyphS
namespace Go.Proofs.Ytbbicijmekinkac
open Go.ChangeShapes Go.WideShapes Go.ChangeAt Go.RowKit
set_option linter.unusedVariables false
set_option maxRecDepth 4000

set_option maxHeartbeats 1000000 in
theorem GlyphsOf_s (w : World) (v : Value) (f : Ft) (s : ByteArray) (h : FR w v f) (h1 : f.W.length ≤ 4611686018427387904) (h2 : f.K.length ≤ 4611686018427387904) (h3 : f.L.length ≤ 4611686018427387904) (hs : s.size ≤ 1048576) :
    Calls Try.prog 20 #[v, .string s] w fun e w' => ∃ A c, e = .returned (.slice A (glA f s).length c) ∧ OL w' 3 w.heap.size A c (glA f s) ∧ Below w.heap.size w w' := by
  have HF := hide h
  obtain ⟨AW, cW, AK, cK, AL, cL, rfl, hW, hK, hL⟩ := h
  clear hW hK hL
  obtain ⟨ok, hok⟩ : ∃ ok, ok = fok f := ⟨_, rfl⟩
  have VF := fun (u : World) (hh : FR u (fv AW f.W.length cW f.a f.b f.c f.h AK f.K.length cK AL f.L.length cL) f) => validFont_s u (fv AW f.W.length cW f.a f.b f.c f.h AK f.K.length cK AL f.L.length cL) f hh h1 h2 h3
  rw [← hok] at VF
  have HVF := hide VF
  have HOK := hide hok
  clear VF hok
  cases ok
  · have E := hide (glA_no (f := f) (s := s) (fun x => by rw [← HOK.out] at x; cases x.1))
    go_enter Try.func20, Try.ntmps20
    go_wp2_with (go_at_call 49; (with_reducible refine (HVF.out _ (HF.out.below (by (repeat' (first | with_reducible exact bl_refl _ | with_reducible assumption | with_reducible refine bl_alloc ?_ _ | with_reducible refine bl_set ?_ ?_ _ | with_reducible refine bl_drewN ?_ _ | with_reducible refine bl_drew ?_ | with_reducible refine bl_call (by assumption) ?_)); (all_goals (first | omega | (simp; done) | (simp; omega)))))).mono ?_); rintro e w' ⟨rfl, hb⟩; obtain ⟨hc, hf⟩ := bcell hb; have hz := bl_sz hb; (try simp at hz); (try (have z0 : w.heap.size < w'.heap.size := (by omega); have y0 := Nat.le_of_lt z0)); (try (have z1 : w.heap.size + 1 < w'.heap.size := (by omega); have y1 := Nat.le_of_lt z1)); (try (have z2 : w.heap.size + 1 + 1 < w'.heap.size := (by omega); have y2 := Nat.le_of_lt z2)); (try (have z3 : w.heap.size + 1 + 1 + 1 < w'.heap.size := (by omega); have y3 := Nat.le_of_lt z3)); (try (have z4 : u1.heap.size < w'.heap.size := (by omega); have y4 := Nat.le_of_lt z4)); (try (have z5 : u1.heap.size + 1 < w'.heap.size := (by omega); have y5 := Nat.le_of_lt z5)); (try (have z6 : u2.heap.size < w'.heap.size := (by omega); have y6 := Nat.le_of_lt z6)); (try (have z7 : u2.heap.size + 1 < w'.heap.size := (by omega); have y7 := Nat.le_of_lt z7)); (try (have z8 : u3.heap.size < w'.heap.size := (by omega); have y8 := Nat.le_of_lt z8)); (try (have z9 : u3.heap.size + 1 < w'.heap.size := (by omega); have y9 := Nat.le_of_lt z9)); (try (have z10 : u4.heap.size < w'.heap.size := (by omega); have y10 := Nat.le_of_lt z10)); (try (have z11 : u4.heap.size + 1 < w'.heap.size := (by omega); have y11 := Nat.le_of_lt z11)); (try (have z12 : u5.heap.size < w'.heap.size := (by omega); have y12 := Nat.le_of_lt z12)); (try (have z13 : u5.heap.size + 1 < w'.heap.size := (by omega); have y13 := Nat.le_of_lt z13)); (try (have z14 : u6.heap.size < w'.heap.size := (by omega); have y14 := Nat.le_of_lt z14)); (try (have z15 : u6.heap.size + 1 < w'.heap.size := (by omega); have y15 := Nat.le_of_lt z15)); (try (have zg : g < w'.heap.size := (by omega); have yg := Nat.le_of_lt zg)); (try (have zc : wc.heap.size < w'.heap.size := (by omega); have yc := Nat.le_of_lt zc)); (try (have zd : wc.heap.size + 1 < w'.heap.size := (by omega); have yd := Nat.le_of_lt zd)); (first | (have _k := u7; clear _k; rename World => u8) | (have _k := u6; clear _k; rename World => u7) | (have _k := u5; clear _k; rename World => u6) | (have _k := u4; clear _k; rename World => u5) | (have _k := u3; clear _k; rename World => u4) | (have _k := u2; clear _k; rename World => u3) | (have _k := u1; clear _k; rename World => u2) | (rename World => u1)))
    go_ret
    refine ⟨none, 0, by rw [E.out]; rfl, by rw [E.out]; exact OL.nil _ _ _, ?_⟩
    (repeat' (first | with_reducible exact bl_refl _ | with_reducible assumption | with_reducible refine bl_alloc ?_ _ | with_reducible refine bl_set ?_ ?_ _ | with_reducible refine bl_drewN ?_ _ | with_reducible refine bl_drew ?_ | with_reducible refine bl_call (by assumption) ?_))
  · cases q : okWord s
    · have E := hide (glA_no (f := f) (s := s) (fun x => by rw [q] at x; cases x.2))
      go_enter Try.func20, Try.ntmps20
      go_wp2_with (first | (go_at_call 49; (with_reducible refine (HVF.out _ (HF.out.below (by (repeat' (first | with_reducible exact bl_refl _ | with_reducible assumption | with_reducible refine bl_alloc ?_ _ | with_reducible refine bl_set ?_ ?_ _ | with_reducible refine bl_drewN ?_ _ | with_reducible refine bl_drew ?_ | with_reducible refine bl_call (by assumption) ?_)); (all_goals (first | omega | (simp; done) | (simp; omega)))))).mono ?_); rintro e w' ⟨rfl, hb⟩; obtain ⟨hc, hf⟩ := bcell hb; have hz := bl_sz hb; (try simp at hz); (try (have z0 : w.heap.size < w'.heap.size := (by omega); have y0 := Nat.le_of_lt z0)); (try (have z1 : w.heap.size + 1 < w'.heap.size := (by omega); have y1 := Nat.le_of_lt z1)); (try (have z2 : w.heap.size + 1 + 1 < w'.heap.size := (by omega); have y2 := Nat.le_of_lt z2)); (try (have z3 : w.heap.size + 1 + 1 + 1 < w'.heap.size := (by omega); have y3 := Nat.le_of_lt z3)); (try (have z4 : u1.heap.size < w'.heap.size := (by omega); have y4 := Nat.le_of_lt z4)); (try (have z5 : u1.heap.size + 1 < w'.heap.size := (by omega); have y5 := Nat.le_of_lt z5)); (try (have z6 : u2.heap.size < w'.heap.size := (by omega); have y6 := Nat.le_of_lt z6)); (try (have z7 : u2.heap.size + 1 < w'.heap.size := (by omega); have y7 := Nat.le_of_lt z7)); (try (have z8 : u3.heap.size < w'.heap.size := (by omega); have y8 := Nat.le_of_lt z8)); (try (have z9 : u3.heap.size + 1 < w'.heap.size := (by omega); have y9 := Nat.le_of_lt z9)); (try (have z10 : u4.heap.size < w'.heap.size := (by omega); have y10 := Nat.le_of_lt z10)); (try (have z11 : u4.heap.size + 1 < w'.heap.size := (by omega); have y11 := Nat.le_of_lt z11)); (try (have z12 : u5.heap.size < w'.heap.size := (by omega); have y12 := Nat.le_of_lt z12)); (try (have z13 : u5.heap.size + 1 < w'.heap.size := (by omega); have y13 := Nat.le_of_lt z13)); (try (have z14 : u6.heap.size < w'.heap.size := (by omega); have y14 := Nat.le_of_lt z14)); (try (have z15 : u6.heap.size + 1 < w'.heap.size := (by omega); have y15 := Nat.le_of_lt z15)); (try (have zg : g < w'.heap.size := (by omega); have yg := Nat.le_of_lt zg)); (try (have zc : wc.heap.size < w'.heap.size := (by omega); have yc := Nat.le_of_lt zc)); (try (have zd : wc.heap.size + 1 < w'.heap.size := (by omega); have yd := Nat.le_of_lt zd)); (first | (have _k := u7; clear _k; rename World => u8) | (have _k := u6; clear _k; rename World => u7) | (have _k := u5; clear _k; rename World => u6) | (have _k := u4; clear _k; rename World => u5) | (have _k := u3; clear _k; rename World => u4) | (have _k := u2; clear _k; rename World => u3) | (have _k := u1; clear _k; rename World => u2) | (rename World => u1))) | (go_at_call 58; refine (isWord_s _ _ (by omega)).mono ?_; rintro e w' ⟨rfl, rfl⟩))
      go_ret
      refine ⟨none, 0, by rw [E.out]; rfl, by rw [E.out]; exact OL.nil _ _ _, ?_⟩
      (repeat' (first | with_reducible exact bl_refl _ | with_reducible assumption | with_reducible refine bl_alloc ?_ _ | with_reducible refine bl_set ?_ ?_ _ | with_reducible refine bl_drewN ?_ _ | with_reducible refine bl_drew ?_ | with_reducible refine bl_call (by assumption) ?_))
    · have GC := hide (fun (u : World) (hh : FR u (fv AW f.W.length cW f.a f.b f.c f.h AK f.K.length cK AL f.L.length cL) f) => glyphsOf_s u _ f s hh HOK.out.symm q)
      go_enter Try.func20, Try.ntmps20
      go_wp2_with (first | (go_at_call 49; (with_reducible refine (HVF.out _ (HF.out.below (by (repeat' (first | with_reducible exact bl_refl _ | with_reducible assumption | with_reducible refine bl_alloc ?_ _ | with_reducible refine bl_set ?_ ?_ _ | with_reducible refine bl_drewN ?_ _ | with_reducible refine bl_drew ?_ | with_reducible refine bl_call (by assumption) ?_)); (all_goals (first | omega | (simp; done) | (simp; omega)))))).mono ?_); rintro e w' ⟨rfl, hb⟩; obtain ⟨hc, hf⟩ := bcell hb; have hz := bl_sz hb; (try simp at hz); (try (have z0 : w.heap.size < w'.heap.size := (by omega); have y0 := Nat.le_of_lt z0)); (try (have z1 : w.heap.size + 1 < w'.heap.size := (by omega); have y1 := Nat.le_of_lt z1)); (try (have z2 : w.heap.size + 1 + 1 < w'.heap.size := (by omega); have y2 := Nat.le_of_lt z2)); (try (have z3 : w.heap.size + 1 + 1 + 1 < w'.heap.size := (by omega); have y3 := Nat.le_of_lt z3)); (try (have z4 : u1.heap.size < w'.heap.size := (by omega); have y4 := Nat.le_of_lt z4)); (try (have z5 : u1.heap.size + 1 < w'.heap.size := (by omega); have y5 := Nat.le_of_lt z5)); (try (have z6 : u2.heap.size < w'.heap.size := (by omega); have y6 := Nat.le_of_lt z6)); (try (have z7 : u2.heap.size + 1 < w'.heap.size := (by omega); have y7 := Nat.le_of_lt z7)); (try (have z8 : u3.heap.size < w'.heap.size := (by omega); have y8 := Nat.le_of_lt z8)); (try (have z9 : u3.heap.size + 1 < w'.heap.size := (by omega); have y9 := Nat.le_of_lt z9)); (try (have z10 : u4.heap.size < w'.heap.size := (by omega); have y10 := Nat.le_of_lt z10)); (try (have z11 : u4.heap.size + 1 < w'.heap.size := (by omega); have y11 := Nat.le_of_lt z11)); (try (have z12 : u5.heap.size < w'.heap.size := (by omega); have y12 := Nat.le_of_lt z12)); (try (have z13 : u5.heap.size + 1 < w'.heap.size := (by omega); have y13 := Nat.le_of_lt z13)); (try (have z14 : u6.heap.size < w'.heap.size := (by omega); have y14 := Nat.le_of_lt z14)); (try (have z15 : u6.heap.size + 1 < w'.heap.size := (by omega); have y15 := Nat.le_of_lt z15)); (try (have zg : g < w'.heap.size := (by omega); have yg := Nat.le_of_lt zg)); (try (have zc : wc.heap.size < w'.heap.size := (by omega); have yc := Nat.le_of_lt zc)); (try (have zd : wc.heap.size + 1 < w'.heap.size := (by omega); have yd := Nat.le_of_lt zd)); (first | (have _k := u7; clear _k; rename World => u8) | (have _k := u6; clear _k; rename World => u7) | (have _k := u5; clear _k; rename World => u6) | (have _k := u4; clear _k; rename World => u5) | (have _k := u3; clear _k; rename World => u4) | (have _k := u2; clear _k; rename World => u3) | (have _k := u1; clear _k; rename World => u2) | (rename World => u1))) | (go_at_call 58; refine (isWord_s _ _ (by omega)).mono ?_; rintro e w' ⟨rfl, rfl⟩))
      have hb1 : Below w.heap.size w u1 := (by (repeat' (first | with_reducible exact bl_refl _ | with_reducible assumption | with_reducible refine bl_alloc ?_ _ | with_reducible refine bl_set ?_ ?_ _ | with_reducible refine bl_drewN ?_ _ | with_reducible refine bl_drew ?_ | with_reducible refine bl_call (by assumption) ?_)); (all_goals (first | omega | (simp; done) | (simp; omega))))
      (with_reducible refine (GC.out _ (HF.out.below hb1)).mono ?_)
      rintro e u2 ⟨A, c, rfl, ho, hb2⟩
      have ho2 := ho.more hb1.size
      go_wp2
      go_ret
      exact ⟨A, c, rfl, ho2, bl_call hb2 hb1⟩

theorem bl_undrewN {W w1 : World} {k : Nat} (h : Below (W.drewN k).heap.size (W.drewN k) w1) : Below W.heap.size W w1 := ⟨h.os, h.tape, h.output, h.size, h.block⟩
theorem keep_sp {B T : Nat} {w w' : World} (hs : Sp B T w w') {p : Addr} {v : Value} (hc : w.cell? p = some v) (hp : p.block < B ∨ T ≤ p.block) : w'.cell? p = some v :=
  (World.cell?_of_block (hs.block _ (World.block_lt_of_cell? w _ hc) hp)).trans hc
theorem keep_gr {row : Option Nat} {w w' : World} (hg : w.grownBy w' row) {p : Addr} {v : Value} (hc : w.cell? p = some v) (hp : ∀ k, row = some k → k ≠ p.block) : w'.cell? p = some v :=
  (World.cell?_of_block (hg.block _ (World.block_lt_of_cell? w _ hc) (fun e => hp _ e.symm rfl))).trans hc
set_option maxHeartbeats 4000000 in
theorem walk_FnExactGlyphsOf (v : Value) (f : Ft) (s : ByteArray) (w : World) (hf : FR w v f) (h1 : f.W.length ≤ maxLen) (h2 : f.K.length ≤ maxLen) (h3 : f.L.length ≤ maxLen) (hs : s.size ≤ maxLen) :
    Calls Try.prog 4 #[v, .string s] w fun e w' => e = .returned (.bool true) ∧ Below w.heap.size w w' := by
  unfold maxLen at h1 h2 h3 hs
  have HF := hide hf
  obtain ⟨AW, cW, AK, cK, AL, cL, rfl, hW, hK, hL⟩ := hf
  clear hW hK hL
  rcases (by omega : 1048576 < s.size ∨ s.size ≤ 1048576) with hb0 | hb0
  · go_enter Try.func4, Try.ntmps4
    go_wp2
    go_ret
    exact ⟨rfl, bl_alloc (bl_refl _) _⟩
  go_enter Try.func4, Try.ntmps4
  go_wp2_with fail
  (with_reducible refine (szFont_l _ _ f (HF.out.below (by (repeat' (first | with_reducible exact bl_refl _ | with_reducible assumption | with_reducible refine bl_alloc ?_ _ | with_reducible refine bl_set ?_ ?_ _ | with_reducible refine bl_drewN ?_ _ | with_reducible refine bl_drew ?_ | with_reducible refine bl_call (by assumption) ?_)); (all_goals (first | omega | (simp; done) | (simp; omega))))) (by omega) (by omega) (by omega)).mono ?_)
  rintro e u1 ⟨z, rfl, hzz, hb⟩
  have HB1 := hide (bl_call hb (bl_alloc (bl_refl _) _))
  rcases hzz with hzz | ⟨hzz, hsum⟩
  · go_wp2
    go_ret
    exact ⟨rfl, HB1.out⟩
  have z0' : ¬ z < 0 := by omega
  have hlen : (glA f s).length ≤ 20 := by
    unfold glA
    split
    · rename_i hx
      have := gw_len f.L s s.size
      have := (okWord_iff.1 hx.2).1
      omega
    · simp
  have CS := fun (u : World) (vv : Value) (h : FR u vv f) => GlyphsOf_s u vv f s h (by omega) (by omega) (by omega) hb0
  have CI := fun (u : World) (vv : Value) (h : FR u vv f) => GlyphsOf_i u vv f s h (by omega) (by omega) (by omega) hb0
  obtain ⟨L, hL⟩ : ∃ L, L = glA f s := ⟨_, rfl⟩
  rw [← hL] at CS CI hlen
  have HCS := hide CS
  have HCI := hide CI
  clear CS CI hL
  obtain ⟨hc, hq⟩ := bcell hb
  have m0 : u1.cell? ⟨w.heap.size, 0, none⟩ = some (.slice AW f.W.length cW) := by simp [go_sem, *]
  have m1 : u1.cell? ⟨w.heap.size, 1, none⟩ = some (.int .i64 f.a) := by simp [go_sem, *]
  have m2 : u1.cell? ⟨w.heap.size, 2, none⟩ = some (.int .i64 f.b) := by simp [go_sem, *]
  have m3 : u1.cell? ⟨w.heap.size, 3, none⟩ = some (.int .i64 f.c) := by simp [go_sem, *]
  have m4 : u1.cell? ⟨w.heap.size, 4, none⟩ = some (.int .i64 f.h) := by simp [go_sem, *]
  have m5 : u1.cell? ⟨w.heap.size, 5, none⟩ = some (.slice AK f.K.length cK) := by simp [go_sem, *]
  have m6 : u1.cell? ⟨w.heap.size, 6, none⟩ = some (.slice AL f.L.length cL) := by simp [go_sem, *]
  have m0w : u1.cell? ⟨w.heap.size, 0, none⟩ = some (.slice AW f.W.length cW) := m0
  have HM0W := hide m0w
  clear hc hq hb m0w
  go_wp2_with fail
  (with_reducible refine (toFont_l _ _ f (HF.out.below HB1.out) (by omega) (by omega) (by omega)).mono ?_)
  rintro e u2 ⟨v1, rfl, hfo, hb⟩
  have HR1 := hide hfo.reads
  clear hfo
  have HB2 := hide (bl_call hb HB1.out)
  have HB12 := hide hb
  (replace m0 := keep_cell hb m0; replace m1 := keep_cell hb m1; replace m2 := keep_cell hb m2; replace m3 := keep_cell hb m3; replace m4 := keep_cell hb m4; replace m5 := keep_cell hb m5; replace m6 := keep_cell hb m6)
  clear hb
  go_wp2_with fail
  (with_reducible refine (HCS.out _ _ HR1.out).mono ?_)
  rintro e u3 ⟨A1, c1, rfl, ho1, hb⟩
  have L1 : Hid (∀ k, (Value.slice A1 L.length c1).ownBlock = some k → k < u3.heap.size) := hide (fun k hk => (ho1.own_lt k hk).2)
  have HB3 := hide (bl_call hb HB2.out)
  have HB23 := hide hb
  (replace m0 := keep_cell hb m0; replace m1 := keep_cell hb m1; replace m2 := keep_cell hb m2; replace m3 := keep_cell hb m3; replace m4 := keep_cell hb m4; replace m5 := keep_cell hb m5; replace m6 := keep_cell hb m6)
  clear hb
  go_wp2_with fail
  (with_reducible refine (toFont_l _ _ f (HF.out.below HB3.out) (by omega) (by omega) (by omega)).mono ?_)
  rintro e u4 ⟨v2, rfl, hfo, hb⟩
  have HFO := hide hfo
  obtain ⟨B1, d1, B2, d2, B3, d3, rfl, g1, g2, g3, g4⟩ := hfo
  clear g1 g2 g3 g4
  have HB4 := hide (bl_call hb HB3.out)
  have HB34 := hide hb
  have hz34 := hb.size
  (replace m0 := keep_cell hb m0; replace m1 := keep_cell hb m1; replace m2 := keep_cell hb m2; replace m3 := keep_cell hb m3; replace m4 := keep_cell hb m4; replace m5 := keep_cell hb m5; replace m6 := keep_cell hb m6)
  replace ho1 := ho1.below hb
  clear hb
  go_wp2_with fail
  (with_reducible refine (HCI.out _ _ (HFO.out.reads.below (by (repeat' (first | with_reducible exact bl_refl _ | with_reducible assumption | with_reducible refine bl_alloc ?_ _ | with_reducible refine bl_set ?_ ?_ _ | with_reducible refine bl_drewN ?_ _ | with_reducible refine bl_drew ?_ | with_reducible refine bl_call (by assumption) ?_)); (all_goals (first | omega | (simp; done) | (simp; omega)))))).mono ?_)
  rintro e u5 ⟨A2, c2, rfl, ho2, hb⟩
  obtain ⟨hc, hq⟩ := bcell hb
  have j0 : u5.cell? ⟨u4.heap.size, 0, none⟩ = some (.slice B1 f.W.length d1) := by simp [go_sem, *]
  have j1 : u5.cell? ⟨u4.heap.size, 1, none⟩ = some (.int .i64 f.a) := by simp [go_sem, *]
  have j2 : u5.cell? ⟨u4.heap.size, 2, none⟩ = some (.int .i64 f.b) := by simp [go_sem, *]
  have j3 : u5.cell? ⟨u4.heap.size, 3, none⟩ = some (.int .i64 f.c) := by simp [go_sem, *]
  have j4 : u5.cell? ⟨u4.heap.size, 4, none⟩ = some (.int .i64 f.h) := by simp [go_sem, *]
  have j5 : u5.cell? ⟨u4.heap.size, 5, none⟩ = some (.slice B2 f.K.length d2) := by simp [go_sem, *]
  have j6 : u5.cell? ⟨u4.heap.size, 6, none⟩ = some (.slice B3 f.L.length d3) := by simp [go_sem, *]
  clear hc hq
  replace m0 := keep_cell hb (keep_alloc m0 _)
  replace m1 := keep_cell hb (keep_alloc m1 _)
  replace m2 := keep_cell hb (keep_alloc m2 _)
  replace m3 := keep_cell hb (keep_alloc m3 _)
  replace m4 := keep_cell hb (keep_alloc m4 _)
  replace m5 := keep_cell hb (keep_alloc m5 _)
  replace m6 := keep_cell hb (keep_alloc m6 _)
  replace ho1 := (ho1.alloc _).below hb
  have HB5 := hide (bl_call hb (bl_alloc HB4.out _))
  have HFO5 := hide (HFO.out.below (bl_call hb (bl_alloc (bl_refl _) _)))
  have hz45 := hb.size
  simp at hz45
  have W12 : Hid (∀ k, (Value.slice A1 L.length c1).ownBlock = some k → (Value.slice A2 L.length c2).ownBlock ≠ some k) := hide (fun k h1 h2 => by
    have a := L1.out k h1
    have b := (ho2.own_lt k h2).1
    simp at b
    omega)
  clear hb HFO
  go_wp2_with fail
  (with_reducible refine (eqIntS_l _ _ _ _ _ _ _ L L ho2.reads ho1.reads (by omega) (by omega)).mono ?_)
  rintro e w' ⟨rfl, j, rfl⟩
  simp only [decide_true]
  go_wp2_with fail
  go_region_with (first | (go_at_call 17; (with_reducible refine (toFont_l _ _ f (HF.out.below (bl_drewN HB5.out _)) (by omega) (by omega) (by omega)).mono ?_); rintro e u6 ⟨v3, rfl, hfo, hb⟩; have HR3 := hide hfo.reads; obtain ⟨E1, e1, E2, e2, E3, e3, rfl, g1, g2, g3, g4⟩ := hfo; clear g1 g2 g3 g4; replace hb := bl_undrewN hb; have HB56 := hide hb; (replace m0 := keep_cell hb m0; replace m1 := keep_cell hb m1; replace m2 := keep_cell hb m2; replace m3 := keep_cell hb m3; replace m4 := keep_cell hb m4; replace m5 := keep_cell hb m5; replace m6 := keep_cell hb m6); (replace j0 := keep_cell hb j0; replace j1 := keep_cell hb j1; replace j2 := keep_cell hb j2; replace j3 := keep_cell hb j3; replace j4 := keep_cell hb j4; replace j5 := keep_cell hb j5; replace j6 := keep_cell hb j6); clear hb) | (go_at_call 19; (with_reducible refine (eqFont_l _ _ _ f (HFO5.out.reads.below HB56.out) HR3.out (by omega) (by omega) (by omega)).mono ?_); rintro e u7 ⟨rfl, hb⟩; have HB67 := hide hb; (replace m0 := keep_cell hb m0; replace m1 := keep_cell hb m1; replace m2 := keep_cell hb m2; replace m3 := keep_cell hb m3; replace m4 := keep_cell hb m4; replace m5 := keep_cell hb m5; replace m6 := keep_cell hb m6); (replace j0 := keep_cell hb j0; replace j1 := keep_cell hb j1; replace j2 := keep_cell hb j2; replace j3 := keep_cell hb j3; replace j4 := keep_cell hb j4; replace j5 := keep_cell hb j5; replace j6 := keep_cell hb j6); clear hb))
  all_goals
    have HB57 := hide (bl_call HB67.out HB56.out)
    have HB7 := hide (bl_call HB57.out HB5.out)
    have o1 := ho1.below HB57.out
    have o2 := ho2.below HB57.out
    go_wp2_with fail
    (with_reducible refine (markFont_l _ _ _ _ f (HFO5.out.below HB57.out) hsum).mono ?_)
    rintro e u8 ⟨k, rfl, hk, hsp⟩
    have hk0 : ¬ k < 0 := by omega
    have sw : w.heap.size < u3.heap.size := Nat.lt_of_lt_of_le (World.block_lt_of_cell? u1 _ HM0W.out) (Nat.le_trans HB12.out.size HB23.out.size)
    replace m0 := keep_sp hsp m0 (.inl sw)
    replace m1 := keep_sp hsp m1 (.inl sw)
    replace m2 := keep_sp hsp m2 (.inl sw)
    replace m3 := keep_sp hsp m3 (.inl sw)
    replace m4 := keep_sp hsp m4 (.inl sw)
    replace m5 := keep_sp hsp m5 (.inl sw)
    replace m6 := keep_sp hsp m6 (.inl sw)
    clear j0 j1 j2 j3 j4 j5 j6
    have o1 : OL u8 3 u2.heap.size A1 c1 L := own_sp o1 hsp (fun k hk => .inl (L1.out k hk))
    have o2 := o2.sp hsp (by simp)
    have HB8 := hide (bl_sp HB7.out hsp HB3.out.size)
    go_wp2_with fail
    (with_reducible refine (eqIntS_l _ _ _ _ _ _ _ L L o2.reads o1.reads (by omega) (by omega)).mono ?_)
    rintro e w' ⟨rfl, j8, rfl⟩
    simp only [decide_true]
    go_wp2_with fail
    (with_reducible refine (markIntS_l _ _ _ _ _ L 1 (o2.drewN j8) (by omega) (by omega) (by omega)).mono ?_)
    rintro e u9 ⟨rfl, o9, hg9⟩
    have o1 := (o1.drewN j8).kept hg9 (fun k h1 h2 => W12.out k h1 h2)
    have ne : ∀ k, (Value.slice A2 L.length c2).ownBlock = some k → k ≠ w.heap.size := fun k hk e => by
      have := (o2.own_lt k hk).1
      simp at this
      omega
    replace m0 := keep_gr hg9 m0 ne
    replace m1 := keep_gr hg9 m1 ne
    replace m2 := keep_gr hg9 m2 ne
    replace m3 := keep_gr hg9 m3 ne
    replace m4 := keep_gr hg9 m4 ne
    replace m5 := keep_gr hg9 m5 ne
    replace m6 := keep_gr hg9 m6 ne
    have HB9 := hide ((bl_drewN HB8.out j8).grown hg9 HB8.out.size (fun k hk => by
      have := (o2.own_lt k hk).1
      simp at this
      omega))
    have hr9 := o9.reads
    rw [upto_len] at hr9
    have HR9 := hide hr9
    clear hg9 o9 hr9 ne o2 hsp
    go_wp2_with fail
    (with_reducible refine (heldIntS_l _ _ _ _ 1 HR9.out (by omega) (by omega) (by omega)).mono ?_)
    rintro e w' ⟨rfl, rfl⟩
    go_wp2_with fail
    (with_reducible refine (toFont_l _ _ f (HF.out.below HB9.out) (by omega) (by omega) (by omega)).mono ?_)
    rintro e u10 ⟨v4, rfl, hfo, hb10⟩
    go_wp2_with fail
    (with_reducible refine (HCI.out _ _ hfo.reads).mono ?_)
    rintro e u11 ⟨A4, c4, rfl, o4, hb11⟩
    have o1 := (o1.below hb10).below hb11
    have hr11 := (HR9.out.below hb10).below hb11
    go_wp2_with fail
    (with_reducible refine (eqIntS_l _ _ _ _ _ _ _ L L o4.reads o1.reads (by omega) (by omega)).mono ?_)
    rintro e w' ⟨rfl, j12, rfl⟩
    simp only [decide_true]
    go_wp2_with fail
    (with_reducible refine (heldIntS_l _ _ _ _ 1 (hr11.drewN j12) (by omega) (by omega) (by omega)).mono ?_)
    rintro e w' ⟨rfl, rfl⟩
    go_wp2
    go_ret
    exact ⟨rfl, bl_drewN (bl_call hb11 (bl_call hb10 HB9.out)) _⟩
set_option maxRecDepth 100000 in
theorem lifted_FnExactGlyphsOf (os : Os) (started : os.Started) (H : Type) (enc : TypeId × Value → H) :
    ReturnsInHanded {} Try.checked os 4 .any (Rows.fnExactGlyphsOfSpec.pre6 enc Try.prog Try.f4 Rows.fnExactGlyphsOfRow.domain false) (Rows.fnExactGlyphsOfSpec.post enc Try.prog Try.f4 false true false false) := by
  refine returnsInHanded_of_change (C := Try.checked) own_knob started (by kernel_rfl) Try.func4
    (ChangeSpec.witness6 (enc := enc) (C := Try.checked) false ⟨#[], #[.agg #[.slice none 0 0, .int .i64 0, .int .i64 0, .int .i64 0, .int .i64 0, .slice none 0 0, .slice none 0 0], .string ByteArray.empty], []⟩ 8 (by kernel_rfl) (by kernel_rfl) (by kernel_rfl) (by kernel_rfl)) ?_
  intro W base args ds gs before hval0 hW hcnd _
  have hval : ∀ (j : Nat) t v, Try.f4.params[j]? = some t → args[j]? = some v → Value.okWide Try.prog W .any base t v := hval0
  have hW' := hW
  obtain ⟨p, q, hA0, hV, rfl, hfz, hnd⟩ := hW
  have hA : DataW.TrodAll enc Try.prog W 0 (fun _ => true) true Try.f4.params.toList args.toList ds p := hA0
  rw [Try.params4] at hA hval
  obtain ⟨v0, vs0, d0, ds0, p0, q0, hargs, rfl, rfl, zh0, r0⟩ := trodAll_cons hA
  obtain ⟨v1, vs1, d1, ds1, p1, q1, rfl, rfl, rfl, zh1, r1⟩ := trodAll_cons r0
  obtain ⟨rfl, rfl, rfl⟩ := trodAll_nil r1
  obtain rfl : args = #[v0, v1] := by cases args; simp_all
  obtain ⟨rfl, rfl⟩ := trodVars_none hV
  have zk0 := zh0
  have zl0 : ∀ x ∈ p0, x.block < W.heap.size := by obtain ⟨m, hm⟩ := zk0; exact DataW.trod_lt m _ _ _ hm
  have zk1 := zh1
  have zl1 : ∀ x ∈ p1, x.block < W.heap.size := by obtain ⟨m, hm⟩ := zk1; exact DataW.trod_lt m _ _ _ hm
  clear hA0 hval0
  obtain ⟨f_a, fr_a, l1_a, l2_a, l3_a⟩ := font_in Try.underlying27 (by kernel_rfl) rfl rfl rfl rfl rfl (by kernel_rfl) (by kernel_rfl) (by kernel_rfl) (by kernel_rfl) (by kernel_rfl) (e0 := 3) (e3 := 90) (by kernel_rfl) (by kernel_rfl) (by kernel_rfl) (by kernel_rfl) (by kernel_rfl) (by kernel_rfl) (by kernel_rfl) (by kernel_rfl) (by kernel_rfl) (hval 0 27 v0 rfl rfl) zh0
  obtain ⟨s, rfl, rfl, rfl, w_s⟩ := Go.ChangeMaps.open_string Try.underlying9 (hval 1 9 v1 rfl rfl) zh1
  refine (walk_FnExactGlyphsOf v0 f_a s W fr_a l1_a l2_a l3_a w_s).mono fun e W' ⟨he, bel⟩ => ?_
  subst he
  exact ⟨_, rfl, _, _, _, [], _, [], hW', trodAll_mk1 (shut_bool Try.underlying4 _), (trodAll_cons_mk (Below.trod laid_out (by kernel_rfl) (of_decide_eq_true (by kernel_rfl)) zk0 bel zl0) (trodAll_cons_mk (Below.trod laid_out (by kernel_rfl) (of_decide_eq_true (by kernel_rfl)) zk1 bel zl1) trodAll_mk0)), rfl, bel.frame _, fun h => by cases h⟩

/-- The statement. -/
theorem FnExactGlyphsOf_holds : Rows.FnExactGlyphsOfSaid :=
  OpenClaim.holds_of_wide 4 Try.f4 rfl rfl rfl rfl rfl rfl rfl ⟨rfl, rfl, rfl, rfl, rfl⟩ rfl rfl rfl rfl rfl (by kernel_rfl) Try.func4 (by kernel_rfl)
    (of_decide_eq_true (by kernel_rfl)) (by unfold Func.isWrapper; first | (rw [if_pos (by decide +kernel)]; kernel_rfl) | (rw [if_neg (by decide +kernel)]; exact ⟨rfl, rfl⟩))
    (fun os started H enc _ => lifted_FnExactGlyphsOf os started H enc)
end Go.Proofs.Ytbbicijmekinkac
