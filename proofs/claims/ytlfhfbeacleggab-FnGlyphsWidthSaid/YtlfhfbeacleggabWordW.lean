/- Widths of words, on both sides. -/
import Derived.Test.YtlfhfbeacleggabGWidL
namespace Go.Proofs.Ytlfhfbeacleggab
open Go.ChangeShapes Go.WideShapes Go.ChangeAt Go.RowKit
set_option linter.unusedSimpArgs false
set_option linter.unusedVariables false
set_option maxRecDepth 4000

theorem gl_ok {f : Ft} {s : ByteArray} (h : fok f = true) (k : okWord s = true) : 0 < (glA f s).length ∧ (glA f s).length ≤ 20 ∧ GTo (glA f s) (glA f s).length := by
  rw [glA_yes h k]
  have hw := okWord_iff.1 k
  have hv := (LigOk.of (fok_iff.1 h).2.2.2.2.2).2.2
  have ag : ∀ m, m ≤ s.size → AllG (gw f.L s m) := by
    intro m hm
    induction m with
    | zero => intro j hj; simp [gw] at hj
    | succ m ih =>
      rw [gw_step (by omega) rfl]
      refine joinN_all hv _ _ ((ih (by omega)).snoc ?_)
      have := inB_iff.1 (hw.2 m (by omega) (by omega))
      omega
  have one : 0 < (gw f.L s s.size).length := by
    obtain ⟨m, hm⟩ : ∃ m, s.size = m + 1 := ⟨s.size - 1, by omega⟩
    rw [hm, gw_step (by omega) rfl]
    exact joinN_one _ _ _ (by simp)
  have := gw_len f.L s s.size
  exact ⟨one, by omega, ag _ (Nat.le_refl _)⟩
open Classical in
noncomputable def wwid (f : Ft) (s : ByteArray) : Int := if fok f = true ∧ okWord s = true then max 0 (wsum f (glA f s) (glA f s).length) else -1
theorem wwid_yes {f : Ft} {s : ByteArray} (h : fok f = true ∧ okWord s = true) : wwid f s = max 0 (wsum f (glA f s) (glA f s).length) := if_pos h
theorem wwid_no {f : Ft} {s : ByteArray} (h : ¬ (fok f = true ∧ okWord s = true)) : wwid f s = -1 := if_neg h

set_option maxHeartbeats 2000000 in
theorem WordWidth_i (w : World) (v : Value) (f : Ft) (s : ByteArray) (h : FR w v f) (h1 : f.W.length ≤ 4611686018427387904) (h2 : f.K.length ≤ 4611686018427387904) (h3 : f.L.length ≤ 4611686018427387904) (hs : s.size ≤ 1048576) :
    Calls Try.prog 16 #[v, .string s] w fun e w' => e = .returned (.int .i64 (wwid f s)) ∧ Below w.heap.size w w' := by
  have HF := hide h
  obtain ⟨AW, cW, AK, cK, AL, cL, rfl, hW, hK, hL⟩ := h
  clear hW hK hL
  obtain ⟨L, hL⟩ : ∃ L, L = glA f s := ⟨_, rfl⟩
  have CG := fun (u : World) (hh : FR u (fv AW f.W.length cW f.a f.b f.c f.h AK f.K.length cK AL f.L.length cL) f) => GlyphsOf_i u _ f s hh h1 h2 h3 hs
  rw [← hL] at CG
  have HCG := hide CG
  have HL := hide hL
  clear CG hL
  by_cases q : fok f = true ∧ okWord s = true
  · have ok := gl_ok q.1 q.2
    rw [← HL.out] at ok
    obtain ⟨k1, k2, k3⟩ := ok
    have E := hide (show wwid f s = max 0 (wsum f L L.length) by rw [wwid_yes q, ← HL.out])
    have EG := hide (gwid_yes (f := f) (l := L) ⟨q.1, k2, k3⟩)
    have bd := wsum_bd q.1 (l := L) (k := L.length) k3
    obtain ⟨x, hx⟩ : ∃ x, x = wsum f L L.length := ⟨_, rfl⟩
    rw [← hx] at E EG bd
    have d0 : ((L.length : Int) == 0) = false := beq_eq_false_iff_ne.2 (by omega)
    clear q k3 hx k1
    go_enter Try.func16, Try.ntmps16
    go_wp2_with fail
    (with_reducible refine (HCG.out _ (HF.out.below (by (repeat' (first | with_reducible exact bl_refl _ | with_reducible assumption | with_reducible refine bl_alloc ?_ _ | with_reducible refine bl_set ?_ ?_ _ | with_reducible refine bl_drewN ?_ _ | with_reducible refine bl_drew ?_ | with_reducible refine bl_call (by assumption) ?_)); (all_goals (first | omega | (simp; done) | (simp; omega)))))).mono ?_)
    rintro e u1 ⟨A, c, rfl, ho, hb⟩
    have HB1 := hide (bl_call hb (bl_alloc (bl_refl _) _))
    obtain ⟨hc, hq⟩ := bcell hb
    have m0 : u1.cell? ⟨w.heap.size, 0, none⟩ = some (.slice AW f.W.length cW) := by simp [go_sem, *]
    have m1 : u1.cell? ⟨w.heap.size, 1, none⟩ = some (.int .i64 f.a) := by simp [go_sem, *]
    have m2 : u1.cell? ⟨w.heap.size, 2, none⟩ = some (.int .i64 f.b) := by simp [go_sem, *]
    have m3 : u1.cell? ⟨w.heap.size, 3, none⟩ = some (.int .i64 f.c) := by simp [go_sem, *]
    have m4 : u1.cell? ⟨w.heap.size, 4, none⟩ = some (.int .i64 f.h) := by simp [go_sem, *]
    have m5 : u1.cell? ⟨w.heap.size, 5, none⟩ = some (.slice AK f.K.length cK) := by simp [go_sem, *]
    have m6 : u1.cell? ⟨w.heap.size, 6, none⟩ = some (.slice AL f.L.length cL) := by simp [go_sem, *]
    clear hc hq hb
    go_wp2_with fail
    (with_reducible refine (GlyphsWidth_i _ _ f _ _ _ L (HF.out.below HB1.out) ho.reads h1 h2 h3 (by omega)).mono ?_)
    rintro e u2 ⟨rfl, hb⟩
    rw [EG.out]
    rcases (by omega : x < 0 ∨ 0 ≤ x) with hx0 | hx0
    · have e1 : max x 0 = 0 := by omega
      have e2 : max 0 x = 0 := by omega
      go_wp2
      go_ret
      exact ⟨int_ret (by rw [E.out]; omega), bl_call hb HB1.out⟩
    · have e1 : max x 0 = x := by omega
      have e2 : max 0 x = x := by omega
      go_wp2
      go_ret
      exact ⟨int_ret (by rw [E.out]; omega), bl_call hb HB1.out⟩
  · have E := hide (wwid_no q)
    have EL : L = [] := by rw [HL.out]; exact glA_no q
    subst EL
    clear q
    rw [E.out]
    go_enter Try.func16, Try.ntmps16
    go_wp2_with fail
    (with_reducible refine (HCG.out _ (HF.out.below (by (repeat' (first | with_reducible exact bl_refl _ | with_reducible assumption | with_reducible refine bl_alloc ?_ _ | with_reducible refine bl_set ?_ ?_ _ | with_reducible refine bl_drewN ?_ _ | with_reducible refine bl_drew ?_ | with_reducible refine bl_call (by assumption) ?_)); (all_goals (first | omega | (simp; done) | (simp; omega)))))).mono ?_)
    rintro e u1 ⟨A, c, rfl, ho, hb⟩
    go_wp2
    go_ret
    exact ⟨rfl, bl_call hb (bl_alloc (bl_refl _) _)⟩
end Go.Proofs.Ytlfhfbeacleggab
