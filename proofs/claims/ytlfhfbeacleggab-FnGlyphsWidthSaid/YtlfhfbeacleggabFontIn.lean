/- A font that came in. -/
import Derived.Test.YtlfhfbeacleggabValFontS
namespace Go.Proofs.Ytlfhfbeacleggab
open Go.ChangeShapes Go.WideShapes Go.ChangeAt Go.RowKit
set_option linter.unusedSimpArgs false
set_option linter.unusedVariables false

theorem seven {cs : Array Value} (h : cs.size = 7) : ∃ a b c d e f g, cs = #[a, b, c, d, e, f, g] := by
  obtain ⟨l⟩ := cs
  match l, h with
  | [a, b, c, d, e, f, g], _ => exact ⟨a, b, c, d, e, f, g, rfl⟩
theorem slice_in {H : Type} {enc : TypeId × Value → H} {P : Program} {w : World} {base : Nat} {sp : Nat → Bool} {held : Bool} {t e : TypeId} {n : Nat} {x : Value} {y : DataW H × List MemPlace} (ht : P.underlying t = some (.slice e))
    (h : DataW.trod enc P w base sp held n t [x] = some y) : ∃ A m c, x = .slice A m c ∧ DataW.Trod enc P w base sp held t (.slice A m c) y.1 y.2 := by
  rcases DataW.trod_slice ht h with ⟨he, _⟩ | ⟨a, len, cap, _, _, _, _, he, _⟩
  · injection he with he
    subst he
    exact ⟨none, 0, 0, rfl, n, by simpa [Value.cells] using h⟩
  · injection he with he
    subst he
    exact ⟨some a, len, cap, rfl, n, by simpa [Value.cells] using h⟩

theorem font_in {H : Type} {enc : TypeId × Value → H} {w : World} {held : Bool} {r : Reach} {b0 : Nat} {t : TypeId} {f0 f1 f2 f3 f4 : Field} {v : Value} {d : DataW H} {p : List MemPlace}
    (hs : Try.prog.underlying t = some (.struct #[f0, f1, f2, f3, f4])) (hC : Try.prog.cellsOf t = 7)
    (o0 : f0.offset = 0) (o1 : f1.offset = 1) (o2 : f2.offset = 4) (o3 : f3.offset = 5) (o4 : f4.offset = 6)
    (k0 : Try.prog.cellsOf f0.type = 1) (k1 : Try.prog.cellsOf f1.type = 3) (k2 : Try.prog.cellsOf f2.type = 1) (k3 : Try.prog.cellsOf f3.type = 1) (k4 : Try.prog.cellsOf f4.type = 1)
    {e0 e3 : TypeId} (u0 : Try.prog.underlying f0.type = some (.slice e0)) (i0 : Try.prog.underlying e0 = some (.int .i64)) (c0 : Try.prog.cellsOf e0 = 1) (g1 : flat Try.prog 5 f1.type = some [.int .i64, .int .i64, .int .i64]) (u2 : Try.prog.underlying f2.type = some (.int .i64))
    (u3 : Try.prog.underlying f3.type = some (.slice e3)) (u4 : Try.prog.underlying f4.type = some (.slice e3)) (g3 : flat Try.prog 5 e3 = some [.int .i64, .int .i64, .int .i64]) (c3 : Try.prog.cellsOf e3 = 3)
    (hval : Value.okWide Try.prog w r b0 t v) (h : DataW.Trod enc Try.prog w 0 (fun _ => true) held t v d p) : ∃ f : Ft, FR w v f ∧ f.W.length ≤ maxLen ∧ f.K.length ≤ maxLen ∧ f.L.length ≤ maxLen := by
  obtain ⟨cs, rfl, hsz⟩ := okWide_struct hs hval
  obtain ⟨x0, x1, x2, x3, x4, x5, x6, rfl⟩ := seven (hsz.trans hC)
  obtain ⟨fuel, hf⟩ := h
  obtain ⟨xs, n, rfl, _, _, hxl, hall⟩ := DataW.trod_struct hs hf
  have hxl5 : xs.length = 5 := hxl
  have a0 := hall 0 f0 rfl
  have a1 := hall 1 f1 rfl
  have a2 := hall 2 f2 rfl
  have a3 := hall 3 f3 rfl
  have a4 := hall 4 f4 rfl
  rw [o0, k0, List.getElem?_eq_getElem (by omega)] at a0
  rw [o1, k1, List.getElem?_eq_getElem (by omega)] at a1
  rw [o2, k2, List.getElem?_eq_getElem (by omega)] at a2
  rw [o3, k3, List.getElem?_eq_getElem (by omega)] at a3
  rw [o4, k4, List.getElem?_eq_getElem (by omega)] at a4
  obtain ⟨A0, m0, s0, rfl, t0⟩ := slice_in u0 (x := x0) (by simpa [Value.cells] using a0)
  obtain ⟨A3, m3, s3, rfl, t3⟩ := slice_in u3 (x := x5) (by simpa [Value.cells] using a3)
  obtain ⟨A4, m4, s4, rfl, t4⟩ := slice_in u4 (x := x6) (by simpa [Value.cells] using a4)
  obtain ⟨zs, hr⟩ := isRow_of u0 i0 c0 t0
  obtain ⟨K, hK, hK2⟩ := pairs_in u3 g3 c3 t3
  obtain ⟨L, hL, hL2⟩ := pairs_in u4 g3 c3 t4
  have ok := flat_ok g1 a1
  simp only [Value.cells, List.drop_succ_cons, List.drop_zero, List.take_succ_cons, List.take_zero] at ok
  obtain ⟨_, _, e1, ⟨z1, rfl, _⟩, k1⟩ := ok.cons
  obtain ⟨_, _, e2, ⟨z2, rfl, _⟩, k2'⟩ := k1.cons
  obtain ⟨_, _, e3', ⟨z3, rfl, _⟩, k3'⟩ := k2'.cons
  obtain rfl := k3'.done
  subst e2 e3'
  simp only [List.cons.injEq, and_true] at e1
  obtain ⟨rfl, rfl, rfl⟩ := e1
  obtain ⟨z4, e4, _, _⟩ := DataW.trod_int u2 a2
  simp only [Value.cells, List.drop_succ_cons, List.drop_zero, List.take_succ_cons, List.take_zero, List.cons.injEq, and_true] at e4
  subst e4
  have hI := IL.of_row hr
  have hm0 : m0 ≤ maxLen := by
    rcases hr with ⟨_, rfl, _, _⟩ | ⟨_, _, q1, q2, _⟩
    · exact Nat.zero_le _
    · omega
  obtain rfl : m3 = K.length := hK.1
  obtain rfl : m4 = L.length := hL.1
  obtain ⟨W, hW⟩ : ∃ W, W = zs.take m0 := ⟨_, rfl⟩
  rw [← hW] at hI
  obtain rfl : m0 = W.length := hI.1
  exact ⟨⟨W, z1, z2, z3, z4, K, L⟩, ⟨A0, s0, A3, s3, A4, s4, rfl, hI, hK, hL⟩, hm0, hK2, hL2⟩
end Go.Proofs.Ytlfhfbeacleggab
