/- The laws' helpers on fonts. -/
import Derived.Test.YtlfhfbeacleggabGp
import Derived.Test.YtlfhfbeacleggabSp
namespace Go.Proofs.Ytlfhfbeacleggab
open Go.ChangeShapes Go.WideShapes Go.ChangeAt Go.RowKit
set_option linter.unusedSimpArgs false
set_option linter.unusedVariables false

/-- A font. -/
structure Ft where
  W : List Int
  a : Int
  b : Int
  c : Int
  h : Int
  K : List Gp
  L : List Gp
abbrev fv (AW : Option Addr) (nW cW : Nat) (a b c h : Int) (AK : Option Addr) (nK cK : Nat) (AL : Option Addr) (nL cL : Nat) : Value := .agg #[.slice AW nW cW, .int .i64 a, .int .i64 b, .int .i64 c, .int .i64 h, .slice AK nK cK, .slice AL nL cL]
/-- A value that reads as a font. -/
def FR (u : World) (v : Value) (f : Ft) : Prop := ∃ AW cW AK cK AL cL, v = fv AW f.W.length cW f.a f.b f.c f.h AK f.K.length cK AL f.L.length cL ∧ IL u AW f.W.length f.W ∧ TL u AK f.K.length f.K ∧ TL u AL f.L.length f.L
/-- A font that the call made, in blocks from B on and below T. -/
def FO (u : World) (B T : Nat) (v : Value) (f : Ft) : Prop := ∃ AW cW AK cK AL cL, v = fv AW f.W.length cW f.a f.b f.c f.h AK f.K.length cK AL f.L.length cL ∧ OL u 3 B AW cW f.W ∧ TO u 35 B AK cK f.K ∧ TO u 35 B AL cL f.L ∧
  (∀ k, (Value.slice AW f.W.length cW).ownBlock = some k → k < T ∧ (Value.slice AK f.K.length cK).ownBlock ≠ some k ∧ (Value.slice AL f.L.length cL).ownBlock ≠ some k) ∧
  (∀ k, (Value.slice AK f.K.length cK).ownBlock = some k → k < T ∧ (Value.slice AL f.L.length cL).ownBlock ≠ some k) ∧ (∀ k, (Value.slice AL f.L.length cL).ownBlock = some k → k < T)
theorem FR.below {w u : World} {v : Value} {f : Ft} (h : FR w v f) (hb : Below w.heap.size w u) : FR u v f := by
  obtain ⟨AW, cW, AK, cK, AL, cL, e, h1, h2, h3⟩ := h
  exact ⟨AW, cW, AK, cK, AL, cL, e, h1.below hb, h2.below hb, h3.below hb⟩
theorem FR.drewN {w : World} {v : Value} {f : Ft} (h : FR w v f) (k : Nat) : FR (w.drewN k) v f := h
theorem FO.below {w u : World} {B T : Nat} {v : Value} {f : Ft} (h : FO w B T v f) (hb : Below w.heap.size w u) : FO u B T v f := by
  obtain ⟨AW, cW, AK, cK, AL, cL, e, h1, h2, h3, h4⟩ := h
  exact ⟨AW, cW, AK, cK, AL, cL, e, h1.below hb, h2.below hb, h3.below hb, h4⟩
theorem FO.drewN {w : World} {B T : Nat} {v : Value} {f : Ft} (h : FO w B T v f) (k : Nat) : FO (w.drewN k) B T v f := h
theorem FO.reads {w : World} {B T : Nat} {v : Value} {f : Ft} (h : FO w B T v f) : FR w v f := by
  obtain ⟨AW, cW, AK, cK, AL, cL, e, h1, h2, h3, h4⟩ := h
  exact ⟨AW, cW, AK, cK, AL, cL, e, h1.reads, h2.reads, h3.reads⟩

end Go.Proofs.Ytlfhfbeacleggab
