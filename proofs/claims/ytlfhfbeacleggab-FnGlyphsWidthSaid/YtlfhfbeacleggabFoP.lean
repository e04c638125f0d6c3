/- What the laws on glyphs share. -/
import Derived.Test.YtlfhfbeacleggabDrawFq
import Derived.Test.YtlfhfbeacleggabFoM
import Derived.Test.YtlfhfbeacleggabGlyphL
namespace Go.Proofs.Ytlfhfbeacleggab
open Go.ChangeShapes Go.WideShapes Go.ChangeAt Go.RowKit
set_option linter.unusedSimpArgs false
set_option linter.unusedVariables false
open Classical

theorem FR.rows {u : World} {AW : Option Addr} {cW : Nat} {AK : Option Addr} {cK : Nat} {AL : Option Addr} {cL : Nat} {f : Ft} (hh : FR u (fv AW f.W.length cW f.a f.b f.c f.h AK f.K.length cK AL f.L.length cL) f) : IL u AW f.W.length f.W ∧ TL u AK f.K.length f.K ∧ TL u AL f.L.length f.L := by
  obtain ⟨AW', cW', AK', cK', AL', cL', e, h1, h2, h3⟩ := hh
  simp at e
  obtain ⟨⟨e1, -⟩, ⟨e2, -⟩, e3, -⟩ := e
  subst e1 e2 e3
  exact ⟨h1, h2, h3⟩
theorem glA_len20 {f : Ft} {s : ByteArray} : (glA f s).length ≤ 20 := by
  by_cases q : fok f = true ∧ okWord s = true
  · have := gw_len f.L s s.size
    have := (okWord_iff.1 q.2).1
    rw [glA_yes q.1 q.2]
    omega
  · rw [glA_no q]
    simp
theorem glA_np {f : Ft} {s : ByteArray} {j m : Nat} (h0 : 0 < j) (h : j < (glA f s).length) (hm : m < f.L.length) (h1 : (tg f.L m).a = ng (glA f s) (j - 1)) : ¬ (tg f.L m).b = ng (glA f s) j := by
  obtain ⟨q1, q2⟩ := glA_pos (f := f) (s := s) (by omega)
  rw [glA_yes q1 q2] at h h1 ⊢
  exact np_at h0 h hm h1
theorem FR.plainL {u : World} {AW : Option Addr} {cW : Nat} {AK : Option Addr} {cK : Nat} {AL : Option Addr} {cL : Nat} {f : Ft} (hh : FR u (fv AW f.W.length cW f.a f.b f.c f.h AK f.K.length cK AL f.L.length cL) f) : FR u (fv AW f.W.length cW f.a f.b f.c f.h AK f.K.length cK none 0 0) (noL f) :=
  ⟨AW, cW, AK, cK, none, 0, rfl, hh.rows.1, hh.rows.2.1, TL.nil _ _⟩
theorem FR.plainKL {u : World} {AW : Option Addr} {cW : Nat} {AK : Option Addr} {cK : Nat} {AL : Option Addr} {cL : Nat} {f : Ft} (hh : FR u (fv AW f.W.length cW f.a f.b f.c f.h AK f.K.length cK AL f.L.length cL) f) : FR u (fv AW f.W.length cW f.a f.b f.c f.h none 0 0 none 0 0) (noKL f) :=
  ⟨AW, cW, none, 0, none, 0, rfl, hh.rows.1, TL.nil _ _, TL.nil _ _⟩
theorem glA_letters {f : Ft} {s : ByteArray} (h : (glA f s).length ≠ 0) : (glA (noL f) s).length = s.size ∧ (∀ k (hk : k < s.size), ng (glA (noL f) s) k = (s[k].toNat : Int) - 97 ∧ 97 ≤ (s[k].toNat : Int) ∧ (s[k].toNat : Int) ≤ 122) ∧ (glA f s).length ≤ s.size ∧ s.size ≤ 20 := by
  obtain ⟨q1, q2⟩ := glA_pos h
  have e1 : glA (noL f) s = gw [] s s.size := glA_yes (fok_noL q1) q2
  obtain ⟨g1, g2⟩ := gw_nil s s.size
  obtain ⟨k1, k2⟩ := okWord_iff.1 q2
  rw [e1]
  refine ⟨g1, fun k hk => ⟨(g2 k hk).trans (ltr_at hk), inB_iff.1 (k2 k hk hk)⟩, ?_, k1.2⟩
  rw [glA_yes q1 q2]
  exact gw_len _ _ _
end Go.Proofs.Ytlfhfbeacleggab
