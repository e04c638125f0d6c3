/- Drawn paragraphs to set. -/
import Derived.Test.YtmncdpiojhgcdaaDrawCb
namespace Go.Proofs.Ytmncdpiojhgcdaa
open Go.ChangeShapes Go.WideShapes Go.ChangeAt Go.RowKit
set_option linter.unusedVariables false

theorem DrawSetParagraph_any (w : World) (a : Option Addr) (n c : Nat) (zs : List Int) (h : IsRow .u8 w a n c zs) :
    Calls Try.prog 42 #[.slice a n c] w fun e w' => ∃ (A A' : Option Addr) (c c' : Nat) (L : List It) (d : Int) (E : List Int), e = .returned (.tuple #[.slice A L.length c, .slice A' E.length c', .int .i64 d]) ∧ TL w' A L.length L ∧ L.length ≤ 23 ∧ (0 ≤ d ∧ d ≤ 10001) ∧ IL w' A' E.length E ∧ E.length ≤ 60 ∧ okW E ∧ Below w.heap.size w w' := by
  go_enter Try.func42, Try.ntmps42
  go_wp2_with fail; (with_reducible refine (newReader_any _ _ _ _ _ h).mono ?_); rintro e u0 ⟨rfl, hrd, hb⟩; have hgl : w.heap.size < u0.heap.size := hrd.lt; go_wp2_with fail; (with_reducible refine (anyItems_any _ _ _ _ hrd (by omega) (by omega)).mono ?_); rintro e u1 ⟨A, c1, L, rfl, hol, hll, hrd1, hon1⟩; have HO1 := hide (on_call hon1 (on_below hb (on_refl w (some w.heap.size)))); have hz1 := hon1.size; clear hon1 hb
  go_wp2_with fail; (with_reducible refine (someWidth_any _ _ _ _ hrd1 (by omega)).mono ?_); rintro e u2 ⟨d, hd, rfl, hrd2, hon2⟩; have hol2 := hol.readI hon2 (by omega); have HO2 := hide (on_call hon2 HO1.out); have hz2 := hon2.size; clear hon2
  go_wp2_with fail
  (with_reducible refine (someBreaks_any _ _ w.heap.size _ hrd2 (by omega) (by omega) A c1 _ L hol2 (by omega) hll d 10000).mono ?_)
  rintro e u4 ⟨A', c', E, rfl, ho4, hEl, hEw, hrd4, hon4⟩
  have hol4 := hol2.readI hon4 (by omega)
  have O4 := on_call hon4 HO2.out
  go_wp2
  refine bodyPost_ret (v := .tuple #[.slice A L.length c1, .slice A' E.length c', .int .i64 d]) (by simp [results, Try.results42, go_sem]) rfl ⟨A, A', c1, c', L, d, E, rfl, hol4.reads, hll, hd, ho4.reads, hEl, hEw, on_new O4 (Nat.le_refl _)⟩
end Go.Proofs.Ytmncdpiojhgcdaa
