/- Drawn paragraphs, widths and tolerances. -/
import Derived.Test.YtmncdpiojhgcdaaLnR
namespace Go.Proofs.Ytmncdpiojhgcdaa
open Go.ChangeShapes Go.WideShapes Go.ChangeAt Go.RowKit
set_option linter.unusedVariables false

theorem DrawBestBreaks_any (w : World) (a : Option Addr) (n c : Nat) (zs : List Int) (h : IsRow .u8 w a n c zs) :
    Calls Try.prog 51 #[.slice a n c] w fun e w' => ∃ (A : Option Addr) (c : Nat) (L : List It) (d t : Int), e = .returned (.tuple #[.slice A L.length c, .int .i64 d, .int .i64 t]) ∧ TO w' 45 w.heap.size A c L ∧ L.length ≤ 23 ∧ (0 ≤ d ∧ d ≤ 10001) ∧ (-1 ≤ t ∧ t ≤ 20000) ∧ Below w.heap.size w w' := by
  go_enter Try.func51, Try.ntmps51
  go_wp2_with fail
  (with_reducible refine (newReader_any _ _ _ _ _ h).mono ?_)
  rintro e u0 ⟨rfl, hrd, hb⟩
  have hgl : w.heap.size < u0.heap.size := hrd.lt
  go_wp2_with fail
  (with_reducible refine (anyItems_any _ _ _ _ hrd (by omega) (by omega)).mono ?_)
  rintro e u1 ⟨A, c1, L, rfl, hol, hll, hrd1, hon1⟩
  have HO1 := hide (on_call hon1 (on_below hb (on_refl w (some w.heap.size))))
  have hz1 := hon1.size
  clear hon1 hb
  go_wp2_with fail
  (with_reducible refine (someWidth_any _ _ _ _ hrd1 (by omega)).mono ?_)
  rintro e u2 ⟨d, hd, rfl, hrd2, hon2⟩
  have hol2 := hol.readI hon2 (by omega)
  have HO2 := hide (on_call hon2 HO1.out)
  have hz2 := hon2.size
  clear hon2
  go_wp2_with fail
  (with_reducible refine (someTolerance_any _ _ _ _ hrd2 (by omega) (by omega)).mono ?_)
  rintro e u3 ⟨t, rfl, ht, hrd3, hon3⟩
  have hol3 := hol2.readI hon3 (by omega)
  have O3 := on_call hon3 HO2.out
  go_wp2
  refine bodyPost_ret (v := .tuple #[.slice A L.length c1, .int .i64 d, .int .i64 t]) (by simp [results, Try.results51, go_sem]) rfl ⟨A, c1, L, d, t, rfl, hol3.more (by omega), hll, hd, ht, on_new O3 (Nat.le_refl _)⟩
end Go.Proofs.Ytmncdpiojhgcdaa
