/- A drawn list of boxes with a skip. -/
import Derived.Test.YtonkbakoifdmiacDrawRow
namespace Go.Proofs.Ytonkbakoifdmiac
open Go.ChangeShapes Go.WideShapes Go.ChangeAt Go.RowKit
set_option linter.unusedVariables false
set_option maxRecDepth 4000

theorem DrawStackBox_any (w : World) (a : Option Addr) (n c : Nat) (zs : List Int) (h : IsRow .u8 w a n c zs) :
    Calls Try.prog 20 #[.slice a n c] w fun e w' => ∃ (A : Option Addr) (c : Nat) (L : List Gp) (x : Int), e = .returned (.tuple #[.slice A L.length c, .int .i64 x]) ∧ TO w' 26 w.heap.size A c L ∧ L.length ≤ 21 ∧ (-1 ≤ x ∧ x ≤ 10000) ∧ Below w.heap.size w w' := by
  go_enter Try.func20, Try.ntmps20
  go_wp2_with fail
  refine (newReader_any _ _ _ _ _ h).mono ?_
  rintro e u0 ⟨rfl, hrd, hb⟩
  have hgl : w.heap.size < u0.heap.size := hrd.lt
  go_wp2_with fail
  refine (anyBoxes_any _ _ _ _ hrd (by omega) hrd.2.1).mono ?_
  rintro e u1 ⟨A, c1, L, rfl, hol, hll, hrd1, hon1⟩
  have hz1 := hon1.size
  go_wp2_with fail
  refine (one_any _ _ w.heap.size _ _ _ (fun z => -1 ≤ z ∧ z ≤ 10000) (hrd1.alloc _) (by omega) (by exact heap_alloc_new _ _) (by omega) (by rfl) (by decide) (by simp)).mono ?_
  rintro e u2 ⟨x, hx, rfl, hrd2, hon2⟩
  have hol2 := ((hol.alloc _).read hon2 hgl).more (B' := w.heap.size) hb.size
  have hb2 : Below w.heap.size w u2 := on_new (on_call hon2 (on_alloc (on_call hon1 (on_below hb (on_refl _ _))) _)) (Nat.le_refl _)
  go_wp2
  go_ret2
  exact ⟨A, c1, L, x, rfl, hol2, hll, hx, hb2⟩
end Go.Proofs.Ytonkbakoifdmiac
