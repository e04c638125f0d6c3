/- Drawn numbers and styles. -/
import Derived.Test.YtonkbakoifdmiaaDoorDrawN
namespace Go.Proofs.YtonkbakoifdmiaaDoor
open Go.ChangeShapes Go.WideShapes Go.ChangeAt Go.RowKit
set_option linter.unusedVariables false
set_option maxRecDepth 4000
theorem DrawFormatNumber_any (w : World) (a : Option Addr) (n c : Nat) (zs : List Int) (h : IsRow .u8 w a n c zs) :
    Calls Tryd.prog 18 #[.slice a n c] w fun e w' => ∃ z k : Int, (-1 ≤ z ∧ z ≤ 4000) ∧ (0 ≤ k ∧ k < 5) ∧ e = .returned (.tuple #[.int .i64 z, .int .i64 k]) ∧ Below w.heap.size w w' := by
  go_enter Tryd.func18, Tryd.ntmps18
  go_wp2_with fail
  refine (newReader_any _ _ _ _ _ h).mono ?_
  rintro e u0 ⟨rfl, hrd, hb⟩
  go_wp2_with fail
  refine (someNumber_any _ _ _ _ hrd (by omega)).mono ?_
  rintro e u1 ⟨z, hz, rfl, hrd1, hon1⟩
  go_wp2_with fail
  refine (pick_any _ _ _ _ _ hrd1 (by omega) (by omega) (by omega)).mono ?_
  rintro e u2 ⟨k, k0, k1, rfl, hrd2, hon2⟩
  have hb4 : Below w.heap.size w u2 := on_new (on_call hon2 (on_call hon1 (on_below hb (on_refl _ _)))) (Nat.le_refl _)
  go_wp2
  go_ret2
  exact ⟨z, k, hz, ⟨k0, k1⟩, rfl, hb4⟩
end Go.Proofs.YtonkbakoifdmiaaDoor
