/- Drawn words and widths to wrap. -/
import Derived.Test.YtlfhfbeacleggaaDrawW
import Derived.Test.YtlfhfbeacleggaaLwB
import Derived.Test.YtlfhfbeacleggaaDrawE
import Derived.Test.YtlfhfbeacleggaaApp
namespace Go.Proofs.Ytlfhfbeacleggaa
open Go.ChangeShapes Go.WideShapes Go.ChangeAt Go.RowKit
set_option linter.unusedVariables false
set_option linter.unusedSimpArgs false
set_option maxRecDepth 4000

set_option maxHeartbeats 4000000 in
theorem DrawWrapWords_any (w : World) (a : Option Addr) (n c : Nat) (zs : List Int) (h : IsRow .u8 w a n c zs) :
    Calls Try.prog 83 #[.slice a n c] w fun e w' => ∃ (A : Option Addr) (c : Nat) (l : List ByteArray) (z : Int), e = .returned (.tuple #[.slice A l.length c, .int .i64 z]) ∧ OS w' 9 w.heap.size A c l ∧ l.length ≤ 11 ∧ WQ l ∧ (19 ≤ z ∧ z ≤ 61) ∧ Below w.heap.size w w' := by
  go_enter Try.func83, Try.ntmps83
  go_wp2_with fail
  (with_reducible refine (newReader_any _ _ _ _ _ h).mono ?_)
  rintro e u0 ⟨rfl, hrd, hb⟩
  have hgl : w.heap.size < u0.heap.size := hrd.lt
  go_wp2_with fail
  (with_reducible refine (someWords_any _ _ _ _ hrd (by omega) (by omega)).mono ?_)
  rintro e u1 ⟨A, cc, l, rfl, hol, hll, hwq, hrd1, hon1⟩
  have hz1 := hon1.size
  have O1 := hide (on_call hon1 (on_below hb (on_refl w (some w.heap.size))))
  have HWQ := hide hwq
  clear hon1 hb hwq h
  go_wp2_with fail
  (with_reducible refine (textWidth_any _ _ _ _ hrd1 (by omega) (by omega)).mono ?_)
  rintro e u2 ⟨z, hz, rfl, hrd2, hon2⟩
  have HO := hide ((hol.readW hon2 (by omega)).more (B' := w.heap.size) (by omega))
  have O2 := hide (on_call hon2 O1.out)
  have HZ := hide hz
  clear hz hol hon2
  go_wp2
  go_ret2
  exact ⟨A, cc, l, z, rfl, HO.out, hll, HWQ.out, HZ.out, on_new O2.out (Nat.le_refl _)⟩
end Go.Proofs.Ytlfhfbeacleggaa
