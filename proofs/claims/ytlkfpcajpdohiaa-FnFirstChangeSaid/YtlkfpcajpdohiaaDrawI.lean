/- Drawn lists of integers. -/
import Derived.Test.YtlkfpcajpdohiaaRead
import Derived.Test.YtlkfpcajpdohiaaSa
namespace Go.Proofs.Ytlkfpcajpdohiaa
open Go.ChangeShapes Go.WideShapes Go.ChangeAt Go.RowKit
set_option linter.unusedVariables false

section
variable {w w' : World} {B B' g N : Nat}
theorem RD.below' (h : RD w B g N) (hb : Below B' w w') (hB : B ≤ B') : RD w' B g N :=
  h.keep (fun _ hq => hb.cell (Nat.lt_of_lt_of_le hq hB)) (fun _ hq => hb.frozen (Nat.lt_of_lt_of_le hq hB)) hb.size
theorem on_below' {a : World} (h : Below B w w') (hB : a.heap.size ≤ B) (h0 : a.grownBy w (some g)) : a.grownBy w' (some g) :=
  ⟨h.os.trans h0.os, h.tape.trans h0.tape, h.output.trans h0.output, Nat.le_trans h0.size h.size, fun i hi hne => (h.block i (by omega)).trans (h0.block i hi hne)⟩
/-- What the call owns stays while the reader reads. -/
theorem OL.read {e : TypeId} {A : Option Addr} {c : Nat} {l : List Int} (h : OL w e B A c l) (hg : w.grownBy w' (some g)) (hlt : g < B) : OL w' e B A c l :=
  h.kept hg (fun k hk e => by
    have := (h.own_lt k hk).1
    injection e with e
    omega)
end


theorem someWidth_any (w : World) (B g N : Nat) (h : RD w B g N) (hN : N ≤ 1000000000) :
    Calls Try.prog 59 #[.pointer (some ⟨g, 0, none⟩)] w fun e w' => ∃ z : Int, (0 ≤ z ∧ z ≤ 10001) ∧ e = .returned (.int .i64 z) ∧ RD w' B g (N + 2) ∧ w.grownBy w' (some g) := by
  have hlt := h.lt
  go_enter Try.func59, Try.ntmps59
  go_wp2_with fail
  refine (pick_any _ B g _ _ h (by omega) (by omega) (by omega)).mono ?_
  rintro e u0 ⟨r, hr0, hr1, rfl, hrd1, hon1⟩
  have hlt1 := hrd1.lt
  rcases (by omega : r = 0 ∨ 0 < r) with rfl | hr
  all_goals
    go_wp2_with fail
    refine (one_any _ B g _ _ _ (fun z => 0 ≤ z ∧ z ≤ 10001) (hrd1.alloc _) (by omega) (by exact heap_alloc_new _ _) (by omega) (by rfl) (by decide) (by simp)).mono ?_
    rintro e u1 ⟨z, hz, rfl, hrd2, hon2⟩
    go_wp2
    go_ret
    exact ⟨z, hz, rfl, hrd2.more (by omega) (Nat.le_refl _) (by have := hrd2.2.1; omega), on_call hon2 (on_alloc (on_call hon1 (on_refl _ _)) _)⟩


end Go.Proofs.Ytlkfpcajpdohiaa
