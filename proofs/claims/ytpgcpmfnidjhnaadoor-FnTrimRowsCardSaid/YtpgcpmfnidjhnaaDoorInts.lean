/- What the laws' helpers on slices of integers answer. -/
import Derived.Test.YtpgcpmfnidjhnaaDoorFrame
import Derived.Test.YtpgcpmfnidjhnaaDoorILists
import Derived.LoopTactic
namespace Go.Proofs.YtpgcpmfnidjhnaaDoor
open Go.ChangeShapes Go.WideShapes Go.ChangeAt Go.RowKit
set_option linter.unusedVariables false

theorem IL.of_row {w : World} {a : Option Addr} {n c : Nat} {zs : List Int} (h : IsRow .i64 w a n c zs) : IL w a n (zs.take n) := by
  rcases h with ⟨rfl, rfl, rfl, rfl⟩ | ⟨x, rfl, h1, h2, h3, h4, h5⟩
  · exact IL.nil _ _
  · refine ⟨by simp; omega, fun h0 => ?_⟩
    obtain ⟨b, o, spot⟩ := x
    have e0 := h4 0 (by omega)
    have hspot : spot = none := by simpa [Addr.add] using World.cell?_spot e0
    subst hspot
    refine ⟨b, o, rfl, World.block_lt_of_cell? w _ (by simpa [Addr.add] using e0), fun i hi => ?_⟩
    have e1 := h4 i (by omega)
    have e2 : ng (zs.take n) i = zs.getD i 0 := by simp [ng, List.getD, List.getElem?_take, hi]
    rw [e2, ← e1]
    congr 1
    by_cases h0 : i = 0 <;> simp [Addr.add, h0]




theorem int_info : (Tryd.prog.info? 3).map (fun i => (i.zero, i.size, i.bytes)) = some (some (.int .i64 0), 1, 8) := by kernel_rfl


end Go.Proofs.YtpgcpmfnidjhnaaDoor
