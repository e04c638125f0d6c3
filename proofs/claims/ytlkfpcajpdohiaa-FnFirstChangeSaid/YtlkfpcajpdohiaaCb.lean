/- The costs of lines as closures, and the totals of given breaks, in the program. -/
import Derived.Test.YtlkfpcajpdohiaaTotL
import Derived.Test.YtlkfpcajpdohiaaTotD
import Derived.Test.YtlkfpcajpdohiaaSg
import Derived.Deep.RegionHeld3
import Derived.Deep.CutRange
import Derived.Test.YtlkfpcajpdohiaaSb
namespace Go.Proofs.Ytlkfpcajpdohiaa
open Go.ChangeShapes Go.WideShapes Go.ChangeAt Go.RowKit
set_option linter.unusedVariables false
set_option linter.unusedSimpArgs false
open Classical

theorem PS.cells {u : World} {B gp g c1 gs gf gb : Nat} {L : List It} (h : PS u B gp g c1 gs gf gb L) : u.cell? ⟨gp, 0, none⟩ = some (.slice (some ⟨g, 0, none⟩) L.length c1) ∧ u.cell? ⟨gp, 1, none⟩ = some (.slice (some ⟨gs, 0, none⟩) (L.length + 1) (L.length + 1)) ∧ u.cell? ⟨gp, 2, none⟩ = some (.slice (some ⟨gf, 0, none⟩) (L.length + 1) (L.length + 1)) ∧ u.cell? ⟨gp, 3, none⟩ = some (.slice (some ⟨gb, 0, none⟩) (L.length + 1) (L.length + 1)) := ⟨h.k0, h.k1, h.k2, h.k3⟩
/-- A measured paragraph that is copied into another variable. -/
theorem PS.copy {u : World} {B gp g c1 gs gf gb : Nat} {L : List It} (h : PS u B gp g c1 gs gf gb L) : PS (u.alloc (.cells #[.slice (some ⟨g, 0, none⟩) L.length c1, .slice (some ⟨gs, 0, none⟩) (L.length + 1) (L.length + 1), .slice (some ⟨gf, 0, none⟩) (L.length + 1) (L.length + 1), .slice (some ⟨gb, 0, none⟩) (L.length + 1) (L.length + 1)] 81)) B u.heap.size g c1 gs gf gb L := ps_made h.row h.pr
/-- What p.totalCost answers. -/
noncomputable def ptO (L : List It) (E : List Int) (C : Nat → Int → Int → Int × Bool) : Int × Bool := if endB L E then toO (-1) E C else (0, false)
theorem ptO_no {L : List It} {E : List Int} {C : Nat → Int → Int → Int × Bool} (h : endB L E = false) : ptO L E C = (0, false) := by unfold ptO; rw [h]; rfl
theorem ptO_yes {L : List It} {E : List Int} {C : Nat → Int → Int → Int × Bool} (h : endB L E = true) : ptO L E C = toO (-1) E C := by unfold ptO; rw [if_pos h]
theorem cbV_ok {L : List It} {E : List Int} {C : Nat → Int → Int → Int × Bool} (h : isOk L = true) : cbV L E C = ptO L E C := by unfold cbV ptO; rw [h, Bool.true_and]
end Go.Proofs.Ytlkfpcajpdohiaa
