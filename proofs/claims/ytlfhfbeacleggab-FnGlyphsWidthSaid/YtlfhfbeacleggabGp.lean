/- The laws' helpers on glue and on slices of pairs of glyphs. -/
import Derived.Test.YtlfhfbeacleggabGlue
import Derived.Test.YtlfhfbeacleggabInts
import Derived.Test.YtlfhfbeacleggabFlat
import Derived.LoopTactic
import Derived.Deep.RegionWith
namespace Go.Proofs.Ytlfhfbeacleggab
open Go.ChangeShapes Go.WideShapes Go.ChangeAt Go.RowKit
set_option linter.unusedSimpArgs false
set_option linter.unusedVariables false


/-- Three cells of an own row are stored, one behind the other. -/
theorem own_put3 {w : World} {B g n c p : Nat} {e : TypeId} {F M : List Value} {a b v : Value} (h : w.ownsRow B e 3 (.slice (some ⟨g, 0, none⟩) n c) n (vmix F M (p * 3))) (hl : M.length = F.length)
    (h0 : F[p * 3]? = some a) (h1 : F[p * 3 + 1]? = some b) (h2 : F[p * 3 + 2]? = some v) :
    (((w.setCell ⟨g, p * 3, none⟩ a).setCell ⟨g, p * 3 + 1, none⟩ b).setCell ⟨g, p * 3 + 2, none⟩ v).ownsRow B e 3 (.slice (some ⟨g, 0, none⟩) n c) n (vmix F M ((p + 1) * 3)) := by
  have s0 := (World.ownsRow.stored h (p * 3) a).1
  rw [vmix_put hl h0] at s0
  have s1 := (World.ownsRow.stored s0 (p * 3 + 1) b).1
  rw [vmix_put hl h1] at s1
  have s2 := (World.ownsRow.stored s1 (p * 3 + 2) v).1
  rw [vmix_put hl h2] at s2
  rw [show (p + 1) * 3 = p * 3 + 2 + 1 from by omega]
  exact s2
/-- A cell of an own row. -/
theorem own_cell {w : World} {B g n c size j : Nat} {e : TypeId} {xs : List Value} (h : w.ownsRow B e size (.slice (some ⟨g, 0, none⟩) n c) n xs) (hj : j < n * size) : ∃ v, w.cell? ⟨g, j, none⟩ = some v := by
  have h1 := World.ownsRow.cellAt h j hj
  rw [List.getElem?_eq_getElem (by rw [h.1]; exact hj)] at h1
  exact ⟨_, h1⟩

end Go.Proofs.Ytlfhfbeacleggab
