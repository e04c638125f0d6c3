/- The laws' helpers on glue and on slices of pairs of glyphs. -/
import Derived.Test.YtlfhfbeacleggaaGlue
import Derived.Test.YtlfhfbeacleggaaInts
import Derived.Test.YtlfhfbeacleggaaFlat
import Derived.LoopTactic
import Derived.Deep.RegionWith
namespace Go.Proofs.Ytlfhfbeacleggaa
open Go.ChangeShapes Go.WideShapes Go.ChangeAt Go.RowKit
set_option linter.unusedVariables false

theorem toGlue_h (a b c : Int) (w : World) :
    Calls Try.prog 155 #[gv a b c] w fun e w' => e = .returned (gv a b c) ∧ Below w.heap.size w w' := by
  go_enter Try.func155, Try.ntmps155
  go_wp2
  refine bodyPost_ret (v := gv a b c) (by simp [results, Try.results155, go_sem, *]) rfl ⟨rfl, ?_⟩
  repeat' (first | with_reducible exact bl_refl _ | with_reducible assumption | with_reducible refine bl_alloc ?_ _ | with_reducible refine bl_set ?_ ?_ _ | with_reducible refine bl_drewN ?_ _ | with_reducible refine bl_drew ?_ | with_reducible refine bl_call (by assumption) ?_)
  all_goals (first | omega | (simp; done) | (simp; omega))
theorem eqGlue_h (a b c : Int) (w : World) :
    Calls Try.prog 172 #[gv a b c, gv a b c] w fun e w' => e = .returned (.bool true) ∧ Below w.heap.size w w' := by
  go_enter Try.func172, Try.ntmps172
  go_wp2
  go_ret
  refine ⟨rfl, ?_⟩
  repeat' (first | with_reducible exact bl_refl _ | with_reducible assumption | with_reducible refine bl_alloc ?_ _ | with_reducible refine bl_set ?_ ?_ _ | with_reducible refine bl_drewN ?_ _ | with_reducible refine bl_drew ?_ | with_reducible refine bl_call (by assumption) ?_)

/-- Three cells of an own row are stored, one behind the other. -/
theorem own_put3 {w : World} {B g n c p : Nat} {e : TypeId} {F M : List Value} {a b v : Value} (h : w.ownsRow B e 3 (.slice (some ⟨g, 0, none⟩) n c) n (vmix F M (p * 3))) (hl : M.length = F.length)
    (h0 : F[p * 3]? = some a) (h1 : F[p * 3 + 1]? = some b) (h2 : F[p * 3 + 2]? = some v) :
    (((w.setCell ⟨g, p * 3, none⟩ a).setCell ⟨g, p * 3 + 1, none⟩ b).setCell ⟨g, p * 3 + 2, none⟩ v).ownsRow B e 3 (.slice (some ⟨g, 0, none⟩) n c) n (vmix F M ((p + 1) * 3)) := by
  have s0 := (World.ownsRow.stored h (p * 3) a).1
  rw [vmix_put hl h0] at s0
  have s1 := (World.ownsRow.stored s0 (p * 3 + 1) b).1
  rw [vmix_put hl h1] at s1
  have s2 := (World.ownsRow.stored s1 (p * 3 + 2) v).1
  rw [vmix_put hl h2] at s2
  rw [show (p + 1) * 3 = p * 3 + 2 + 1 from by omega]
  exact s2
/-- A cell of an own row. -/
theorem own_cell {w : World} {B g n c size j : Nat} {e : TypeId} {xs : List Value} (h : w.ownsRow B e size (.slice (some ⟨g, 0, none⟩) n c) n xs) (hj : j < n * size) : ∃ v, w.cell? ⟨g, j, none⟩ = some v := by
  have h1 := World.ownsRow.cellAt h j hj
  rw [List.getElem?_eq_getElem (by rw [h.1]; exact hj)] at h1
  exact ⟨_, h1⟩

end Go.Proofs.Ytlfhfbeacleggaa
