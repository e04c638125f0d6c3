/- A part of a slice of records. It speaks of no program. -/
import Derived.Test.YtlfhfbeacleggaaFlat
namespace Go.Proofs.Ytlfhfbeacleggaa
open Go.ChangeShapes Go.WideShapes Go.ChangeAt Go.RowKit
set_option linter.unusedVariables false
set_option linter.unusedSimpArgs false

/-- The records from the f-th up to the t-th. -/
theorem tg_sub {α : Type} [Rec α] {L : List α} {f t i : Nat} (hi : i < t - f) (ht : t ≤ L.length) : tg ((L.drop f).take (t - f)) i = tg L (f + i) := by
  simp [tg, List.getD, List.getElem?_take, hi, List.getElem?_drop]
theorem TL.sub {α : Type} [Rec α] {w : World} {b o : Nat} {L : List α} {f t : Nat} (h : TL w (some ⟨b, o, none⟩) L.length L) (hft : f ≤ t) (ht : t ≤ L.length) : TL w (some ⟨b, o + f * Rec.size α, none⟩) (t - f) ((L.drop f).take (t - f)) := by
  refine ⟨by simp; omega, fun h0 => ?_⟩
  obtain ⟨b', o', e, hb, hc⟩ := h.2 (by omega)
  injection e with e
  cases e
  refine ⟨b, _, rfl, hb, fun i hi j hj => ?_⟩
  rw [tg_sub hi ht, ← hc (f + i) (by omega) j hj, Nat.add_mul, Nat.add_assoc o]

end Go.Proofs.Ytlfhfbeacleggaa
