/- The promises on PlaceFigures hold for every code: what is placed is accepted and never too early, and with more room nothing is later. No condition. -/
import Derived.Test.YtkclecfjpabplaaFigY
import Derived.Test.YtkclecfjpabplaaDrawF
namespace Go.Proofs.Ytkclecfjpabplaa
open Go.ChangeShapes Go.WideShapes Go.ChangeAt Go.RowKit
set_option linter.unusedVariables false

theorem Fok_of {F : List Du} (h : fgok F = true) : Fok F := fun i hi => by
  have := (fgok_iff.1 h).2 i hi
  exact ⟨this.1, this.2.1.1⟩
theorem plV_some {F : List Du} {sp r : List Int} (h : plV F sp = some r) : fgok F = true ∧ okLen sp 0 12 0 10000 = true ∧ pl F 0 sp = some r ∧ r.length = F.length ∧ CTo F sp r F.length := by
  cases q : (fgok F && okLen sp 0 12 0 10000)
  · rw [plV_no q] at h; cases h
  · rw [plV_yes q] at h
    have q' := Bool.and_eq_true_iff.1 q
    have hc := pl_chk (Fok_of q'.1) (sp := sp) F.length 0 (by omega) [] r 0 rfl (CTo.zero _ _ _) (fun i hi => by omega) (Int.le_refl _) (by
      rw [show us F [] ((0 : Nat) : Int) 0 = 0 from rfl, red_zero, List.drop_zero, List.drop_zero]
      exact h)
    rw [List.nil_append] at hc
    exact ⟨q'.1, q'.2, h, pl_len h, hc⟩
theorem plV_ok {F : List Du} {sp r : List Int} (h : plV F sp = some r) : ckV F sp r = true ∧ 0 ≤ tdV F sp r := by
  obtain ⟨h1, h2, _, h4, h5⟩ := plV_some h
  have h3 := ckV_yes.2 ⟨h1, h2, h4, h5⟩
  refine ⟨h3, ?_⟩
  rw [tdV_yes h3]
  exact (dl_bd h5 (fun i hi => ((fgok_iff.1 h1).2 i hi).2.1.1)).1
/-- Accepted pages with less room: what is placed is never later. -/
theorem plV_first {F : List Du} {sp sp' l' : List Int} (h1 : fgok F = true) (h2 : okLen sp 0 12 0 10000 = true) (hlen : sp'.length = sp.length) (hle : ∀ j, j < sp.length → ng sp' j ≤ ng sp j) (hc : CTo F sp' l' F.length) : ∃ r, plV F sp = some r ∧ r.length = F.length ∧ ∀ i, i < F.length → ng r i ≤ ng l' i := by
  obtain ⟨m, e1, e2, e3⟩ := pl_first (Fok_of h1) hlen hle hc F.length 0 (by omega) 0 0 (Int.le_refl _) (.inr ⟨rfl, Int.le_refl _⟩)
  rw [red_zero, List.drop_zero, List.drop_zero] at e1
  refine ⟨m, by rw [plV_yes (by rw [h1, h2]; rfl)]; exact e1, e2, fun i hi => ?_⟩
  have := e3 i hi
  rwa [Nat.zero_add] at this

end Go.Proofs.Ytkclecfjpabplaa
