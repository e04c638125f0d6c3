/- Where a line may end, in the program. -/
import Derived.Test.YtafddofajfcffaaMea
namespace Go.Proofs.Ytafddofajfcffaa
open Go.ChangeShapes Go.WideShapes Go.ChangeAt Go.RowKit
set_option linter.unusedVariables false

theorem box_mayEnd (a : Int) (t : Bool) (w : World) : Calls Try.prog 187 #[bpv a, .bool t] w fun e w' => e = .returned (.bool false) ∧ Below w.heap.size w w' := by
  go_enter Try.func187, Try.ntmps187
  go_wp2
  refine bodyPost_ret (v := .bool false) (by simp [results, Try.results187, go_sem, *]) rfl ⟨rfl, ?_⟩
  repeat' (first | with_reducible exact bl_refl _ | with_reducible assumption | with_reducible refine bl_alloc ?_ _ | with_reducible refine bl_set ?_ ?_ _ | with_reducible refine bl_drewN ?_ _ | with_reducible refine bl_drew ?_ | with_reducible refine bl_call (by assumption) ?_)
  all_goals (first | omega | (simp; done) | (simp; omega))
theorem glue_mayEnd (a b c : Int) (t : Bool) (w : World) : Calls Try.prog 193 #[gpv a b c, .bool t] w fun e w' => e = .returned (.bool t) ∧ Below w.heap.size w w' := by
  go_enter Try.func193, Try.ntmps193
  go_wp2
  refine bodyPost_ret (v := .bool t) (by simp [results, Try.results193, go_sem, *]) rfl ⟨rfl, ?_⟩
  repeat' (first | with_reducible exact bl_refl _ | with_reducible assumption | with_reducible refine bl_alloc ?_ _ | with_reducible refine bl_set ?_ ?_ _ | with_reducible refine bl_drewN ?_ _ | with_reducible refine bl_drew ?_ | with_reducible refine bl_call (by assumption) ?_)
  all_goals (first | omega | (simp; done) | (simp; omega))
theorem pen_mayEnd (a p : Int) (f t : Bool) (w : World) : Calls Try.prog 181 #[ppv a p f, .bool t] w fun e w' => e = .returned (.bool (decide (p < 1000))) ∧ Below w.heap.size w w' := by
  go_enter Try.func181, Try.ntmps181
  go_wp2
  refine bodyPost_ret (v := .bool (decide (p < 1000))) (by simp [results, Try.results181, go_sem, *]) rfl ⟨rfl, ?_⟩
  repeat' (first | with_reducible exact bl_refl _ | with_reducible assumption | with_reducible refine bl_alloc ?_ _ | with_reducible refine bl_set ?_ ?_ _ | with_reducible refine bl_drewN ?_ _ | with_reducible refine bl_drew ?_ | with_reducible refine bl_call (by assumption) ?_)
  all_goals (first | omega | (simp; done) | (simp; omega))
/-- The part's own answer to whether a line may end at it. -/
def mE (x : It) (t : Bool) : Bool := if x.k = 2 then t else if x.k = 3 then decide (x.p < 1000) else false
theorem mayE_eq (L : List It) (i : Nat) : mayE L i = mE (tg L i) (decide (0 < i) && isB (tg L (i - 1))) := rfl
theorem part_mayEnd (x : It) (hx : KOk x) : ∃ T y F, part x = .iface T y ∧ (∀ W, (method 300 T y "loop.example/typesetting/impl.mayEnd").run Try.prog W = .ok (F, y) W) ∧ ∀ t w, Calls Try.prog F #[y, .bool t] w fun e w' => e = .returned (.bool (mE x t)) ∧ Below w.heap.size w w' := by
  obtain ⟨k, b, c, d, e, f⟩ := x
  rcases hx with h | h | h
  · simp only at h
    subst h
    exact ⟨175, bpv b, 187, by simp [part], fun W => by kernel_rfl, fun t w => by simpa [mE] using box_mayEnd b t w⟩
  · simp only at h
    subst h
    exact ⟨182, gpv b c d, 193, by simp [part], fun W => by kernel_rfl, fun t w => by simpa [mE] using glue_mayEnd b c d t w⟩
  · simp only at h
    subst h
    exact ⟨164, ppv b e f, 181, by simp [part], fun W => by kernel_rfl, fun t w => by simpa [mE] using pen_mayEnd b e f t w⟩
end Go.Proofs.Ytafddofajfcffaa
