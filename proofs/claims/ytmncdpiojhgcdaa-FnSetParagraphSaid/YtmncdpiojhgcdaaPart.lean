/- Parts of a paragraph in impl: one type for each kind of item. -/
import Derived.Test.YtmncdpiojhgcdaaSc
import Derived.Deep.RegionWith
namespace Go.Proofs.Ytmncdpiojhgcdaa
open Go.ChangeShapes Go.WideShapes Go.ChangeAt Go.RowKit
set_option linter.unusedVariables false

abbrev bpv (w : Int) : Value := .agg #[.int .i64 w]
abbrev gpv (w st sh : Int) : Value := .agg #[.int .i64 w, .int .i64 st, .int .i64 sh]
abbrev ppv (w p : Int) (f : Bool) : Value := .agg #[.int .i64 w, .int .i64 p, .bool f]
/-- The part of an item. -/
def part (x : It) : Value := if x.k = 1 then .iface 166 (bpv x.w) else if x.k = 2 then .iface 171 (gpv x.w x.st x.sh) else .iface 134 (ppv x.w x.p x.f)

theorem box_item (a : Int) (w : World) :
    Calls Try.prog 179 #[bpv a] w fun e w' => e = .returned (itv ⟨1, a, 0, 0, 0, false⟩) ∧ Below w.heap.size w w' := by
  go_enter Try.func179, Try.ntmps179
  go_wp2
  refine bodyPost_ret (v := itv ⟨1, a, 0, 0, 0, false⟩) (by simp [results, Try.results179, go_sem, *]) rfl ⟨rfl, ?_⟩
  repeat' (first | with_reducible exact bl_refl _ | with_reducible assumption | with_reducible refine bl_alloc ?_ _ | with_reducible refine bl_set ?_ ?_ _ | with_reducible refine bl_drewN ?_ _ | with_reducible refine bl_drew ?_ | with_reducible refine bl_call (by assumption) ?_)
  all_goals (first | omega | (simp; done) | (simp; omega))
theorem glue_item (a b c : Int) (w : World) :
    Calls Try.prog 185 #[gpv a b c] w fun e w' => e = .returned (itv ⟨2, a, b, c, 0, false⟩) ∧ Below w.heap.size w w' := by
  go_enter Try.func185, Try.ntmps185
  go_wp2
  refine bodyPost_ret (v := itv ⟨2, a, b, c, 0, false⟩) (by simp [results, Try.results185, go_sem, *]) rfl ⟨rfl, ?_⟩
  repeat' (first | with_reducible exact bl_refl _ | with_reducible assumption | with_reducible refine bl_alloc ?_ _ | with_reducible refine bl_set ?_ ?_ _ | with_reducible refine bl_drewN ?_ _ | with_reducible refine bl_drew ?_ | with_reducible refine bl_call (by assumption) ?_)
  all_goals (first | omega | (simp; done) | (simp; omega))
theorem pen_item (a p : Int) (f : Bool) (w : World) :
    Calls Try.prog 173 #[ppv a p f] w fun e w' => e = .returned (itv ⟨3, a, 0, 0, p, f⟩) ∧ Below w.heap.size w w' := by
  go_enter Try.func173, Try.ntmps173
  go_wp2
  refine bodyPost_ret (v := itv ⟨3, a, 0, 0, p, f⟩) (by simp [results, Try.results173, go_sem, *]) rfl ⟨rfl, ?_⟩
  repeat' (first | with_reducible exact bl_refl _ | with_reducible assumption | with_reducible refine bl_alloc ?_ _ | with_reducible refine bl_set ?_ ?_ _ | with_reducible refine bl_drewN ?_ _ | with_reducible refine bl_drew ?_ | with_reducible refine bl_call (by assumption) ?_)
  all_goals (first | omega | (simp; done) | (simp; omega))
theorem box_lim (a : Int) (w : World) :
    Calls Try.prog 177 #[bpv a] w fun e w' => e = .returned (.bool (inB a 0 1000)) ∧ Below w.heap.size w w' := by
  go_enter Try.func177, Try.ntmps177
  go_wp2_with (go_at_call 113; refine (within_any _ _ _ _).mono ?_; rintro e w' ⟨rfl, rfl⟩)
  go_ret
  refine ⟨rfl, ?_⟩
  repeat' (first | with_reducible exact bl_refl _ | with_reducible assumption | with_reducible refine bl_alloc ?_ _ | with_reducible refine bl_set ?_ ?_ _ | with_reducible refine bl_drewN ?_ _ | with_reducible refine bl_drew ?_ | with_reducible refine bl_call (by assumption) ?_)
theorem glue_lim (a b c : Int) (w : World) :
    Calls Try.prog 183 #[gpv a b c] w fun e w' => e = .returned (.bool (inB a 0 1000 && (inB b 0 1000 && inB c 0 a))) ∧ Below w.heap.size w w' := by
  cases q1 : inB a 0 1000 <;> cases q2 : inB b 0 1000 <;> cases q3 : inB c 0 a
  all_goals
    go_enter Try.func183, Try.ntmps183
    go_wp2_with (go_at_call 113; refine (within_any _ _ _ _).mono ?_; rintro e w' ⟨rfl, rfl⟩)
    go_ret
    refine ⟨rfl, ?_⟩
    repeat' (first | with_reducible exact bl_refl _ | with_reducible assumption | with_reducible refine bl_alloc ?_ _ | with_reducible refine bl_set ?_ ?_ _ | with_reducible refine bl_drewN ?_ _ | with_reducible refine bl_drew ?_ | with_reducible refine bl_call (by assumption) ?_)
theorem pen_lim (a p : Int) (f : Bool) (w : World) :
    Calls Try.prog 171 #[ppv a p f] w fun e w' => e = .returned (.bool (inB a 0 1000 && inB p (-1000) 1000)) ∧ Below w.heap.size w w' := by
  cases q1 : inB a 0 1000 <;> cases q2 : inB p (-1000) 1000
  all_goals
    go_enter Try.func171, Try.ntmps171
    go_wp2_with (go_at_call 113; refine (within_any _ _ _ _).mono ?_; rintro e w' ⟨rfl, rfl⟩)
    go_ret
    refine ⟨rfl, ?_⟩
    repeat' (first | with_reducible exact bl_refl _ | with_reducible assumption | with_reducible refine bl_alloc ?_ _ | with_reducible refine bl_set ?_ ?_ _ | with_reducible refine bl_drewN ?_ _ | with_reducible refine bl_drew ?_ | with_reducible refine bl_call (by assumption) ?_)

end Go.Proofs.Ytmncdpiojhgcdaa
