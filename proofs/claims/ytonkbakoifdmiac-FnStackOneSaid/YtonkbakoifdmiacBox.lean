/- Contracts on single boxes: whether one is valid, the space between two, and a box that is raised. -/
import Derived.Test.YtonkbakoifdmiacGlue
namespace Go.Proofs.Ytonkbakoifdmiac
open Go.ChangeShapes Go.WideShapes Go.ChangeAt Go.RowKit
set_option linter.unusedVariables false

/-- Whether a box is valid. -/
def vb (a b c : Int) : Bool := inB a 0 10000 && inB b 0 10000 && inB c 0 10000
theorem vb_iff {a b c : Int} : vb a b c = true ↔ (0 ≤ a ∧ a ≤ 10000) ∧ (0 ≤ b ∧ b ≤ 10000) ∧ (0 ≤ c ∧ c ≤ 10000) := by simp [vb, inB]; omega

theorem ValidBox_i (a b c : Int) (w : World) :
    Calls Try.prog 64 #[gv a b c] w fun e w' => e = .returned (.bool (vb a b c)) ∧ Below w.heap.size w w' := by
  go_enter Try.func64, Try.ntmps64
  go_wp2_with (go_at_call 47; refine (within_any _ _ _ _).mono ?_; rintro e w' ⟨rfl, rfl⟩)
  all_goals
    go_ret
    refine ⟨bool_ret (by simp [vb, *]), bl_alloc (bl_refl _) _⟩
theorem validBox_s (a b c : Int) (w : World) :
    Calls Try.prog 65 #[gv a b c] w fun e w' => e = .returned (.bool (vb a b c)) ∧ Below w.heap.size w w' := by
  go_enter Try.func65, Try.ntmps65
  go_wp2_with (go_at_call 44; refine (inRange_any _ _ _ _).mono ?_; rintro e w' ⟨rfl, rfl⟩)
  all_goals
    go_ret
    refine ⟨bool_ret (by simp [vb, *]), bl_alloc (bl_refl _) _⟩

/-- The space between two boxes. -/
def il (sk d h : Int) : Int := max (sk - d - h) 1
def ilv (a b c x y z sk : Int) : Int := if vb a b c && vb x y z && inB sk 0 10000 then il sk c y else -1

theorem interline_i (a b c x y z sk : Int) (w : World) (s0 : 0 ≤ sk) (s1 : sk ≤ 10000) (c0 : 0 ≤ c) (c1 : c ≤ 10000) (y0 : 0 ≤ y) (y1 : y ≤ 10000) :
    Calls Try.prog 49 #[gv a b c, gv x y z, .int .i64 sk] w fun e w' => e = .returned (.int .i64 (il sk c y)) ∧ Below w.heap.size w w' := by
  go_enter Try.func49, Try.ntmps49
  go_wp2
  all_goals
    go_ret
    refine ⟨int_ret (by unfold il; omega), ?_⟩
    repeat' (first | with_reducible exact bl_refl _ | with_reducible assumption | with_reducible refine bl_alloc ?_ _ | with_reducible refine bl_set ?_ ?_ _ | with_reducible refine bl_drewN ?_ _ | with_reducible refine bl_drew ?_ | with_reducible refine bl_call (by assumption) ?_)
theorem interline_s (a b c x y z sk : Int) (w : World) (s0 : 0 ≤ sk) (s1 : sk ≤ 10000) (c0 : 0 ≤ c) (c1 : c ≤ 10000) (y0 : 0 ≤ y) (y1 : y ≤ 10000) :
    Calls Try.prog 66 #[gv a b c, gv x y z, .int .i64 sk] w fun e w' => e = .returned (.int .i64 (il sk c y)) ∧ Below w.heap.size w w' := by
  go_enter Try.func66, Try.ntmps66
  go_wp2
  all_goals
    go_ret
    refine ⟨int_ret (by unfold il; omega), ?_⟩
    repeat' (first | with_reducible exact bl_refl _ | with_reducible assumption | with_reducible refine bl_alloc ?_ _ | with_reducible refine bl_set ?_ ?_ _ | with_reducible refine bl_drewN ?_ _ | with_reducible refine bl_drew ?_ | with_reducible refine bl_call (by assumption) ?_)

/-- A raised box. -/
def rbOk (a b c n : Int) : Bool := vb a b c && inB n (-10000) 10000 && vb a (max (b + n) 0) (max (c - n) 0)
def rbv (a b c n : Int) : Value := if rbOk a b c n then .tuple #[gv a (max (b + n) 0) (max (c - n) 0), .bool true] else .tuple #[gv 0 0 0, .bool false]
theorem rbv_no {a b c n : Int} (h : rbOk a b c n = false) : rbv a b c n = .tuple #[gv 0 0 0, .bool false] := by simp [rbv, h]
theorem rbv_yes {a b c n : Int} (h : rbOk a b c n = true) : rbv a b c n = .tuple #[gv a (max (b + n) 0) (max (c - n) 0), .bool true] := by simp only [rbv, h, if_true]
end Go.Proofs.Ytonkbakoifdmiac
