/- Contracts of the functions of glue: each returns what its text computes and writes nothing that was there. -/
import Derived.Test.YtlfhfbeacleggabRows
import Derived.Test.YtlfhfbeacleggabBase
namespace Go.Proofs.Ytlfhfbeacleggab
open Go.ChangeShapes Go.WideShapes Go.ChangeAt Go.RowKit
set_option linter.unusedSimpArgs false

abbrev gv (a b c : Int) : Value := .agg #[.int .i64 a, .int .i64 b, .int .i64 c]

/-- Whether a number lies between two others. -/
def inB (n l h : Int) : Bool := decide (l ≤ n ∧ n ≤ h)
theorem inB_yes {n l h : Int} (a : l ≤ n) (b : n ≤ h) : inB n l h = true := by simp [inB]; omega
theorem inB_no {n l h : Int} (a : ¬ (l ≤ n ∧ n ≤ h)) : inB n l h = false := by simp [inB]; omega
theorem inB_iff {n l h : Int} : inB n l h = true ↔ l ≤ n ∧ n ≤ h := by simp [inB]

theorem within_any (n l h : Int) (w : World) :
    Calls Try.prog 33 #[.int .i64 n, .int .i64 l, .int .i64 h] w fun e w' => e = .returned (.bool (inB n l h)) ∧ w = w' := by
  by_cases h1 : l ≤ n <;> by_cases h2 : n ≤ h
  all_goals
    go_enter Try.func33, Try.ntmps33
    go_wp2
    go_ret
    exact ⟨bool_ret (by simp [inB, *]), rfl⟩

theorem inRange_any (n l h : Int) (w : World) :
    Calls Try.prog 30 #[.int .i64 n, .int .i64 l, .int .i64 h] w fun e w' => e = .returned (.bool (inB n l h)) ∧ w = w' := by
  by_cases h1 : l ≤ n <;> by_cases h2 : n ≤ h
  all_goals
    go_enter Try.func30, Try.ntmps30
    go_wp2
    go_ret
    exact ⟨bool_ret (by simp [inB, *]), rfl⟩

/-- Whether glue is valid. -/
def vg (a b c : Int) : Bool := inB a (-10000) 10000 && inB b 0 10000 && inB c 0 10000
theorem vg_iff {a b c : Int} : vg a b c = true ↔ (-10000 ≤ a ∧ a ≤ 10000) ∧ (0 ≤ b ∧ b ≤ 10000) ∧ (0 ≤ c ∧ c ≤ 10000) := by simp [vg, inB]; omega

theorem valid_any (a b c : Int) (w : World) :
    Calls Try.prog 34 #[gv a b c] w fun e w' => e = .returned (.bool (vg a b c)) ∧ Below w.heap.size w w' := by
  go_enter Try.func34, Try.ntmps34
  go_wp2_with (go_at_call 33; refine (within_any _ _ _ _).mono ?_; rintro e w' ⟨rfl, rfl⟩)
  all_goals
    go_ret
    refine ⟨bool_ret (by simp [vg, *]), bl_alloc (bl_refl _) _⟩

theorem validGlue_s (a b c : Int) (w : World) :
    Calls Try.prog 40 #[gv a b c] w fun e w' => e = .returned (.bool (vg a b c)) ∧ Below w.heap.size w w' := by
  go_enter Try.func40, Try.ntmps40
  go_wp2_with (go_at_call 30; refine (inRange_any _ _ _ _).mono ?_; rintro e w' ⟨rfl, rfl⟩)
  all_goals
    go_ret
    refine ⟨bool_ret (by simp [vg, *]), bl_alloc (bl_refl _) _⟩

def bad (n h : Int) : Int := if n = 0 then 0 else if h = 0 then 10000 else min (100 * n * n * n / (h * h * h)) 10000
theorem bad_zero (h : Int) : bad 0 h = 0 := by simp [bad]
theorem bad_none (n : Int) (hn : n ≠ 0) : bad n 0 = 10000 := by simp [bad, hn]
theorem bad_big (n h : Int) (h0 : 0 < h) (hn : 5 * h < n) : bad n h = 10000 := by
  have hne : n ≠ 0 := by omega
  have hh : h ≠ 0 := by omega
  rw [bad, if_neg hne, if_neg hh]
  have h3 : 0 < h * h * h := Int.mul_pos (Int.mul_pos h0 h0) h0
  have e1 : (5 * h) * (5 * h) ≤ n * n := Int.mul_le_mul (by omega) (by omega) (by omega) (by omega)
  have e2 : (5 * h) * (5 * h) * (5 * h) ≤ n * n * n := Int.mul_le_mul e1 (by omega) (by omega) (Int.mul_nonneg (by omega) (by omega))
  have e3 : (5 * h) * (5 * h) * (5 * h) = 125 * (h * h * h) := by
    simp only [Int.mul_assoc, Int.mul_left_comm h]; omega
  have e4 : 100 * n * n * n = 100 * (n * n * n) := by simp only [Int.mul_assoc]
  have : 10000 ≤ 100 * n * n * n / (h * h * h) := by
    rw [Int.le_ediv_iff_mul_le h3]; omega
  omega
theorem cube_bd (n M : Int) (h0 : 0 ≤ n) (hM : n ≤ M) : 0 ≤ n * n ∧ n * n ≤ M * M ∧ 0 ≤ n * n * n ∧ n * n * n ≤ M * M * M := by
  have a := Int.mul_nonneg h0 h0
  have b : n * n ≤ M * M := Int.mul_le_mul hM hM h0 (by omega)
  exact ⟨a, b, Int.mul_nonneg a h0, Int.mul_le_mul b hM h0 (by have := Int.mul_nonneg (Int.le_trans h0 hM) (Int.le_trans h0 hM); omega)⟩
theorem cube_100 (n : Int) : 100 * n * n = 100 * (n * n) ∧ 100 * n * n * n = 100 * (n * n * n) := by simp only [Int.mul_assoc, and_self]



/-- What Badness returns. -/
def badv (n h : Int) : Int := if inB n 0 10000 && inB h 0 10000 then bad n h else -1







/-- What AddGlue returns. -/
def addOk (a b c x y z : Int) : Bool := vg a b c && vg x y z && vg (a + x) (b + y) (c + z)
def addv (a b c x y z : Int) : Value := if addOk a b c x y z then .tuple #[gv (a + x) (b + y) (c + z), .bool true] else .tuple #[gv 0 0 0, .bool false]

end Go.Proofs.Ytlfhfbeacleggab
