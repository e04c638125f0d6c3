/- Contracts of the functions of glue: each returns what its text computes and writes nothing that was there. -/
import Derived.Test.YtlfhfbeacleggaaRows
import Derived.Test.YtlfhfbeacleggaaBase
namespace Go.Proofs.Ytlfhfbeacleggaa
open Go.ChangeShapes Go.WideShapes Go.ChangeAt Go.RowKit

abbrev gv (a b c : Int) : Value := .agg #[.int .i64 a, .int .i64 b, .int .i64 c]

/-- Whether a number lies between two others. -/
def inB (n l h : Int) : Bool := decide (l ≤ n ∧ n ≤ h)
theorem inB_yes {n l h : Int} (a : l ≤ n) (b : n ≤ h) : inB n l h = true := by simp [inB]; omega
theorem inB_no {n l h : Int} (a : ¬ (l ≤ n ∧ n ≤ h)) : inB n l h = false := by simp [inB]; omega
theorem inB_iff {n l h : Int} : inB n l h = true ↔ l ≤ n ∧ n ≤ h := by simp [inB]

theorem within_any (n l h : Int) (w : World) :
    Calls Try.prog 89 #[.int .i64 n, .int .i64 l, .int .i64 h] w fun e w' => e = .returned (.bool (inB n l h)) ∧ w = w' := by
  by_cases h1 : l ≤ n <;> by_cases h2 : n ≤ h
  all_goals
    go_enter Try.func89, Try.ntmps89
    go_wp2
    go_ret
    exact ⟨bool_ret (by simp [inB, *]), rfl⟩

theorem inRange_any (n l h : Int) (w : World) :
    Calls Try.prog 75 #[.int .i64 n, .int .i64 l, .int .i64 h] w fun e w' => e = .returned (.bool (inB n l h)) ∧ w = w' := by
  by_cases h1 : l ≤ n <;> by_cases h2 : n ≤ h
  all_goals
    go_enter Try.func75, Try.ntmps75
    go_wp2
    go_ret
    exact ⟨bool_ret (by simp [inB, *]), rfl⟩

/-- Whether glue is valid. -/
def vg (a b c : Int) : Bool := inB a (-10000) 10000 && inB b 0 10000 && inB c 0 10000
theorem vg_iff {a b c : Int} : vg a b c = true ↔ (-10000 ≤ a ∧ a ≤ 10000) ∧ (0 ≤ b ∧ b ≤ 10000) ∧ (0 ≤ c ∧ c ≤ 10000) := by simp [vg, inB]; omega

theorem valid_any (a b c : Int) (w : World) :
    Calls Try.prog 217 #[gv a b c] w fun e w' => e = .returned (.bool (vg a b c)) ∧ Below w.heap.size w w' := by
  go_enter Try.func217, Try.ntmps217
  go_wp2_with (go_at_call 89; refine (within_any _ _ _ _).mono ?_; rintro e w' ⟨rfl, rfl⟩)
  all_goals
    go_ret
    refine ⟨bool_ret (by simp [vg, *]), bl_alloc (bl_refl _) _⟩


def bad (n h : Int) : Int := if n = 0 then 0 else if h = 0 then 10000 else min (100 * n * n * n / (h * h * h)) 10000
theorem bad_zero (h : Int) : bad 0 h = 0 := by simp [bad]
theorem bad_none (n : Int) (hn : n ≠ 0) : bad n 0 = 10000 := by simp [bad, hn]
theorem bad_big (n h : Int) (h0 : 0 < h) (hn : 5 * h < n) : bad n h = 10000 := by
  have hne : n ≠ 0 := by omega
  have hh : h ≠ 0 := by omega
  rw [bad, if_neg hne, if_neg hh]
  have h3 : 0 < h * h * h := Int.mul_pos (Int.mul_pos h0 h0) h0
  have e1 : (5 * h) * (5 * h) ≤ n * n := Int.mul_le_mul (by omega) (by omega) (by omega) (by omega)
  have e2 : (5 * h) * (5 * h) * (5 * h) ≤ n * n * n := Int.mul_le_mul e1 (by omega) (by omega) (Int.mul_nonneg (by omega) (by omega))
  have e3 : (5 * h) * (5 * h) * (5 * h) = 125 * (h * h * h) := by
    simp only [Int.mul_assoc, Int.mul_left_comm h]; omega
  have e4 : 100 * n * n * n = 100 * (n * n * n) := by simp only [Int.mul_assoc]
  have : 10000 ≤ 100 * n * n * n / (h * h * h) := by
    rw [Int.le_ediv_iff_mul_le h3]; omega
  omega
theorem cube_bd (n M : Int) (h0 : 0 ≤ n) (hM : n ≤ M) : 0 ≤ n * n ∧ n * n ≤ M * M ∧ 0 ≤ n * n * n ∧ n * n * n ≤ M * M * M := by
  have a := Int.mul_nonneg h0 h0
  have b : n * n ≤ M * M := Int.mul_le_mul hM hM h0 (by omega)
  exact ⟨a, b, Int.mul_nonneg a h0, Int.mul_le_mul b hM h0 (by have := Int.mul_nonneg (Int.le_trans h0 hM) (Int.le_trans h0 hM); omega)⟩
theorem cube_100 (n : Int) : 100 * n * n = 100 * (n * n) ∧ 100 * n * n * n = 100 * (n * n * n) := by simp only [Int.mul_assoc, and_self]

theorem badnessOf_any (n h : Int) (w : World) (n0 : 0 ≤ n) (n1 : n ≤ 20000) (h0 : 0 ≤ h) (h1 : h ≤ 10000) :
    Calls Try.prog 218 #[.int .i64 n, .int .i64 h] w fun e w' => e = .returned (.int .i64 (bad n h)) ∧ w = w' := by
  obtain ⟨a1, a2, a3, a4⟩ := cube_bd n 20000 n0 n1
  obtain ⟨b1, b2, b3, b4⟩ := cube_bd h 10000 h0 h1
  obtain ⟨c1, c2⟩ := cube_100 n
  have d1 : 0 ≤ 100 * n * n := by omega
  have d2 : 100 * n * n ≤ 40000000000 := by omega
  have d3 : 0 ≤ 100 * n * n * n := by omega
  have d4 : 100 * n * n * n ≤ 800000000000000 := by omega
  clear c1 c2
  by_cases z : n = 0
  · subst z
    go_enter Try.func218, Try.ntmps218
    go_wp2
    go_ret
    exact ⟨int_ret (bad_zero h).symm, rfl⟩
  · by_cases y : h = 0
    · subst y
      go_enter Try.func218, Try.ntmps218
      go_wp2
      go_ret
      exact ⟨int_ret (bad_none n z).symm, rfl⟩
    · have hp : 0 < h * h * h := Int.mul_pos (Int.mul_pos (by omega) (by omega)) (by omega)
      have e : bad n h = min (100 * n * n * n / (h * h * h)) 10000 := by simp [bad, z, y]
      have E := Lib.hid e; clear e
      go_enter Try.func218, Try.ntmps218
      go_wp2
      all_goals
        go_ret
        exact ⟨int_ret (by rw [E.out]; omega), rfl⟩

theorem badness_s (n h : Int) (w : World) (n0 : 0 ≤ n) (n1 : n ≤ 20000) (h0 : 0 ≤ h) (h1 : h ≤ 10000) :
    Calls Try.prog 208 #[.int .i64 n, .int .i64 h] w fun e w' => e = .returned (.int .i64 (bad n h)) ∧ w = w' := by
  obtain ⟨a1, a2, a3, a4⟩ := cube_bd n 20000 n0 n1
  obtain ⟨b1, b2, b3, b4⟩ := cube_bd h 10000 h0 h1
  obtain ⟨c1, c2⟩ := cube_100 n
  have d1 : 0 ≤ 100 * n * n := by omega
  have d2 : 100 * n * n ≤ 40000000000 := by omega
  have d3 : 0 ≤ 100 * n * n * n := by omega
  have d4 : 100 * n * n * n ≤ 800000000000000 := by omega
  clear c1 c2
  by_cases z : n = 0
  · subst z
    go_enter Try.func208, Try.ntmps208
    go_wp2
    go_ret
    exact ⟨int_ret (bad_zero h).symm, rfl⟩
  · by_cases y : h = 0
    · subst y
      go_enter Try.func208, Try.ntmps208
      go_wp2
      go_ret
      exact ⟨int_ret (bad_none n z).symm, rfl⟩
    · have hp : 0 < h * h * h := Int.mul_pos (Int.mul_pos (by omega) (by omega)) (by omega)
      by_cases x : 5 * h < n
      · go_enter Try.func208, Try.ntmps208
        go_wp2
        go_ret
        exact ⟨int_ret (bad_big n h (by omega) x).symm, rfl⟩
      · have e : bad n h = min (100 * n * n * n / (h * h * h)) 10000 := by simp [bad, z, y]
        have E := Lib.hid e; clear e
        go_enter Try.func208, Try.ntmps208
        go_wp2
        all_goals
          go_ret
          exact ⟨int_ret (by rw [E.out]; omega), rfl⟩

/-- What Badness returns. -/
def badv (n h : Int) : Int := if inB n 0 10000 && inB h 0 10000 then bad n h else -1



theorem plus_i (a b c x y z : Int) (w : World) (h1 : -10000 ≤ a ∧ a ≤ 10000) (h2 : 0 ≤ b ∧ b ≤ 10000) (h3 : 0 ≤ c ∧ c ≤ 10000) (k1 : -10000 ≤ x ∧ x ≤ 10000) (k2 : 0 ≤ y ∧ y ≤ 10000) (k3 : 0 ≤ z ∧ z ≤ 10000) :
    Calls Try.prog 157 #[gv a b c, gv x y z] w fun e w' => e = .returned (gv (a + x) (b + y) (c + z)) ∧ Below w.heap.size w w' := by
  obtain ⟨h1, h1'⟩ := h1; obtain ⟨h2, h2'⟩ := h2; obtain ⟨h3, h3'⟩ := h3
  obtain ⟨k1, k1'⟩ := k1; obtain ⟨k2, k2'⟩ := k2; obtain ⟨k3, k3'⟩ := k3
  go_enter Try.func157, Try.ntmps157
  go_wp2
  refine bodyPost_ret (v := gv (a + x) (b + y) (c + z)) (by simp [results, Try.results157, go_sem]) rfl ⟨rfl, ?_⟩
  repeat' (first | exact bl_refl _ | refine bl_alloc ?_ _ | refine bl_set ?_ ?_ _ | refine bl_call (by assumption) ?_)
  all_goals (simp; try omega)

theorem addGlue_s (a b c x y z : Int) (w : World) (h1 : -10000 ≤ a ∧ a ≤ 10000) (h2 : 0 ≤ b ∧ b ≤ 10000) (h3 : 0 ≤ c ∧ c ≤ 10000) (k1 : -10000 ≤ x ∧ x ≤ 10000) (k2 : 0 ≤ y ∧ y ≤ 10000) (k3 : 0 ≤ z ∧ z ≤ 10000) :
    Calls Try.prog 210 #[gv a b c, gv x y z] w fun e w' => e = .returned (gv (a + x) (b + y) (c + z)) ∧ Below w.heap.size w w' := by
  obtain ⟨h1, h1'⟩ := h1; obtain ⟨h2, h2'⟩ := h2; obtain ⟨h3, h3'⟩ := h3
  obtain ⟨k1, k1'⟩ := k1; obtain ⟨k2, k2'⟩ := k2; obtain ⟨k3, k3'⟩ := k3
  go_enter Try.func210, Try.ntmps210
  go_wp2
  refine bodyPost_ret (v := gv (a + x) (b + y) (c + z)) (by simp [results, Try.results210, go_sem]) rfl ⟨rfl, ?_⟩
  repeat' (first | exact bl_refl _ | refine bl_alloc ?_ _ | refine bl_set ?_ ?_ _ | refine bl_call (by assumption) ?_)
  all_goals (simp; try omega)



/-- What AddGlue returns. -/
def addOk (a b c x y z : Int) : Bool := vg a b c && vg x y z && vg (a + x) (b + y) (c + z)
def addv (a b c x y z : Int) : Value := if addOk a b c x y z then .tuple #[gv (a + x) (b + y) (c + z), .bool true] else .tuple #[gv 0 0 0, .bool false]

end Go.Proofs.Ytlfhfbeacleggaa
