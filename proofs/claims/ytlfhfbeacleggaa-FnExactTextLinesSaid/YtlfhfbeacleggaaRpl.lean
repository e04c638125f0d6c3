/- slices.Repeat of a single line: that many of it, in new memory. -/
import Derived.Test.YtlfhfbeacleggaaInts
import Derived.Test.YtlfhfbeacleggaaCpy
import Derived.Laws.CopyOwn
import Derived.Deep.RegionLaw
namespace Go.Proofs.Ytlfhfbeacleggaa
open Go.ChangeShapes Go.WideShapes Go.ChangeAt Go.RowKit
set_option linter.unusedVariables false
set_option maxRecDepth 4000

set_option maxHeartbeats 8000000 in
theorem Mul_oneL (n : Nat) (h : n ≤ 40) (w : World) : Calls Try.prog 148 #[.int .u64 1, .int .u64 n] w fun e w' => e = .returned (.tuple #[.int .u64 0, .int .u64 n]) ∧ w = w' := by
  obtain ⟨k, rfl⟩ : ∃ k : Fin 41, n = k.1 := ⟨⟨n, by omega⟩, rfl⟩
  clear h
  revert w
  revert k
  have key : ∀ m, m < 41 → ∀ w, Calls Try.prog 148 #[.int .u64 1, .int .u64 (m : Nat)] w fun e w' => e = .returned (.tuple #[.int .u64 0, .int .u64 (m : Nat)]) ∧ w = w' := fun m hm w => by
    have h := List.mem_range.2 hm
    rw [show List.range 41 = [0, 1, 2, 3, 4, 5, 6, 7, 8, 9, 10, 11, 12, 13, 14, 15, 16, 17, 18, 19, 20, 21, 22, 23, 24, 25, 26, 27, 28, 29, 30, 31, 32, 33, 34, 35, 36, 37, 38, 39, 40] from rfl] at h
    simp only [List.mem_cons, List.not_mem_nil, or_false] at h
    clear hm
    rcases h with rfl | rfl | rfl | rfl | rfl | rfl | rfl | rfl | rfl | rfl | rfl | rfl | rfl | rfl | rfl | rfl | rfl | rfl | rfl | rfl | rfl | rfl | rfl | rfl | rfl | rfl | rfl | rfl | rfl | rfl | rfl | rfl | rfl | rfl | rfl | rfl | rfl | rfl | rfl | rfl | rfl
    all_goals
      go_enter Try.func148, Try.ntmps148
      go_wp2
      go_ret2
      exact ⟨rfl, rfl⟩
  exact fun k w => key k.1 k.2 w
/-- n lines, the first p of them x, the rest zero. -/
def zl : List Value := [.int .i64 0, .int .i64 0, .int .i64 0]
def xl (a b c : Int) : List Value := [.int .i64 a, .int .i64 b, .int .i64 c]
def rpl (x : List Value) (p : Nat) : List Value := (List.replicate p x).flatten
theorem rpl_len {x : List Value} (hx : x.length = 3) (p : Nat) : (rpl x p).length = p * 3 := by simp [rpl, hx]
theorem rpl_add (x : List Value) (p q : Nat) : rpl x (p + q) = rpl x p ++ rpl x q := by unfold rpl; rw [← List.replicate_append_replicate, List.flatten_append]
theorem rpl_get {x : List Value} (hx : x.length = 3) {n j : Nat} (h : j < n * 3) : (rpl x n)[j]? = x[j % 3]? := by
  induction n generalizing j with
  | zero => omega
  | succ n ih =>
    rw [show n + 1 = 1 + n by omega, rpl_add]
    have e1 : rpl x 1 = x := by simp [rpl]
    rw [e1]
    by_cases h3 : j < 3
    · rw [List.getElem?_append_left (by omega), Nat.mod_eq_of_lt h3]
    · rw [List.getElem?_append_right (by omega), ih (by omega), hx]
      congr 1
      omega
def lns (x : List Value) (n p : Nat) : List Value := rpl x p ++ rpl zl (n - p)
theorem lns_len {x : List Value} (hx : x.length = 3) {n p : Nat} (h : p ≤ n) : (lns x n p).length = n * 3 := by unfold lns; rw [List.length_append, rpl_len hx, rpl_len rfl]; omega
theorem lns_get {x : List Value} (hx : x.length = 3) {n p j : Nat} (h : j < p * 3) : (lns x n p)[j]? = x[j % 3]? := by
  unfold lns
  rw [List.getElem?_append_left (by rw [rpl_len hx]; exact h), rpl_get hx h]
theorem lns_splice {x : List Value} (hx : x.length = 3) {n p q : Nat} (h : p + q ≤ n) : splice (lns x n p) (p * 3) (rpl x q) = lns x n (p + q) := by
  unfold splice lns
  have e0 : rpl zl (n - p) = rpl zl q ++ rpl zl (n - (p + q)) := by rw [← rpl_add]; congr 1; omega
  have e1 : (rpl x p ++ rpl zl (n - p)).take (p * 3) = rpl x p := by
    rw [List.take_append_of_le_length (by rw [rpl_len hx]; exact Nat.le_refl _), List.take_of_length_le (by rw [rpl_len hx]; exact Nat.le_refl _)]
  have e2 : (rpl x p ++ rpl zl (n - p)).drop (p * 3 + (rpl x q).length) = rpl zl (n - (p + q)) := by
    rw [e0, ← List.append_assoc, List.drop_left' (by rw [List.length_append, rpl_len hx, rpl_len hx, rpl_len rfl])]
  rw [e1, e2, rpl_add, List.append_assoc]
end Go.Proofs.Ytlfhfbeacleggaa
