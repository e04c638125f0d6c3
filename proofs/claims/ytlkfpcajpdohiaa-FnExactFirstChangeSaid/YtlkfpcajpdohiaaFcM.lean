/- The first line that differs: pure maths. -/
import Derived.Test.YtlkfpcajpdohiaaFfM
import Derived.Test.YtlkfpcajpdohiaaItX
import Derived.Test.YtlkfpcajpdohiaaKep
namespace Go.Proofs.Ytlkfpcajpdohiaa
open Go.ChangeShapes Go.WideShapes Go.ChangeAt Go.RowKit
set_option linter.unusedVariables false
open Classical

/-- How many of the first n numbers are left when those from c on are taken from the end. -/
def fcN (x : List Int) (c : Int) : Nat → Nat
  | 0 => 0
  | n + 1 => if c ≤ ng x n then fcN x c n else n + 1
section
variable {x : List Int} {c : Int}
theorem fcN_le : ∀ {n : Nat}, fcN x c n ≤ n
  | 0 => Nat.le_refl _
  | n + 1 => by
    have := fcN_le (n := n)
    simp only [fcN]
    split <;> omega
theorem fcN_hi : ∀ {n k : Nat}, fcN x c n ≤ k → k < n → c ≤ ng x k
  | 0, k, _, h => by omega
  | n + 1, k, h1, h2 => by
    simp only [fcN] at h1
    by_cases q : c ≤ ng x n
    · rw [if_pos q] at h1
      rcases (by omega : k < n ∨ k = n) with e | e
      · exact fcN_hi h1 e
      · rw [e]; exact q
    · rw [if_neg q] at h1
      omega
theorem fcN_at : ∀ {n : Nat}, 0 < fcN x c n → ng x (fcN x c n - 1) < c
  | 0, h => by simp [fcN] at h
  | n + 1, h => by
    simp only [fcN] at h ⊢
    by_cases q : c ≤ ng x n
    · rw [if_pos q] at h ⊢
      exact fcN_at h
    · rw [if_neg q, Nat.add_sub_cancel]
      omega
theorem fcN_eq {n r : Nat} (hr : r ≤ n) (h1 : ∀ k, k < r → ng x k < c) (h2 : ∀ k, r ≤ k → k < n → c ≤ ng x k) : fcN x c n = r := by
  have a := fcN_le (x := x) (c := c) (n := n)
  rcases (by omega : fcN x c n = r ∨ fcN x c n < r ∨ r < fcN x c n) with e | e | e
  · exact e
  · have := h1 _ e
    have := fcN_hi (x := x) (c := c) (n := n) (k := fcN x c n) (Nat.le_refl _) (by omega)
    omega
  · have := fcN_at (x := x) (c := c) (n := n) (by omega)
    have := h2 (fcN x c n - 1) (by omega) (by omega)
    omega
theorem fcN_put {n : Nat} (h : c ≤ ng x n) : fcN x c (n + 1) = fcN x c n := by simp only [fcN]; rw [if_pos h]
theorem fcN_end {n : Nat} (h : ¬ c ≤ ng x n) : fcN x c (n + 1) = n + 1 := by simp only [fcN]; rw [if_neg h]
end
theorem ng_take {l : List Int} {n k : Nat} (h : k < n) : ng (l.take n) k = ng l k := by
  unfold ng
  simp [List.getD, List.getElem?_take, h]
/-- Breaks ascend. -/
theorem ffO_asc {L : List It} {d : Int} {i j : Nat} (hij : i < j) (hj : j < (ffO L d).length) : ng (ffO L d) i < ng (ffO L d) j := by
  cases q : (isOk L && inB d 1 10000)
  · rw [ffO_no q] at hj; simp at hj
  · have ok := ((Bool.and_eq_true _ _).mp q).1
    rw [ffO_yes q] at hj ⊢
    rw [ffA_len] at hj
    rw [ffA_at (by omega), ffA_at hj]
    have hn := nLn_in (L := L) (d := d) (m := L.length)
    have hf : fpS L d j < L.length := by
      rcases hn.2.1 with e | e
      · have : nFF L d = 0 := e
        omega
      · have := fpS_mono (d := d) ok (show j ≤ nLn L d L.length - 1 from by
          have : j < nLn L d L.length := hj
          omega)
        omega
    obtain ⟨q1, _, a, _, b, _⟩ := (fpS_step (d := d) ok (k := j)).2 hf
    have := fpS_mono (d := d) ok (show i + 1 ≤ j from hij)
    omega
/-- What FirstChange answers. -/
noncomputable def fcO (L M : List It) (d : Int) : Int := if isOk L && isOk M && inB d 1 10000 then (fcN (ffO L d) (kp L M) (kp (ffO L d) (ffO M d)) : Int) else -1
theorem fcO_no {L M : List It} {d : Int} (h : (isOk L && isOk M && inB d 1 10000) = false) : fcO L M d = -1 := by unfold fcO; rw [h]; rfl
theorem fcO_yes {L M : List It} {d : Int} (h1 : isOk L = true) (h2 : isOk M = true) (h3 : inB d 1 10000 = true) : fcO L M d = (fcN (ffO L d) (kp L M) (kp (ffO L d) (ffO M d)) : Int) := by unfold fcO; rw [h1, h2, h3]; rfl
theorem fcO_bd {L M : List It} {d : Int} : -1 ≤ fcO L M d ∧ fcO L M d ≤ 60 := by
  cases q : (isOk L && isOk M && inB d 1 10000)
  · rw [fcO_no q]; omega
  · unfold fcO
    rw [q, if_pos rfl]
    have := fcN_le (x := ffO L d) (c := (kp L M : Int)) (n := kp (ffO L d) (ffO M d))
    have := (kp_le (ffO L d) (ffO M d)).1
    have := ffO_len (L := L) (d := d)
    omega
/-- What the laws ask of it. -/
theorem fcO_law {L M : List It} {d : Int} (h : 0 ≤ fcO L M d) : isOk L = true ∧ isOk M = true ∧ inB d 1 10000 = true ∧ ∃ n : Nat, fcO L M d = n ∧ n ≤ (ffO L d).length ∧ n ≤ (ffO M d).length ∧ (ffO L d).take n = (ffO M d).take n ∧ (0 < n → ng (ffO L d) (n - 1) < ciO L M) := by
  cases q : (isOk L && isOk M && inB d 1 10000)
  · rw [fcO_no q] at h; omega
  · simp only [Bool.and_eq_true] at q
    obtain ⟨⟨h1, h2⟩, h3⟩ := q
    refine ⟨h1, h2, h3, _, fcO_yes h1 h2 h3, ?_, ?_, ?_, ?_⟩
    · exact Nat.le_trans fcN_le (kp_le _ _).1
    · exact Nat.le_trans fcN_le (kp_le _ _).2
    · have e := kp_take (ffO L d) (ffO M d)
      have hle := fcN_le (x := ffO L d) (c := (kp L M : Int)) (n := kp (ffO L d) (ffO M d))
      have := congrArg (List.take (fcN (ffO L d) (kp L M) (kp (ffO L d) (ffO M d)))) e
      rwa [List.take_take, List.take_take, Nat.min_eq_left hle] at this
    · intro hn
      rw [ciO_yes h1 h2]
      exact fcN_at hn
/-- A paragraph has no change from itself. -/
theorem fcO_self {L : List It} {d : Int} (h1 : isOk L = true) (h3 : inB d 1 10000 = true) : fcO L L d = ((ffO L d).length : Int) := by
  rw [fcO_yes h1 h1 h3, kp_self, kp_self]
  have hw := ffO_valid (L := L) (d := d) (by rw [h1, h3]; rfl)
  have e : fcN (ffO L d) (L.length : Int) (ffO L d).length = (ffO L d).length := by
    refine fcN_eq (Nat.le_refl _) (fun k hk => ?_) (fun k h4 h5 => by omega)
    rcases (by omega : k < (ffO L d).length - 1 ∨ k = (ffO L d).length - 1) with g | g
    · have := ffO_asc (L := L) (d := d) g (by omega)
      omega
    · rw [g]; omega
  rw [e]
end Go.Proofs.Ytlkfpcajpdohiaa
