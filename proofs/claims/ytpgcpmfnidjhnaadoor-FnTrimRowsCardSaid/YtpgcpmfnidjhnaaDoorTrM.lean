/- Rows without spaces at their ends: pure maths. -/
import Derived.Test.YtpgcpmfnidjhnaaDoorSLists
import Derived.Test.YtpgcpmfnidjhnaaDoorText
namespace Go.Proofs.YtpgcpmfnidjhnaaDoor
open Go.ChangeShapes Go.WideShapes Go.ChangeAt Go.RowKit
set_option linter.unusedVariables false
open Classical

/-- Where the spaces at the end begin, seen from n on. -/
def tn (s : ByteArray) : Nat → Nat
  | 0 => 0
  | n + 1 => if (s.data.toList.getD n 0).toNat = 32 then tn s n else n + 1
theorem tn_le (s : ByteArray) (n : Nat) : tn s n ≤ n := by
  induction n with
  | zero => simp [tn]
  | succ n ih => simp only [tn]; split <;> omega
def tr (s : ByteArray) : ByteArray := s.extract 0 (tn s s.size)
theorem byte_get {s : ByteArray} {k : Nat} (h : k < s.size) : s.data.toList.getD k 0 = s[k] := by
  have h' : k < s.data.toList.length := by simpa using h
  rw [List.getD_eq_getElem?_getD, List.getElem?_eq_getElem h']; rfl
theorem tn_sp {s : ByteArray} {n : Nat} (h : n < s.size) (hs : (s[n].toNat : Int) = 32) : tn s (n + 1) = tn s n := by
  simp only [tn]; rw [byte_get h, if_pos (by omega)]
theorem tn_no {s : ByteArray} {n : Nat} (h : n < s.size) (hs : (s[n].toNat : Int) ≠ 32) : tn s (n + 1) = n + 1 := by
  simp only [tn]; rw [byte_get h, if_neg (by omega)]
theorem tr_size (s : ByteArray) : (tr s).size = tn s s.size := by
  have := tn_le s s.size
  simp [tr]; omega
/-- The rows trimmed, and how many of the first k count. -/
def used (l : List ByteArray) : Nat → Nat
  | 0 => 0
  | k + 1 => if tr (sg l k) = ByteArray.empty then used l k else k + 1
theorem used_le (l : List ByteArray) (k : Nat) : used l k ≤ k := by
  induction k with
  | zero => simp [used]
  | succ k ih => simp only [used]; split <;> omega
theorem used_no {l : List ByteArray} {k : Nat} (h : tr (sg l k) = ByteArray.empty) : used l (k + 1) = used l k := by simp only [used]; rw [if_pos h]
theorem used_yes {l : List ByteArray} {k : Nat} (h : tr (sg l k) ≠ ByteArray.empty) : used l (k + 1) = k + 1 := by simp only [used]; rw [if_neg h]
def RTo (l : List ByteArray) (k : Nat) : Prop := ∀ j, j < k → okX (sg l j) = true
theorem RTo.zero (l : List ByteArray) : RTo l 0 := fun j h => by omega
theorem RTo.step {l : List ByteArray} {k : Nat} (h : RTo l k) (hk : okX (sg l k) = true) : RTo l (k + 1) := fun j hj => by
  rcases (by omega : j < k ∨ j = k) with e | e
  · exact h j e
  · rw [e]; exact hk
noncomputable def trR (l : List ByteArray) : List ByteArray := if l.length ≤ 60 ∧ RTo l l.length then (l.map tr).take (used l l.length) else []
theorem trR_long {l : List ByteArray} (h : 60 < l.length) : trR l = [] := by rw [trR, if_neg (by omega)]
theorem trR_bad {l : List ByteArray} {k : Nat} (hk : k < l.length) (h : okX (sg l k) = false) : trR l = [] := by
  rw [trR, if_neg]
  rintro ⟨_, a⟩
  rw [a k hk] at h
  cases h
theorem trR_yes {l : List ByteArray} (h : l.length ≤ 60) (a : RTo l l.length) : trR l = (l.map tr).take (used l l.length) := by rw [trR, if_pos ⟨h, a⟩]
theorem map_next {l : List ByteArray} {k : Nat} {z : ByteArray} (h : k < l.length) (hz : tr (sg l k) = z) : (l.map tr).take k ++ [z] = (l.map tr).take (k + 1) := by
  refine stake_next (by simpa using h) ?_
  rw [← hz, sg_lt (by simpa using h), sg_lt h]; simp
theorem mtake_len {l : List ByteArray} {k : Nat} (h : k ≤ l.length) : ((l.map tr).take k).length = k := by simp; omega
theorem sg_tr {l : List ByteArray} {k : Nat} (h : k < l.length) : sg (l.map tr) k = tr (sg l k) := by rw [sg_lt (by simpa using h), sg_lt h]; simp
theorem sg_take {l : List ByteArray} {k n : Nat} (h : k < n) : sg (l.take n) k = sg l k := by simp [sg, List.getD, List.getElem?_take, h]
/-- The model's second loop: from the end on, rows that are empty go. -/
theorem used_stop {l : List ByteArray} {k : Nat} (h : k = 0 ∨ tr (sg l (k - 1)) ≠ ByteArray.empty) : used l k = k := by
  rcases h with rfl | h
  · rfl
  · cases k with
    | zero => rfl
    | succ k => exact used_yes h
theorem OS.take {w : World} {e : TypeId} {B c k : Nat} {A : Option Addr} {l : List ByteArray} (h : OS w e B A c l) (hk : k ≤ l.length) (h0 : 0 < l.length) : OS w e B A c (l.take k) := by
  rcases h.2 with ⟨_, h1⟩ | ⟨g, cap, cur, h1, h2, h3, h4, h5, h6, h7⟩
  · omega
  · injection h1 with h1 _ h8
    subst h1
    subst h8
    have hl : (l.take k).length = k := stake_len hk
    unfold OS
    rw [hl]
    refine ⟨by simp; omega, .inr ⟨g, c, cur, rfl, h2, h3, by omega, h5, h6, ?_⟩⟩
    rw [List.map_take, ← h7, List.take_take]
    congr 1
    omega
theorem OS_cap {w : World} {e : TypeId} {B c : Nat} {A : Option Addr} {l : List ByteArray} (h : OS w e B A c l) : l.length ≤ c := by
  rcases Nat.eq_zero_or_pos l.length with h0 | h0
  · omega
  · obtain ⟨_, _, _, _, h1, _⟩ := h.form h0
    exact h1
end Go.Proofs.YtpgcpmfnidjhnaaDoor
