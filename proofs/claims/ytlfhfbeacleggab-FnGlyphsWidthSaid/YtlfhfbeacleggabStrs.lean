/- What the laws' helpers on slices of strings answer. -/
import Derived.Test.YtlfhfbeacleggabInts
import Derived.Test.YtlfhfbeacleggabSLists
import Derived.Deep.RegionWith
import Derived.Lib.Strings
namespace Go.Proofs.Ytlfhfbeacleggab
open Go.ChangeShapes Go.WideShapes Go.ChangeAt Go.RowKit
set_option linter.unusedSimpArgs false
set_option linter.unusedVariables false

theorem str_info : (Try.prog.info? 9).map (fun i => (i.zero, i.size, i.bytes)) = some (some (.string ByteArray.empty), 1, 16) := by kernel_rfl

theorem teq_no {x y : ByteArray} (h : x ≠ y) : (x.toList == y.toList) = false := by
  rw [beq_eq_false_iff_ne]
  intro e
  rw [Lib.toList_data, Lib.toList_data] at e
  exact h (ByteArray.ext (Array.toList_inj.1 e))
theorem teq_yes (x : ByteArray) : (x.toList == x.toList) = true := by simp


/-- The digits that markText writes, and its text. -/
def mtA : Nat → Nat → List UInt8 → List UInt8
  | 0, _, acc => acc
  | f + 1, k, acc => if k = 0 then acc else mtA f (k / 10) (UInt8.ofNat (48 + k % 10) :: acc)
def mt (k : Nat) : ByteArray := ⟨(109 :: mtA k k []).toArray⟩
theorem mtA_zero (f : Nat) (acc : List UInt8) : mtA f 0 acc = acc := by cases f <;> simp [mtA]
theorem mtA_step {f k : Nat} {acc : List UInt8} (h : 0 < k) : mtA (f + 1) k acc = mtA f (k / 10) (UInt8.ofNat (48 + k % 10) :: acc) := by simp [mtA, show ¬ k = 0 from by omega]

/-- A text of one byte. -/
def one (z : Int) : ByteArray := ⟨#[UInt8.ofNat z.toNat]⟩
theorem one_size (z : Int) : (one z).size = 1 := rfl
theorem one_cat (z : Int) (a : ByteArray) : (one z ++ a).data.toList = (UInt8.ofNat z.toNat) :: a.data.toList := by simp [one]
/-- string([]byte{z}), the slice just made. -/
theorem conv_new (u : World) (z : Int) : (convert 22 9 (.slice (some ⟨u.heap.size, 0, none⟩) 1 1)).run Try.prog (u.alloc (.cells #[.int .u8 z] 5)) = .ok (.string (one z)) (u.alloc (.cells #[.int .u8 z] 5)) := by
  rw [run_convert_bytes_string _ 22 9 5 _ _ _ Try.underlying22 Try.underlying5 Try.underlying9, run_bytesToString _ _ 1 1 [z]]
  · rfl
  · simp [loadCells, loadCellsFrom, Addr.add, Result.andThen]


/-- The texts that markStringS writes. -/
def mts (z n : Nat) : List ByteArray := (List.range n).map fun i => mt (z + i)
theorem mts_len (z n : Nat) : (mts z n).length = n := by simp [mts]
theorem mts_get {z n k : Nat} (h : k < n) : sg (mts z n) k = mt (z + k) := by simp [sg, mts, List.getD, h]
theorem gr_below {a w w1 : World} {r : Option Nat} (h : Below w.heap.size w w1) (h0 : a.grownBy w r) : a.grownBy w1 r :=
  ⟨h.os.trans h0.os, h.tape.trans h0.tape, h.output.trans h0.output, Nat.le_trans h0.size h.size, fun i hi hne => (h.block i (Nat.lt_of_lt_of_le hi h0.size)).trans (h0.block i hi hne)⟩


end Go.Proofs.Ytlfhfbeacleggab
