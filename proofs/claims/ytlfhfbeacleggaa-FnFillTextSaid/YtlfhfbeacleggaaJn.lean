/- The closed facts on how this program was made, which every statement of the seat asks, proved once: the words of its head are spelt out first (String.toList of a long text is slow in the kernel). -/
import Derived.Test.YtlfhfbeacleggaaFrame
namespace Go.Proofs.Ytlfhfbeacleggaa
open Go.ChangeShapes Go.WideShapes Go.ChangeAt Go.RowKit
set_option linter.unusedVariables false

set_option maxRecDepth 100000 in
theorem words_head : ∃ l : List Char, Try.pinned.checked.prog.initOrder.toList = l ∧ (behindMainWord (wordsSigns l)).head? = some "cut".toList := by
  refine ⟨_, String.toList_ofList, ?_⟩
  kernel_rfl
theorem words_cut : ∃ rest, behindMainWord (wordsSigns Try.pinned.checked.prog.initOrder.toList) = "cut".toList :: rest := by
  obtain ⟨l, h, k⟩ := words_head
  rw [h]
  cases q : behindMainWord (wordsSigns l) with
  | nil => rw [q] at k; cases k
  | cons a b => rw [q] at k; injection k with k; rw [k]; exact ⟨b, rfl⟩
theorem strip_cut (rest : List (List Char)) : stripLifts liftWords ("cut".toList :: rest) = ([], "cut".toList :: rest) := by kernel_rfl
theorem may_gen (P : Program) (rest : List (List Char)) (h : behindMainWord (wordsSigns P.initOrder.toList) = "cut".toList :: rest) (a : P.laysLater = false) (b : P.bearsReflect = false) (c : P.doorFits [] = true) : P.mayEnter = true := by
  unfold Program.mayEnter
  rw [h]
  simp only [strip_cut, a, b, c]
  kernel_rfl
theorem lift_gen (P : Program) (rest : List (List Char)) (h : behindMainWord (wordsSigns P.initOrder.toList) = "cut".toList :: rest) : P.liftsFinal = false := by
  unfold Program.liftsFinal Program.headLifts
  rw [h]
  simp only [strip_cut]
  kernel_rfl
theorem make_gen (P : Program) (rest : List (List Char)) (h : behindMainWord (wordsSigns P.initOrder.toList) = "cut".toList :: rest) : P.make = some .cut := by
  unfold Program.make
  rw [h]
  kernel_rfl
theorem may_enter : Try.pinned.checked.prog.mayEnter = true := by
  obtain ⟨rest, h⟩ := words_cut
  exact may_gen _ rest h (by kernel_rfl) (by kernel_rfl) (by kernel_rfl)
theorem lifts_final : Try.pinned.checked.prog.liftsFinal = false := by
  obtain ⟨rest, h⟩ := words_cut
  exact lift_gen _ rest h
theorem make_cut : Try.pinned.checked.prog.make = some .cut := by
  obtain ⟨rest, h⟩ := words_cut
  exact make_gen _ rest h
end Go.Proofs.Ytlfhfbeacleggaa
