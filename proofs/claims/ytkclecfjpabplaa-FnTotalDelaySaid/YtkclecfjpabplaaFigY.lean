/- The exact law on PlaceFigures holds at every input: it answers as its model does, writes into no argument, and what it returns is its own. No condition. -/
import Derived.Test.YtkclecfjpabplaaFigX
import Derived.Test.YtkclecfjpabplaaFigP
namespace Go.Proofs.Ytkclecfjpabplaa
open Go.ChangeShapes Go.WideShapes Go.ChangeAt Go.RowKit
set_option linter.unusedVariables false


theorem TO_own_lt {w : World} {e : TypeId} {B : Nat} {A : Option Addr} {c : Nat} {L : List Du} (h : TO w e B A c L) : ∀ k, (Value.slice A L.length c).ownBlock = some k → B ≤ k ∧ k < w.heap.size := fun k hk => World.ownsRow.lt h k hk
theorem TO_capf {w : World} {e : TypeId} {B : Nat} {A : Option Addr} {c : Nat} {L : List Du} (h : TO w e B A c L) : L.length ≤ c := by
  rcases Nat.eq_zero_or_pos L.length with h0 | h0
  · omega
  · obtain ⟨_, _, _, _, h1, _⟩ := h.form h0
    exact h1
theorem bl_markX {w u v : World} {B j : Nat} {x : Option Nat} (h : ∀ k, x = some k → B ≤ k) (hb : Below w.heap.size w u) (hB : w.heap.size ≤ B) (hg : (u.drewN j).grownBy v x) : Below w.heap.size w v :=
  (bl_drewN hb j).grown hg hb.size (fun k hk => Nat.le_trans hB (h k hk))
theorem plV_len {F : List Du} {sp : List Int} : ((plV F sp).getD []).length ≤ 10 := by
  cases q : (fgok F && okLen sp 0 12 0 10000)
  · rw [plV_no q]; simp
  · rw [plV_yes q]
    have h1 := (fgok_iff.1 (Bool.and_eq_true_iff.1 q).1).1
    cases h : pl F 0 sp with
    | none => simp
    | some l => have := pl_len h; simp; omega
end Go.Proofs.Ytkclecfjpabplaa
