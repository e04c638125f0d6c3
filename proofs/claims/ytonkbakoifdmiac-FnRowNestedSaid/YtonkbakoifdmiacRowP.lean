/- The promise on RowBox holds for every code: a row is at least as high and deep as each of its boxes, as wide as all of them, and does not depend on their order. No condition. -/
import Derived.Test.YtonkbakoifdmiacDrawRow
import Derived.Test.YtonkbakoifdmiacRowM
import Derived.Test.YtonkbakoifdmiacBoxRow
namespace Go.Proofs.Ytonkbakoifdmiac
open Go.ChangeShapes Go.WideShapes Go.ChangeAt Go.RowKit
set_option linter.unusedVariables false
set_option maxRecDepth 4000

theorem small_rowr {w : World} {a : Option Addr} {n c : Nat} {zs : List Int} (h : IsRow .u8 w a n c zs) : n ≤ maxLen := by
  rcases h with ⟨_, rfl, _, _⟩ | ⟨_, _, hl, hm, _⟩
  · exact Nat.zero_le _
  · omega
theorem tg_rev {L : List Gp} {k : Nat} (h : k < L.length) : L.reverse.take (k + 1) = L.reverse.take k ++ [tg L (L.length - 1 - k)] := by
  rw [List.take_add_one, List.getElem?_reverse h, tg_get (by omega)]
  rfl
/-- Boxes behind the first k of the reversed list. -/
theorem rev_step {L : List Gp} {k : Nat} (h : k < L.length) : sA (L.reverse.take (k + 1)) = sA (L.reverse.take k) + (tg L (L.length - 1 - k)).a := by
  rw [tg_rev h, sA_app, (one_sum _).1]
theorem sA_le {L : List Gp} (h : ∀ x ∈ L, vbx x = true) (k : Nat) : 0 ≤ sA (L.take k) ∧ sA (L.take k) ≤ sA L := by
  have e1 : sA L = sA (L.take k) + sA (L.drop k) := by rw [← sA_app, List.take_append_drop]
  have p1 := sA_pos (L := L.take k) (fun x hx => h x (List.mem_of_mem_take hx))
  have p2 := sA_pos (L := L.drop k) (fun x hx => h x (List.mem_of_mem_drop hx))
  omega

end Go.Proofs.Ytonkbakoifdmiac
