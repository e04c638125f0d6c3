/- Drawn texts: words and patterns. -/
import Derived.Test.YtpgcpmfnidjhnaaDoorDrawI
import Derived.Test.YtpgcpmfnidjhnaaDoorStrs
import Derived.Deep.RegionWith
namespace Go.Proofs.YtpgcpmfnidjhnaaDoor
open Go.ChangeShapes Go.WideShapes Go.ChangeAt Go.RowKit
set_option linter.unusedVariables false

/-- All values are texts of at most n bytes. -/
def strsLe (n : Nat) : List Value → Bool
  | [] => true
  | .string z :: t => decide (z.size ≤ n) && strsLe n t
  | _ :: _ => false
theorem strs_le {n : Nat} {l : List Value} (h : strsLe n l = true) : ∀ v ∈ l, ∃ z, v = .string z ∧ z.size ≤ n := by
  induction l with
  | nil => intro v hv; cases hv
  | cons a t ih =>
    cases a <;> simp only [strsLe, Bool.and_eq_true, decide_eq_true_eq, Bool.false_eq_true] at h
    intro v hv
    rcases List.mem_cons.1 hv with rfl | hv
    · exact ⟨_, rfl, h.1⟩
    · exact ih h.2 v hv


theorem of_any (w : World) (B g N b n : Nat) {cs : Array Value} (P : ByteArray → Prop) {t : TypeId} (h : RD w B g N) (hN : N ≤ 1000000000000) (hb : w.heap[b]? = some (.cells cs t (0, 0))) (hne : b ≠ g) (hn : n = cs.size) (hL : 1 ≤ n ∧ n ≤ 65536)
    (hP : ∀ v ∈ cs.toList, ∃ z, v = .string z ∧ P z) :
    Calls Tryd.prog 21 #[.pointer (some ⟨g, 0, none⟩), .slice (some ⟨b, 0, none⟩) n n] w fun e w' => ∃ r : ByteArray, P r ∧ e = .returned (.string r) ∧ RD w' B g (N + 1) ∧ w.grownBy w' (some g) := by
  obtain ⟨hL0, hL1⟩ := hL
  have hlt : b < w.heap.size := by
    rcases Nat.lt_or_ge b w.heap.size with h | h
    · exact h
    · rw [Array.getElem?_eq_none h] at hb; cases hb
  go_enter Tryd.func21, Tryd.ntmps21
  go_wp2_with fail
  refine (pick_any _ B g _ _ h hN (by omega) (by omega)).mono ?_
  rintro e w' ⟨r, hr0, hr1, rfl, hrd, hon⟩
  obtain ⟨z, hz, hp⟩ := hP cs[r.toNat] (by simp)
  have hcell : w'.cell? ⟨b, r.toNat, none⟩ = some (.string z) := by
    rw [on_cell hon b r.toNat hlt hne, cell_of_row w b r.toNat cs t (0, 0) hb, ← hz]
    simp
  clear hz
  go_wp2
  go_ret
  exact ⟨z, hp, rfl, hrd, hon⟩






end Go.Proofs.YtpgcpmfnidjhnaaDoor
