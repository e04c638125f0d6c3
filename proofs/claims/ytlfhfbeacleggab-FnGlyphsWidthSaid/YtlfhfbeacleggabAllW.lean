/- Whether all numbers of a list lie between two others. -/
import Derived.Test.YtlfhfbeacleggabGlue
import Derived.Test.YtlfhfbeacleggabInts
namespace Go.Proofs.Ytlfhfbeacleggab
open Go.ChangeShapes Go.WideShapes Go.ChangeAt Go.RowKit
set_option linter.unusedSimpArgs false
set_option linter.unusedVariables false

def aw (l : List Int) (lo hi : Int) : Bool := l.all fun z => inB z lo hi
def AWTo (l : List Int) (lo hi : Int) (p : Nat) : Prop := ∀ j, j < p → inB (ng l j) lo hi = true
theorem AWTo.zero (l : List Int) (lo hi : Int) : AWTo l lo hi 0 := fun j hj => by omega
theorem AWTo.step {l : List Int} {lo hi : Int} {p : Nat} (h : AWTo l lo hi p) (hp : inB (ng l p) lo hi = true) : AWTo l lo hi (p + 1) := fun j hj => by
  rcases (by omega : j < p ∨ j = p) with e | e
  · exact h j e
  · rw [e]; exact hp
theorem aw_iff {l : List Int} {lo hi : Int} : aw l lo hi = true ↔ ∀ j, j < l.length → lo ≤ ng l j ∧ ng l j ≤ hi := by
  simp only [aw, List.all_eq_true]
  constructor
  · intro h j hj
    exact inB_iff.1 (h _ (ng_mem hj))
  · intro h z hz
    obtain ⟨j, hj, e⟩ := List.getElem_of_mem hz
    have := h j hj
    rw [ng_lt hj, e] at this
    exact inB_yes this.1 this.2
theorem aw_all {l : List Int} {lo hi : Int} (h : AWTo l lo hi l.length) : aw l lo hi = true := aw_iff.2 fun j hj => inB_iff.1 (h j hj)
theorem aw_bad {l : List Int} {lo hi : Int} {j : Nat} (hj : j < l.length) (h : inB (ng l j) lo hi = false) : aw l lo hi = false := by
  rw [Bool.eq_false_iff]
  intro h1
  have := aw_iff.1 h1 j hj
  rw [inB_yes this.1 this.2] at h
  cases h

theorem allWithin_i (w : World) (A : Option Addr) (n c : Nat) (l : List Int) (lo hi : Int) (ha : IL w A n l) (hn : n ≤ 4611686018427387904) :
    Calls Try.prog 32 #[.slice A n c, .int .i64 lo, .int .i64 hi] w fun e w' => e = .returned (.bool (aw l lo hi)) ∧ w = w' := by
  obtain rfl : n = l.length := ha.1
  go_enter Try.func32, Try.ntmps32
  go_wp2
  go_loop [11] (fun i => ∃ p : Nat, p ≤ l.length ∧ i = .int .i64 p ∧ AWTo l lo hi p) (fun i => l.length - (intOf i).toNat)
  case atStart => exact ⟨0, by omega, rfl, AWTo.zero _ _ _⟩
  case round =>
    obtain ⟨p, hp, rfl, hw⟩ := hrel
    have HW := hide hw
    clear hw
    by_cases hlt : p < l.length
    · obtain ⟨b, o, rfl, _, hc⟩ := ha.at_ hlt
      cases q : inB (ng l p) lo hi
      · have E := hide (aw_bad hlt q)
        go_wp2_with (go_at_call 33; refine (within_any _ _ _ _).mono ?_; rintro e w' ⟨rfl, rfl⟩)
        go_ret
        exact ⟨bool_ret E.out.symm, rfl⟩
      · have M := hide (HW.out.step q)
        go_wp2_with (go_at_call 33; refine (within_any _ _ _ _).mono ?_; rintro e w' ⟨rfl, rfl⟩)
        go_round
        case rel => exact ⟨p + 1, by omega, by go_num, M.out⟩
        case measure => simp [intOf]; omega
    · have E := hide (aw_all (by rw [show l.length = p from by omega]; exact HW.out))
      go_wp2
      go_ret
      exact ⟨bool_ret E.out.symm, rfl⟩

/-- The functions of the model that go over a list and then look at its length. -/
def okLen (l : List Int) (a b lo hi : Int) : Bool := inB l.length a b && aw l lo hi
theorem okLen_bad {l : List Int} {a b lo hi : Int} {j : Nat} (hj : j < l.length) (h : inB (ng l j) lo hi = false) : okLen l a b lo hi = false := by rw [okLen, aw_bad hj h, Bool.and_false]
theorem okLen_all {l : List Int} {a b lo hi : Int} (h : AWTo l lo hi l.length) : okLen l a b lo hi = inB l.length a b := by rw [okLen, aw_all h, Bool.and_true]
theorem inB_len {n : Nat} {b : Int} : inB n 0 b = decide ((n : Int) ≤ b) := by simp [inB]
theorem okLen_iff {l : List Int} {a b lo hi : Int} : okLen l a b lo hi = true ↔ (a ≤ l.length ∧ l.length ≤ b) ∧ ∀ j, j < l.length → lo ≤ ng l j ∧ ng l j ≤ hi := by
  simp only [okLen, Bool.and_eq_true, inB_iff, aw_iff]


end Go.Proofs.Ytlfhfbeacleggab
