/- Contracts of the functions on shapes. -/
import Derived.Test.YtmncdpiojhgcdaaSb
import Derived.Test.YtmncdpiojhgcdaaSa
import Derived.Test.YtmncdpiojhgcdaaAllW
namespace Go.Proofs.Ytmncdpiojhgcdaa
open Go.ChangeShapes Go.WideShapes Go.ChangeAt Go.RowKit
set_option linter.unusedVariables false

theorem validWidth_i (z : Int) (w : World) :
    Calls Try.prog 91 #[.int .i64 z] w fun e w' => e = .returned (.bool (inB z 1 10000)) ∧ w = w' := by
  go_enter Try.func91, Try.ntmps91
  go_wp2_with (first | (go_at_call 113; refine (within_any _ _ _ _).mono ?_; rintro e w' ⟨rfl, rfl⟩) | (go_at_call 62; refine (inRange_any _ _ _ _).mono ?_; rintro e w' ⟨rfl, rfl⟩))
  go_ret
  exact ⟨rfl, rfl⟩
theorem validWidth_s (z : Int) (w : World) :
    Calls Try.prog 61 #[.int .i64 z] w fun e w' => e = .returned (.bool (inB z 1 10000)) ∧ w = w' := by
  go_enter Try.func61, Try.ntmps61
  go_wp2_with (first | (go_at_call 113; refine (within_any _ _ _ _).mono ?_; rintro e w' ⟨rfl, rfl⟩) | (go_at_call 62; refine (inRange_any _ _ _ _).mono ?_; rintro e w' ⟨rfl, rfl⟩))
  go_ret
  exact ⟨rfl, rfl⟩

/-- Whether a list of widths is a shape. -/
def okShape (l : List Int) : Bool := inB l.length 1 12 && l.all fun z => inB z 1 10000
theorem okShape_iff {l : List Int} : okShape l = true ↔ (1 ≤ l.length ∧ l.length ≤ 12) ∧ ∀ j, j < l.length → 1 ≤ ng l j ∧ ng l j ≤ 10000 := by
  simp only [okShape, Bool.and_eq_true, inB_iff, List.all_eq_true]
  constructor
  · rintro ⟨h, k⟩
    exact ⟨by omega, fun j hj => k _ (ng_mem hj)⟩
  · rintro ⟨h, k⟩
    refine ⟨by omega, fun z hz => ?_⟩
    obtain ⟨j, hj, e⟩ := List.getElem_of_mem hz
    have := k j hj
    rwa [ng_lt hj, e] at this
theorem okShape_len {l : List Int} (h : inB l.length 1 12 = false) : okShape l = false := by simp [okShape, h]
theorem okShape_bad {l : List Int} {j : Nat} (hj : j < l.length) (h : inB (ng l j) 1 10000 = false) : okShape l = false := by
  rw [Bool.eq_false_iff]; intro h1
  have := (okShape_iff.1 h1).2 j hj
  rw [inB_yes this.1 this.2] at h; cases h
def Wid (l : List Int) (p : Nat) : Prop := ∀ j, j < p → inB (ng l j) 1 10000 = true
theorem Wid.zero (l : List Int) : Wid l 0 := fun j hj => by omega
theorem Wid.step {l : List Int} {p : Nat} (h : Wid l p) (hp : inB (ng l p) 1 10000 = true) : Wid l (p + 1) := fun j hj => by
  rcases (by omega : j < p ∨ j = p) with e | e
  · exact h j e
  · rw [e]; exact hp
theorem okShape_all {l : List Int} (h : Wid l l.length) : okShape l = inB l.length 1 12 := by
  have : (l.all fun z => inB z 1 10000) = true := by
    simp only [List.all_eq_true]
    intro z hz
    obtain ⟨j, hj, e⟩ := List.getElem_of_mem hz
    have := h j hj
    rwa [ng_lt hj, e] at this
  simp [okShape, this]

theorem validShape_i (w : World) (A : Option Addr) (n c : Nat) (l : List Int) (ha : IL w A n l) (hn : n ≤ 4611686018427387904) :
    Calls Try.prog 87 #[.slice A n c] w fun e w' => e = .returned (.bool (okShape l)) ∧ w = w' := by
  obtain rfl : n = l.length := ha.1
  cases q : inB l.length 1 12
  · have E := hide (okShape_len q)
    go_enter Try.func87, Try.ntmps87
    go_wp2_with (go_at_call 113; refine (within_any _ _ _ _).mono ?_; rintro e w' ⟨rfl, rfl⟩)
    go_ret
    exact ⟨bool_ret E.out.symm, rfl⟩
  · have E : Hid (okShape l = aw l 1 10000) := hide (by rw [okShape, q, Bool.true_and]; rfl)
    go_enter Try.func87, Try.ntmps87
    go_wp2_with (first | (go_at_call 113; refine (within_any _ _ _ _).mono ?_; rintro e w' ⟨rfl, rfl⟩) | (go_at_call 133; refine (allWithin_i _ _ _ _ _ _ _ ha hn).mono ?_; rintro e w' ⟨rfl, rfl⟩))
    go_ret
    exact ⟨bool_ret E.out.symm, rfl⟩

theorem validShape_s (w : World) (A : Option Addr) (n c : Nat) (l : List Int) (ha : IL w A n l) (hn : n ≤ 4611686018427387904) :
    Calls Try.prog 85 #[.slice A n c] w fun e w' => e = .returned (.bool (okShape l)) ∧ w = w' := by
  obtain rfl : n = l.length := ha.1
  go_enter Try.func85, Try.ntmps85
  go_wp2
  go_loop [3] (fun i => ∃ p : Nat, p ≤ l.length ∧ i = .int .i64 p ∧ Wid l p) (fun i => l.length - (intOf i).toNat)
  case atStart => exact ⟨0, by omega, rfl, Wid.zero _⟩
  case round =>
    obtain ⟨p, hp, rfl, hw⟩ := hrel
    have HW := hide hw
    clear hw
    by_cases hlt : p < l.length
    · obtain ⟨b, o, rfl, _, hc⟩ := ha.at_ hlt
      cases q : inB (ng l p) 1 10000
      · have E := hide (okShape_bad hlt q)
        go_wp2_with (go_at_call 61; refine (validWidth_s _ _).mono ?_; rintro e w' ⟨rfl, rfl⟩)
        go_ret
        exact ⟨bool_ret E.out.symm, rfl⟩
      · have M := hide (HW.out.step q)
        go_wp2_with (go_at_call 61; refine (validWidth_s _ _).mono ?_; rintro e w' ⟨rfl, rfl⟩)
        go_round
        case rel => exact ⟨p + 1, by omega, by go_num, M.out⟩
        case measure => simp [intOf]; omega
    · have E := hide (okShape_all (by rw [show l.length = p from by omega]; exact HW.out))
      go_wp2_with (go_at_call 62; refine (inRange_any _ _ _ _).mono ?_; rintro e w' ⟨rfl, rfl⟩)
      go_ret
      exact ⟨bool_ret E.out.symm, rfl⟩

/-- What WidthOfLine returns. -/
def wol (l : List Int) (n : Int) : Int := if okShape l && decide (0 ≤ n) then ng l (min n.toNat (l.length - 1)) else 0
theorem wol_no {l : List Int} {n : Int} (h : okShape l = false) : wol l n = 0 := by simp [wol, h]
theorem wol_neg {l : List Int} {n : Int} (h : n < 0) : wol l n = 0 := by simp [wol, show ¬ 0 ≤ n from by omega]
theorem wol_yes {l : List Int} {n : Nat} (h : okShape l = true) : wol l n = ng l (min n (l.length - 1)) := by simp [wol, h]

theorem widthOf_s (w : World) (A : Option Addr) (m c : Nat) (l : List Int) (n : Nat) (ha : IL w A m l) (hm : 1 ≤ m ∧ m ≤ 1000000) :
    Calls Try.prog 86 #[.slice A m c, .int .i64 n] w fun e w' => e = .returned (.int .i64 (ng l (min n (l.length - 1)))) ∧ w = w' := by
  obtain rfl : m = l.length := ha.1
  obtain ⟨hm0, hm1⟩ := hm
  rcases (by omega : n ≤ l.length - 1 ∨ l.length - 1 < n) with h | h
  · obtain ⟨b, o, rfl, _, hc⟩ := ha.at_ (i := n) (by omega)
    rw [show min n (l.length - 1) = n from by omega]
    have h' : (n : Int) ≤ (l.length : Int) - 1 := by omega
    have h2 : n < l.length := by omega
    go_enter Try.func86, Try.ntmps86
    go_wp2
    go_ret
    exact ⟨rfl, rfl⟩
  · obtain ⟨b, o, rfl, _, hc⟩ := ha.at_ (i := l.length - 1) (by omega)
    rw [show min n (l.length - 1) = l.length - 1 from by omega]
    obtain ⟨k, hk⟩ : ∃ k, k = l.length - 1 := ⟨_, rfl⟩
    rw [← hk] at hc ⊢
    have h1 : l.length = k + 1 := by omega
    rw [h1]
    have h' : ¬ (n : Int) ≤ (k : Int) := by omega
    have hk2 : k ≤ 1000000 := by omega
    clear h1 hk ha h hm0 hm1
    go_enter Try.func86, Try.ntmps86
    go_wp2
    go_ret
    exact ⟨rfl, rfl⟩
end Go.Proofs.Ytmncdpiojhgcdaa
