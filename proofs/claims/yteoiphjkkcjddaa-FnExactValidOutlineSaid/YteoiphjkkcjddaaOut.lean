/- Valid outlines, in the program and its model; the exact law holds at every input. No condition. -/
import Derived.Test.YteoiphjkkcjddaaAllW
namespace Go.Proofs.Yteoiphjkkcjddaa
open Go.ChangeShapes Go.WideShapes Go.ChangeAt Go.RowKit
set_option linter.unusedVariables false

def mx4 (a : Int) : Int := if a + 1 ≤ 4 then a + 1 else 4
def abv (l : List Int) (j : Nat) : Int := if j = 0 then 0 else ng l (j - 1)
/-- The levels of an outline. -/
def okO (l : List Int) : Bool := decide (l.length ≤ 20) && (List.range l.length).all fun j => inB (ng l j) 1 (mx4 (abv l j))
def OTo (l : List Int) (p : Nat) : Prop := ∀ j, j < p → inB (ng l j) 1 (mx4 (abv l j)) = true
theorem OTo.zero (l : List Int) : OTo l 0 := fun j hj => by omega
theorem OTo.step {l : List Int} {p : Nat} (h : OTo l p) (hp : inB (ng l p) 1 (mx4 (abv l p)) = true) : OTo l (p + 1) := fun j hj => by
  rcases (by omega : j < p ∨ j = p) with e | rfl
  · exact h j e
  · exact hp
theorem okO_long {l : List Int} (h : 20 < l.length) : okO l = false := by simp [okO]; intro k; omega
theorem okO_all {l : List Int} (h : l.length ≤ 20) (ht : OTo l l.length) : okO l = true := by
  simp only [okO, Bool.and_eq_true, decide_eq_true_eq, List.all_eq_true, List.mem_range]
  exact ⟨h, ht⟩
theorem okO_bad {l : List Int} {p : Nat} (hp : p < l.length) (h : inB (ng l p) 1 (mx4 (abv l p)) = false) : okO l = false := by
  rw [Bool.eq_false_iff]
  intro k
  simp only [okO, Bool.and_eq_true, decide_eq_true_eq, List.all_eq_true, List.mem_range] at k
  rw [k.2 p hp] at h
  cases h
theorem okO_iff {l : List Int} : okO l = true ↔ l.length ≤ 20 ∧ OTo l l.length := by
  simp only [okO, Bool.and_eq_true, decide_eq_true_eq, List.all_eq_true, List.mem_range]
  exact Iff.rfl
theorem abv_zero (l : List Int) : abv l 0 = 0 := rfl
theorem abv_succ (l : List Int) (p : Nat) : abv l (p + 1) = ng l p := by simp [abv]
theorem mx4_in {l : List Int} {p : Nat} {a : Int} (ha : a = abv l p) (h0 : 0 ≤ a ∧ a ≤ 4) (hq : inB (ng l p) 1 (mx4 (abv l p)) = true) : 0 ≤ ng l p ∧ ng l p ≤ 4 := by
  have h := inB_iff.1 hq
  rw [← ha] at h
  unfold mx4 at h
  split at h <;> omega

theorem ValidOutline_i (w : World) (A : Option Addr) (n c : Nat) (l : List Int) (ha : IL w A n l) (hn : n ≤ 4611686018427387904) :
    Calls Try.prog 30 #[.slice A n c] w fun e w' => e = .returned (.bool (okO l)) ∧ w = w' := by
  obtain rfl : n = l.length := ha.1
  rcases (by omega : 20 < l.length ∨ l.length ≤ 20) with hl | hl
  · have E := hide (okO_long hl)
    go_enter Try.func30, Try.ntmps30
    go_wp2
    go_ret
    exact ⟨bool_ret E.out.symm, rfl⟩
  · go_enter Try.func30, Try.ntmps30
    go_wp2
    go_loop [3, 11] (fun a i => ∃ (p : Nat) (z : Int), p ≤ l.length ∧ a = .int .i64 z ∧ i = .int .i64 p ∧ z = abv l p ∧ (0 ≤ z ∧ z ≤ 4) ∧ OTo l p) (fun _ i => l.length - (intOf i).toNat)
    case atStart => exact ⟨0, 0, by omega, rfl, rfl, rfl, by omega, OTo.zero _⟩
    case round =>
      obtain ⟨p, z, hp, rfl, rfl, hz, ⟨z0, z4⟩, ht⟩ := hrel
      have HT := hide ht
      have HZ := hide hz
      clear ht hz
      by_cases hlt : p < l.length
      · obtain ⟨b, o, rfl, _, hc⟩ := ha.at_ hlt
        cases q : inB (ng l p) 1 (mx4 z)
        · have E := hide (okO_bad hlt (by rw [← HZ.out]; exact q))
          clear HZ
          rcases (by omega : z = 0 ∨ z = 1 ∨ z = 2 ∨ z = 3 ∨ z = 4) with rfl | rfl | rfl | rfl | rfl
          all_goals
            simp only [show mx4 0 = 1 from rfl, show mx4 1 = 2 from rfl, show mx4 2 = 3 from rfl, show mx4 3 = 4 from rfl, show mx4 4 = 4 from rfl] at q
            go_wp2_with (go_at_call 40; refine (within_any _ _ _ _).mono ?_; rintro e w' ⟨rfl, rfl⟩)
            go_ret
            exact ⟨bool_ret E.out.symm, rfl⟩
        · have M := hide (HT.out.step (by rw [← HZ.out]; exact q))
          have I := hide (mx4_in HZ.out ⟨z0, z4⟩ (by rw [← HZ.out]; exact q))
          clear HZ
          rcases (by omega : z = 0 ∨ z = 1 ∨ z = 2 ∨ z = 3 ∨ z = 4) with rfl | rfl | rfl | rfl | rfl
          all_goals
            simp only [show mx4 0 = 1 from rfl, show mx4 1 = 2 from rfl, show mx4 2 = 3 from rfl, show mx4 3 = 4 from rfl, show mx4 4 = 4 from rfl] at q
            go_wp2_with (go_at_call 40; refine (within_any _ _ _ _).mono ?_; rintro e w' ⟨rfl, rfl⟩)
            go_round
            case rel => exact ⟨p + 1, ng l p, by omega, rfl, by go_num, (abv_succ l p).symm, I.out, M.out⟩
            case measure => simp [intOf]; omega
      · have E := hide (okO_all hl (by rw [show l.length = p by omega]; exact HT.out))
        go_wp2
        go_ret
        exact ⟨bool_ret E.out.symm, rfl⟩

theorem validOutline_s (w : World) (A : Option Addr) (n c : Nat) (l : List Int) (ha : IL w A n l) (hn : n ≤ 4611686018427387904) :
    Calls Try.prog 46 #[.slice A n c] w fun e w' => e = .returned (.bool (okO l)) ∧ w = w' := by
  obtain rfl : n = l.length := ha.1
  go_enter Try.func46, Try.ntmps46
  go_wp2
  go_loop [3] (fun i => ∃ p : Nat, p ≤ l.length ∧ i = .int .i64 p ∧ (0 ≤ abv l p ∧ abv l p ≤ 4) ∧ OTo l p) (fun i => l.length - (intOf i).toNat)
  case atStart => exact ⟨0, by omega, rfl, by rw [abv_zero]; omega, OTo.zero _⟩
  case round =>
    obtain ⟨p, hp, rfl, hz, ht⟩ := hrel
    have HT := hide ht
    obtain ⟨z, hzz⟩ : ∃ z, z = abv l p := ⟨_, rfl⟩
    rw [← hzz] at hz
    obtain ⟨z0, z4⟩ := hz
    have HZ := hide hzz
    clear ht hzz
    by_cases hlt : p < l.length
    · rcases Nat.eq_zero_or_pos p with hp0 | hp0
      · have hz0 : z = 0 := by rw [HZ.out, hp0]; rfl
        have h00 : ¬ 0 < p := by omega
        obtain ⟨b, o, rfl, _, hc⟩ := ha.at_ hlt
        cases q : inB (ng l p) 1 (mx4 z)
        · have E := hide (okO_bad hlt (by rw [← HZ.out]; exact q))
          clear HZ hp0
          subst hz0
          simp only [show mx4 0 = 1 from rfl] at q
          go_wp2_with (go_at_call 37; refine (inRange_any _ _ _ _).mono ?_; rintro e w' ⟨rfl, rfl⟩)
          go_ret
          exact ⟨bool_ret E.out.symm, rfl⟩
        · have M := hide (HT.out.step (by rw [← HZ.out]; exact q))
          have I := hide (mx4_in HZ.out ⟨z0, z4⟩ (by rw [← HZ.out]; exact q))
          clear HZ hp0
          subst hz0
          simp only [show mx4 0 = 1 from rfl] at q
          go_wp2_with (go_at_call 37; refine (inRange_any _ _ _ _).mono ?_; rintro e w' ⟨rfl, rfl⟩)
          go_round
          case rel => exact ⟨p + 1, by omega, by go_num, by rw [abv_succ]; exact I.out, M.out⟩
          case measure => simp [intOf]; omega
      · obtain ⟨m, hm⟩ : ∃ m, p = m + 1 := ⟨p - 1, by omega⟩
        have em : (p : Int) - 1 = (m : Int) := by omega
        have hml : m < l.length := by omega
        obtain ⟨b, o, rfl, _, hc⟩ := ha.at_ hlt
        obtain ⟨b', o', he, _, hc'⟩ := ha.at_ hml
        injection he with he
        cases he
        rw [show ng l m = z by rw [HZ.out, hm, abv_succ]] at hc'
        cases q : inB (ng l p) 1 (mx4 z)
        · have E := hide (okO_bad hlt (by rw [← HZ.out]; exact q))
          clear HZ hm
          rcases (by omega : z = 0 ∨ z = 1 ∨ z = 2 ∨ z = 3 ∨ z = 4) with rfl | rfl | rfl | rfl | rfl
          all_goals
            simp only [show mx4 0 = 1 from rfl, show mx4 1 = 2 from rfl, show mx4 2 = 3 from rfl, show mx4 3 = 4 from rfl, show mx4 4 = 4 from rfl] at q
            go_wp2_with (go_at_call 37; refine (inRange_any _ _ _ _).mono ?_; rintro e w' ⟨rfl, rfl⟩)
            go_ret
            exact ⟨bool_ret E.out.symm, rfl⟩
        · have M := hide (HT.out.step (by rw [← HZ.out]; exact q))
          have I := hide (mx4_in HZ.out ⟨z0, z4⟩ (by rw [← HZ.out]; exact q))
          clear HZ hm
          rcases (by omega : z = 0 ∨ z = 1 ∨ z = 2 ∨ z = 3 ∨ z = 4) with rfl | rfl | rfl | rfl | rfl
          all_goals
            simp only [show mx4 0 = 1 from rfl, show mx4 1 = 2 from rfl, show mx4 2 = 3 from rfl, show mx4 3 = 4 from rfl, show mx4 4 = 4 from rfl] at q
            go_wp2_with (go_at_call 37; refine (inRange_any _ _ _ _).mono ?_; rintro e w' ⟨rfl, rfl⟩)
            go_round
            case rel => exact ⟨p + 1, by omega, by go_num, by rw [abv_succ]; exact I.out, M.out⟩
            case measure => simp [intOf]; omega
    · have HO := hide (show OTo l l.length by rw [show l.length = p by omega]; exact HT.out)
      rcases (by omega : 20 < l.length ∨ l.length ≤ 20) with hl | hl
      · have E := hide (okO_long hl)
        go_wp2
        go_ret
        exact ⟨bool_ret (by rw [E.out]; simp; omega), rfl⟩
      · have E := hide (okO_all hl HO.out)
        go_wp2
        go_ret
        exact ⟨bool_ret (by rw [E.out]; simp; omega), rfl⟩
theorem ValidOutline_s (w : World) (A : Option Addr) (n c : Nat) (l : List Int) (ha : IL w A n l) (hn : n ≤ 4611686018427387904) :
    Calls Try.prog 29 #[.slice A n c] w fun e w' => e = .returned (.bool (okO l)) ∧ w = w' := by
  go_enter Try.func29, Try.ntmps29
  go_wp2_with (go_at_call 46; refine (validOutline_s _ _ _ _ _ ha hn).mono ?_; rintro e w' ⟨rfl, rfl⟩)
  go_ret
  exact ⟨rfl, rfl⟩
end Go.Proofs.Yteoiphjkkcjddaa
