/- Paragraphs by their numbers of lines: whether they are valid, and the iterator over those of several lines. -/
import Derived.Test.YtlfhfbeacleggaaFil
import Derived.Test.YtlfhfbeacleggaaRgN
import Derived.Test.YtlfhfbeacleggaaFrame
import Derived.Test.YtlfhfbeacleggaaInts
import Derived.Test.YtlfhfbeacleggaaGlue
import Derived.WalkKit
import Derived.OwnWalkIn
import Derived.TacticsInMore
import Derived.LoopNIn
import Derived.LoopIn
namespace Go.Proofs.Ytlfhfbeacleggaa
open Go.ChangeShapes Go.WideShapes Go.ChangeAt Go.RowKit Go.Shelf
set_option linter.unusedVariables false
attribute [local go_sem] Oper.semAt_some
open Classical

def PosTo (l : List Int) (k : Nat) : Prop := ∀ j, j < k → 1 ≤ ng l j
theorem PosTo.zero (l : List Int) : PosTo l 0 := fun j h => by omega
theorem PosTo.step {l : List Int} {k : Nat} (h : PosTo l k) (hk : 1 ≤ ng l k) : PosTo l (k + 1) := fun j hj => by
  rcases (by omega : j < k ∨ j = k) with e | e
  · exact h j e
  · rw [e]; exact hk
theorem PosTo.ge {l : List Int} : ∀ {k : Nat}, PosTo l k → (k : Int) ≤ pfx l k
  | 0, _ => Int.le_refl _
  | k + 1, h => by
    have a := PosTo.ge (l := l) (k := k) (fun j hj => h j (by omega))
    have b := h k (by omega)
    show _ ≤ pfx l k + ng l k
    omega
theorem PosTo.mono {l : List Int} {k : Nat} : ∀ {m : Nat}, PosTo l m → k ≤ m → pfx l k ≤ pfx l m
  | 0, _, e => by obtain rfl : k = 0 := by omega
                  exact Int.le_refl _
  | m + 1, h, e => by
    rcases (by omega : k = m + 1 ∨ k ≤ m) with e1 | e1
    · rw [e1]; exact Int.le_refl _
    · have a := PosTo.mono (l := l) (m := m) (fun j hj => h j (by omega)) e1
      have b := h m (by omega)
      show _ ≤ pfx l m + ng l m
      omega
/-- Numbers of lines are valid. -/
def OkW (l : List Int) : Prop := PosTo l l.length ∧ pfx l l.length ≤ 40 ∧ 0 < l.length
noncomputable def okW (l : List Int) : Bool := decide (OkW l)
theorem okW_iff {l : List Int} : okW l = true ↔ OkW l := ⟨of_decide_eq_true, decide_eq_true⟩
theorem okW_no {l : List Int} (h : ¬ OkW l) : okW l = false := decide_eq_false h
theorem okW_bad {l : List Int} {k : Nat} (hk : k < l.length) (h : ng l k < 1 ∨ 40 < pfx l k + ng l k) : okW l = false := okW_no fun ⟨a, b, _⟩ => by
  have := a k hk
  have := a.mono (k := k + 1) (by omega)
  have h3 : pfx l (k + 1) = pfx l k + ng l k := rfl
  omega
theorem okW_nil {l : List Int} (h : l.length = 0) : okW l = false := okW_no fun ⟨_, _, c⟩ => by omega
theorem countLines_i (w : World) (A : Option Addr) (n c : Nat) (l : List Int) (ha : IL w A n l) (hn : n ≤ 4611686018427387904) :
    Calls Try.prog 88 #[.slice A n c] w fun e w' => (∃ x : Int, e = .returned (.tuple #[.int .i64 x, .bool (okW l)]) ∧ (okW l = true → x = pfx l l.length)) ∧ w = w' := by
  obtain rfl : n = l.length := ha.1
  go_enter Try.func88, Try.ntmps88
  go_wp2
  go_loop [4, 9] (fun v i => ∃ (p : Nat) (y : Int), p ≤ l.length ∧ v = .int .i64 y ∧ y = pfx l p ∧ i = .int .i64 p ∧ PosTo l p ∧ y ≤ 40 ∧ 0 ≤ y) (fun _ i => l.length - (intOf i).toNat)
  case atStart => exact ⟨0, 0, by omega, rfl, rfl, rfl, PosTo.zero _, by omega, by omega⟩
  case round =>
    obtain ⟨p, y, hp, rfl, hy, rfl, hpo, h40, h00⟩ := hrel
    have HY := hide hy
    have HP := hide hpo
    have hge := hpo.ge
    rw [← hy] at hge
    clear hy hpo
    by_cases hlt : p < l.length
    · obtain ⟨b, o, rfl, _, hc⟩ := ha.at_ hlt
      obtain ⟨z, hz⟩ : ∃ z, z = ng l p := ⟨_, rfl⟩
      rw [← hz] at hc
      have HZ := hide hz
      clear hz
      rcases (by omega : z < 1 ∨ 40 - y < z ∨ 1 ≤ z ∧ z ≤ 40 - y) with h1 | h1 | ⟨h1, h2⟩
      · have E := hide (okW_bad hlt (.inl (by rw [← HZ.out]; exact h1)))
        have q : inB z 1 (40 - y) = false := by simp [inB]; omega
        go_wp2_with (go_at_call 89; refine (within_any _ _ _ _).mono ?_; rintro e w' ⟨rfl, rfl⟩)
        go_ret2
        exact ⟨⟨0, by rw [E.out]; rfl, fun h => by rw [E.out] at h; cases h⟩, rfl⟩
      · have E := hide (okW_bad hlt (.inr (by rw [← HZ.out, ← HY.out]; omega)))
        have q : inB z 1 (40 - y) = false := by simp [inB]; omega
        go_wp2_with (go_at_call 89; refine (within_any _ _ _ _).mono ?_; rintro e w' ⟨rfl, rfl⟩)
        go_ret2
        exact ⟨⟨0, by rw [E.out]; rfl, fun h => by rw [E.out] at h; cases h⟩, rfl⟩
      · have q : inB z 1 (40 - y) = true := by simp [inB]; omega
        have M := hide (HP.out.step (k := p) (by rw [← HZ.out]; exact h1))
        have N := hide (show y + z = pfx l (p + 1) by rw [HY.out, HZ.out]; rfl)
        go_wp2_with (go_at_call 89; refine (within_any _ _ _ _).mono ?_; rintro e w' ⟨rfl, rfl⟩)
        go_round
        case rel => exact ⟨p + 1, y + z, by omega, rfl, N.out, by go_num, M.out, by omega, by omega⟩
        case measure => simp [intOf]; omega
    · have hpl : p = l.length := by omega
      have hy' : y = pfx l l.length := by rw [← hpl]; exact HY.out
      rcases Nat.eq_zero_or_pos l.length with h0 | h0
      · have y0 : y = 0 := by rw [hy', h0]; rfl
        subst y0
        have E := hide (okW_nil h0)
        go_wp2
        go_ret2
        exact ⟨⟨0, by rw [E.out]; rfl, fun h => by rw [E.out] at h; cases h⟩, rfl⟩
      · have E := hide (okW_iff.2 ⟨by rw [← hpl]; exact HP.out, by rw [← hy']; exact h40, h0⟩)
        have y1 : 0 < y := by omega
        have d1 : decide (0 < y) = true := decide_eq_true y1
        have HYL := hide hy'
        clear hy'
        go_wp2
        go_ret2
        exact ⟨⟨y, by rw [E.out]; rfl, fun _ => HYL.out⟩, rfl⟩
theorem validParts_s (w : World) (A : Option Addr) (n c : Nat) (l : List Int) (ha : IL w A n l) (hn : n ≤ 4611686018427387904) :
    Calls Try.prog 87 #[.slice A n c] w fun e w' => e = .returned (.bool (okW l)) ∧ w = w' := by
  obtain rfl : n = l.length := ha.1
  go_enter Try.func87, Try.ntmps87
  go_wp2
  go_loop [3, 4] (fun v i => ∃ (p : Nat) (y : Int), p ≤ l.length ∧ v = .int .i64 y ∧ y = pfx l p ∧ i = .int .i64 p ∧ PosTo l p ∧ y ≤ 40 ∧ 0 ≤ y) (fun _ i => l.length - (intOf i).toNat)
  case atStart => exact ⟨0, 0, by omega, rfl, rfl, rfl, PosTo.zero _, by omega, by omega⟩
  case round =>
    obtain ⟨p, y, hp, rfl, hy, rfl, hpo, h40, h00⟩ := hrel
    have HY := hide hy
    have HP := hide hpo
    have hge := hpo.ge
    rw [← hy] at hge
    clear hy hpo
    by_cases hlt : p < l.length
    · obtain ⟨b, o, rfl, _, hc⟩ := ha.at_ hlt
      obtain ⟨z, hz⟩ : ∃ z, z = ng l p := ⟨_, rfl⟩
      rw [← hz] at hc
      have HZ := hide hz
      clear hz
      rcases (by omega : z < 1 ∨ 40 < z ∨ 1 ≤ z ∧ z ≤ 40) with h1 | h1 | ⟨h1, h2⟩
      · have E := hide (okW_bad hlt (.inl (by rw [← HZ.out]; exact h1)))
        have q : inB z 1 40 = false := by simp [inB]; omega
        go_wp2_with (go_at_call 75; refine (inRange_any _ _ _ _).mono ?_; rintro e w' ⟨rfl, rfl⟩)
        go_ret
        exact ⟨bool_ret E.out.symm, rfl⟩
      · have E := hide (okW_bad hlt (.inr (by rw [← HZ.out, ← HY.out]; omega)))
        have q : inB z 1 40 = false := by simp [inB]; omega
        go_wp2_with (go_at_call 75; refine (inRange_any _ _ _ _).mono ?_; rintro e w' ⟨rfl, rfl⟩)
        go_ret
        exact ⟨bool_ret E.out.symm, rfl⟩
      · have q : inB z 1 40 = true := by simp [inB]; omega
        rcases (by omega : 40 < y + z ∨ y + z ≤ 40) with h3 | h3
        · have E := hide (okW_bad hlt (.inr (by rw [← HZ.out, ← HY.out]; exact h3)))
          go_wp2_with (go_at_call 75; refine (inRange_any _ _ _ _).mono ?_; rintro e w' ⟨rfl, rfl⟩)
          go_ret
          exact ⟨bool_ret E.out.symm, rfl⟩
        · have M := hide (HP.out.step (k := p) (by rw [← HZ.out]; exact h1))
          have N := hide (show y + z = pfx l (p + 1) by rw [HY.out, HZ.out]; rfl)
          go_wp2_with (go_at_call 75; refine (inRange_any _ _ _ _).mono ?_; rintro e w' ⟨rfl, rfl⟩)
          go_round
          case rel => exact ⟨p + 1, y + z, by omega, rfl, N.out, by go_num, M.out, by omega, by omega⟩
          case measure => simp [intOf]; omega
    · have hpl : p = l.length := by omega
      have hy' : y = pfx l l.length := by rw [← hpl]; exact HY.out
      rcases Nat.eq_zero_or_pos l.length with h0 | h0
      · have y0 : y = 0 := by rw [hy', h0]; rfl
        subst y0
        have E := hide (okW_nil h0)
        go_wp2
        go_ret
        exact ⟨bool_ret E.out.symm, rfl⟩
      · have E := hide (okW_iff.2 ⟨by rw [← hpl]; exact HP.out, by rw [← hy']; exact h40, h0⟩)
        have y1 : 0 < y := by omega
        have d1 : decide (0 < y) = true := decide_eq_true y1
        have HYL := hide hy'
        clear hy'
        go_wp2
        go_ret
        exact ⟨bool_ret E.out.symm, rfl⟩
/-- Whether a number is among others. -/
def memI (l : List Int) (x : Int) : Prop := ∃ j, j < l.length ∧ ng l j = x
noncomputable def hasI (l : List Int) (x : Int) : Bool := decide (memI l x)
theorem endsAt_s (w : World) (A : Option Addr) (n c : Nat) (l : List Int) (x : Int) (ha : IL w A n l) (hn : n ≤ 4611686018427387904) :
    Calls Try.prog 98 #[.slice A n c, .int .i64 x] w fun e w' => e = .returned (.bool (hasI l x)) ∧ w = w' := by
  obtain rfl : n = l.length := ha.1
  go_enter Try.func98, Try.ntmps98
  go_wp2
  go_loop [5] (fun i => ∃ p : Nat, p ≤ l.length ∧ i = .int .i64 p ∧ ∀ j, j < p → ng l j ≠ x) (fun i => l.length - (intOf i).toNat)
  case atStart => exact ⟨0, by omega, rfl, fun j h => by omega⟩
  case round =>
    obtain ⟨p, hp, rfl, hno⟩ := hrel
    have HN := hide hno
    clear hno
    by_cases hlt : p < l.length
    · obtain ⟨b, o, rfl, _, hc⟩ := ha.at_ hlt
      obtain ⟨z, hz⟩ : ∃ z, z = ng l p := ⟨_, rfl⟩
      rw [← hz] at hc
      have HZ := hide hz
      clear hz
      by_cases h1 : z = x
      · have E := hide (show hasI l x = true from decide_eq_true ⟨p, hlt, by rw [← HZ.out]; exact h1⟩)
        subst h1
        go_wp2
        go_ret
        exact ⟨bool_ret E.out.symm, rfl⟩
      · have g : (z == x) = false := beq_eq_false_iff_ne.2 h1
        have M := hide (show ∀ j, j < p + 1 → ng l j ≠ x from fun j hj => by
          rcases (by omega : j < p ∨ j = p) with e | e
          · exact HN.out j e
          · rw [e, ← HZ.out]; exact h1)
        go_wp2
        go_round
        case rel => exact ⟨p + 1, by omega, by go_num, M.out⟩
        case measure => simp [intOf]; omega
    · have E := hide (show hasI l x = false from decide_eq_false fun ⟨j, h1, h2⟩ => HN.out j (by omega) h2)
      go_wp2
      go_ret
      exact ⟨bool_ret E.out.symm, rfl⟩
/-- The first and the last line of each of the first k paragraphs that has more than one line. -/
def svL (l : List Int) : Nat → List (Int × Int)
  | 0 => []
  | k + 1 => svL l k ++ (if 1 < ng l k then [(pfx l k, pfx l k + ng l k - 1)] else [])
theorem svL_pre {l : List Int} {k : Nat} : ∀ {m : Nat}, k ≤ m → ∃ t, svL l m = svL l k ++ t
  | 0, h => by obtain rfl : k = 0 := by omega
               exact ⟨[], rfl⟩
  | m + 1, h => by
    rcases (by omega : k = m + 1 ∨ k ≤ m) with e | e
    · exact ⟨[], by rw [e, List.append_nil]⟩
    · obtain ⟨t, ht⟩ := svL_pre (l := l) e
      exact ⟨t ++ (if 1 < ng l m then [(pfx l m, pfx l m + ng l m - 1)] else []), by simp only [svL]; rw [ht, List.append_assoc]⟩
theorem svL_no {l : List Int} {k : Nat} (h : ¬ 1 < ng l k) : svL l (k + 1) = svL l k := by simp only [svL]; rw [if_neg h, List.append_nil]
theorem svL_yes {l : List Int} {k : Nat} (hk : k < l.length) (h : 1 < ng l k) : (svL l k).length < (svL l l.length).length ∧ (svL l l.length)[(svL l k).length]? = some (pfx l k, pfx l k + ng l k - 1) ∧ (svL l (k + 1)).length = (svL l k).length + 1 := by
  have h1 : svL l (k + 1) = svL l k ++ [(pfx l k, pfx l k + ng l k - 1)] := by simp only [svL]; rw [if_pos h]
  obtain ⟨t, ht⟩ := svL_pre (l := l) (show k + 1 ≤ l.length from hk)
  rw [ht, h1]
  refine ⟨by simp, ?_, by simp⟩
  rw [List.append_assoc, List.getElem?_append_right (Nat.le_refl _), Nat.sub_self]
  rfl
def svG (l : List Int) (k : Nat) : Int × Int := ((svL l l.length)[k]?).getD (0, 0)
abbrev encS (l : List Int) (k : Nat) : Array Value := #[.int .i64 (svG l k).1, .int .i64 (svG l k).2]
end Go.Proofs.Ytlfhfbeacleggaa
