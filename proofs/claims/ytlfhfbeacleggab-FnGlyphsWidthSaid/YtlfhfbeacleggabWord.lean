/- Contracts of the functions on words. -/
import Derived.Test.YtlfhfbeacleggabGlue
import Derived.Test.YtlfhfbeacleggabFrame
import Derived.LoopTactic
namespace Go.Proofs.Ytlfhfbeacleggab
open Go.ChangeShapes Go.WideShapes Go.ChangeAt Go.RowKit
set_option linter.unusedSimpArgs false
set_option linter.unusedVariables false

/-- Whether a text is a word. -/
def okWord (s : ByteArray) : Bool := inB s.size 1 20 && s.data.toList.all fun c => inB c.toNat 97 122
def Lets (s : ByteArray) (p : Nat) : Prop := ∀ j, (h : j < s.size) → j < p → inB (s[j].toNat : Int) 97 122 = true
theorem Lets.zero (s : ByteArray) : Lets s 0 := fun j _ hj => by omega
theorem Lets.step {s : ByteArray} {p : Nat} (h : Lets s p) (hp : p < s.size) (hl : inB (s[p].toNat : Int) 97 122 = true) : Lets s (p + 1) := fun j hs hj => by
  rcases (by omega : j < p ∨ j = p) with e | e
  · exact h j hs e
  · subst e; exact hl
theorem okWord_all {s : ByteArray} (h : Lets s s.size) : okWord s = inB s.size 1 20 := by
  have : (s.data.toList.all fun c => inB c.toNat 97 122) = true := by
    simp only [List.all_eq_true]
    intro c hc
    obtain ⟨j, hj, e⟩ := List.getElem_of_mem hc
    have hs : j < s.size := by simpa using hj
    have := h j hs hs
    rw [← e]
    exact this
  simp [okWord, this]
theorem okWord_bad {s : ByteArray} {j : Nat} (hj : j < s.size) (h : inB (s[j].toNat : Int) 97 122 = false) : okWord s = false := by
  rw [Bool.eq_false_iff]
  intro h1
  simp only [okWord, Bool.and_eq_true, List.all_eq_true] at h1
  have := h1.2 s[j] (by rw [show s[j] = s.data.toList[j]'(by simpa using hj) from rfl]; exact List.getElem_mem _)
  rw [this] at h
  cases h
theorem okWord_len {s : ByteArray} (h : inB s.size 1 20 = false) : okWord s = false := by simp [okWord, h]
theorem okWord_iff {s : ByteArray} : okWord s = true ↔ (1 ≤ s.size ∧ s.size ≤ 20) ∧ Lets s s.size := by
  constructor
  · intro h
    refine ⟨by
      have := h
      simp only [okWord, Bool.and_eq_true, inB_iff] at this
      omega, fun j hj _ => ?_⟩
    cases q : inB (s[j].toNat : Int) 97 122
    · rw [okWord_bad hj q] at h; cases h
    · rfl
  · rintro ⟨h, k⟩
    rw [okWord_all k]
    exact inB_yes (by omega) (by omega)

theorem isLetter_i (z : Int) (w : World) (h0 : 0 ≤ z) (h1 : z ≤ 255) :
    Calls Try.prog 38 #[.int .u8 z] w fun e w' => e = .returned (.bool (inB z 97 122)) ∧ w = w' := by
  by_cases h2 : 97 ≤ z <;> by_cases h3 : z ≤ 122
  all_goals
    go_enter Try.func38, Try.ntmps38
    go_wp2
    go_ret
    exact ⟨bool_ret (by simp [inB, *]), rfl⟩

theorem validWord_i (s : ByteArray) (w : World) (hs : s.size ≤ 4611686018427387904) :
    Calls Try.prog 21 #[.string s] w fun e w' => e = .returned (.bool (okWord s)) ∧ w = w' := by
  cases q : inB s.size 1 20
  · have E := hide (okWord_len q)
    go_enter Try.func21, Try.ntmps21
    go_wp2_with (go_at_call 33; refine (within_any _ _ _ _).mono ?_; rintro e w' ⟨rfl, rfl⟩)
    go_ret
    exact ⟨bool_ret E.out.symm, rfl⟩
  · go_enter Try.func21, Try.ntmps21
    go_wp2_with (go_at_call 33; refine (within_any _ _ _ _).mono ?_; rintro e w' ⟨rfl, rfl⟩)
    go_loop [10] (fun i => ∃ p : Nat, p ≤ s.size ∧ i = .int .i64 p ∧ Lets s p) (fun i => s.size - (intOf i).toNat)
    case atStart => exact ⟨0, by omega, rfl, Lets.zero _⟩
    case round =>
      obtain ⟨p, hp, rfl, hw⟩ := hrel
      have HW := hide hw
      have Q := hide q
      clear hw q
      by_cases hlt : p < s.size
      · have hb : s[p].toNat < 256 := UInt8.toNat_lt _
        cases q : inB (s[p].toNat : Int) 97 122
        · have E := hide (okWord_bad hlt q)
          go_wp2_with (go_at_call 38; refine (isLetter_i _ _ (by omega) (by omega)).mono ?_; rintro e w' ⟨rfl, rfl⟩)
          go_ret
          exact ⟨bool_ret E.out.symm, rfl⟩
        · have M := hide (HW.out.step hlt q)
          go_wp2_with (go_at_call 38; refine (isLetter_i _ _ (by omega) (by omega)).mono ?_; rintro e w' ⟨rfl, rfl⟩)
          go_round
          case rel => exact ⟨p + 1, by omega, by go_num, M.out⟩
          case measure => simp [intOf]; omega
      · have E := hide ((okWord_all (by rw [show s.size = p from by omega]; exact HW.out)).trans Q.out)
        go_wp2
        go_ret
        exact ⟨bool_ret E.out.symm, rfl⟩

theorem isWord_s (s : ByteArray) (w : World) (hs : s.size ≤ 4611686018427387904) :
    Calls Try.prog 24 #[.string s] w fun e w' => e = .returned (.bool (okWord s)) ∧ w = w' := by
  go_enter Try.func24, Try.ntmps24
  go_wp2
  go_loop [3] (fun i => ∃ p : Nat, p ≤ s.size ∧ i = .int .i64 p ∧ Lets s p) (fun i => s.size - (intOf i).toNat)
  case atStart => exact ⟨0, by omega, rfl, Lets.zero _⟩
  case round =>
    obtain ⟨p, hp, rfl, hw⟩ := hrel
    have HW := hide hw
    clear hw
    by_cases hlt : p < s.size
    · have hb : s[p].toNat < 256 := UInt8.toNat_lt _
      rcases (by omega : (s[p].toNat : Int) < 97 ∨ 122 < (s[p].toNat : Int) ∨ 97 ≤ (s[p].toNat : Int) ∧ (s[p].toNat : Int) ≤ 122) with h | h | ⟨h, h'⟩
      · have E := hide (okWord_bad hlt (inB_no (by omega)))
        go_wp2
        go_ret
        exact ⟨bool_ret E.out.symm, rfl⟩
      · have h2 : 97 ≤ (s[p].toNat : Int) := by omega
        have E := hide (okWord_bad hlt (inB_no (by omega)))
        go_wp2
        go_ret
        exact ⟨bool_ret E.out.symm, rfl⟩
      · have M := hide (HW.out.step hlt (inB_yes h h'))
        go_wp2
        go_round
        case rel => exact ⟨p + 1, by omega, by go_num, M.out⟩
        case measure => simp [intOf]; omega
    · have E := hide (okWord_all (by rw [show s.size = p from by omega]; exact HW.out))
      go_wp2_with (go_at_call 30; refine (inRange_any _ _ _ _).mono ?_; rintro e w' ⟨rfl, rfl⟩)
      go_ret
      exact ⟨bool_ret E.out.symm, rfl⟩
end Go.Proofs.Ytlfhfbeacleggab
