/- Contracts of the functions on words. -/
import Derived.Test.YteoiphjkkcjddaaGlue
import Derived.Test.YteoiphjkkcjddaaFrame
import Derived.LoopTactic
namespace Go.Proofs.Yteoiphjkkcjddaa
open Go.ChangeShapes Go.WideShapes Go.ChangeAt Go.RowKit
set_option linter.unusedVariables false

/-- Whether a text is a word. -/
def okWord (s : ByteArray) : Bool := inB s.size 1 20 && s.data.toList.all fun c => inB c.toNat 97 122
def Lets (s : ByteArray) (p : Nat) : Prop := ∀ j, (h : j < s.size) → j < p → inB (s[j].toNat : Int) 97 122 = true
theorem Lets.zero (s : ByteArray) : Lets s 0 := fun j _ hj => by omega
theorem Lets.step {s : ByteArray} {p : Nat} (h : Lets s p) (hp : p < s.size) (hl : inB (s[p].toNat : Int) 97 122 = true) : Lets s (p + 1) := fun j hs hj => by
  rcases (by omega : j < p ∨ j = p) with e | e
  · exact h j hs e
  · subst e; exact hl
theorem okWord_all {s : ByteArray} (h : Lets s s.size) : okWord s = inB s.size 1 20 := by
  have : (s.data.toList.all fun c => inB c.toNat 97 122) = true := by
    simp only [List.all_eq_true]
    intro c hc
    obtain ⟨j, hj, e⟩ := List.getElem_of_mem hc
    have hs : j < s.size := by simpa using hj
    have := h j hs hs
    rw [← e]
    exact this
  simp [okWord, this]
theorem okWord_bad {s : ByteArray} {j : Nat} (hj : j < s.size) (h : inB (s[j].toNat : Int) 97 122 = false) : okWord s = false := by
  rw [Bool.eq_false_iff]
  intro h1
  simp only [okWord, Bool.and_eq_true, List.all_eq_true] at h1
  have := h1.2 s[j] (by rw [show s[j] = s.data.toList[j]'(by simpa using hj) from rfl]; exact List.getElem_mem _)
  rw [this] at h
  cases h
theorem okWord_len {s : ByteArray} (h : inB s.size 1 20 = false) : okWord s = false := by simp [okWord, h]
theorem okWord_iff {s : ByteArray} : okWord s = true ↔ (1 ≤ s.size ∧ s.size ≤ 20) ∧ Lets s s.size := by
  constructor
  · intro h
    refine ⟨by
      have := h
      simp only [okWord, Bool.and_eq_true, inB_iff] at this
      omega, fun j hj _ => ?_⟩
    cases q : inB (s[j].toNat : Int) 97 122
    · rw [okWord_bad hj q] at h; cases h
    · rfl
  · rintro ⟨h, k⟩
    rw [okWord_all k]
    exact inB_yes (by omega) (by omega)

theorem isLetter_i (z : Int) (w : World) (h0 : 0 ≤ z) (h1 : z ≤ 255) :
    Calls Try.prog 55 #[.int .u8 z] w fun e w' => e = .returned (.bool (inB z 97 122)) ∧ w = w' := by
  by_cases h2 : 97 ≤ z <;> by_cases h3 : z ≤ 122
  all_goals
    go_enter Try.func55, Try.ntmps55
    go_wp2
    go_ret
    exact ⟨bool_ret (by simp [inB, *]), rfl⟩


end Go.Proofs.Yteoiphjkkcjddaa
