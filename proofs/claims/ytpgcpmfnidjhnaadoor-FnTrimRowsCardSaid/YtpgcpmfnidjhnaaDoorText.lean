/- Whether a text is valid. -/
import Derived.Test.YtpgcpmfnidjhnaaDoorGlue
import Derived.Test.YtpgcpmfnidjhnaaDoorFrame
import Derived.LoopTactic
namespace Go.Proofs.YtpgcpmfnidjhnaaDoor
open Go.ChangeShapes Go.WideShapes Go.ChangeAt Go.RowKit
set_option linter.unusedVariables false
open Classical

/-- The first p characters can be printed. -/
def PTo (s : ByteArray) (p : Nat) : Prop := ∀ j, (h : j < s.size) → j < p → 32 ≤ s[j].toNat ∧ s[j].toNat ≤ 126
def TxOk (s : ByteArray) : Prop := s.size ≤ 60 ∧ PTo s s.size
noncomputable def okX (s : ByteArray) : Bool := decide (TxOk s)
theorem okX_iff {s : ByteArray} : okX s = true ↔ TxOk s := ⟨of_decide_eq_true, decide_eq_true⟩
theorem okX_no {s : ByteArray} (h : ¬ TxOk s) : okX s = false := decide_eq_false h
theorem PTo.zero (s : ByteArray) : PTo s 0 := fun j _ hj => by omega
theorem PTo.step {s : ByteArray} {p : Nat} (h : PTo s p) (hp : p < s.size) (h0 : 32 ≤ s[p].toNat) (h1 : s[p].toNat ≤ 126) : PTo s (p + 1) := fun j hs hj => by
  rcases (by omega : j < p ∨ j = p) with e | e
  · exact h j hs e
  · subst e; exact ⟨h0, h1⟩
theorem okX_bad {s : ByteArray} {p : Nat} (hp : p < s.size) (h : ¬ (32 ≤ s[p].toNat ∧ s[p].toNat ≤ 126)) : okX s = false := okX_no fun x => h (x.2 p hp hp)
theorem okX_long {s : ByteArray} (h : 60 < s.size) : okX s = false := okX_no fun x => by have := x.1; omega
theorem okX_all {s : ByteArray} (h : s.size ≤ 60) (ht : PTo s s.size) : okX s = true := okX_iff.2 ⟨h, ht⟩

theorem validText_x (s : ByteArray) (w : World) (hs : s.size ≤ 4611686018427387904) :
    Calls Tryd.prog 15 #[.string s] w fun e w' => e = .returned (.bool (okX s)) ∧ w = w' := by
  rcases (by omega : 60 < s.size ∨ s.size ≤ 60) with hlen | hlen
  · have E := hide (okX_long hlen)
    go_enter Tryd.func15, Tryd.ntmps15
    go_wp2
    go_ret
    exact ⟨bool_ret E.out.symm, rfl⟩
  · go_enter Tryd.func15, Tryd.ntmps15
    go_wp2
    go_loop [9] (fun i => ∃ p : Nat, p ≤ s.size ∧ i = .int .i64 p ∧ PTo s p) (fun i => s.size - (intOf i).toNat)
    case atStart => exact ⟨0, by omega, rfl, PTo.zero _⟩
    case round =>
      obtain ⟨p, hp, rfl, ht⟩ := hrel
      have HT := hide ht
      clear ht
      by_cases hlt : p < s.size
      · rcases (by omega : s[p].toNat < 32 ∨ (32 ≤ s[p].toNat ∧ 126 < s[p].toNat) ∨ (32 ≤ s[p].toNat ∧ s[p].toNat ≤ 126)) with h | ⟨h, k⟩ | ⟨h, k⟩
        · have E := hide (okX_bad hlt (by omega))
          go_wp2
          go_ret
          exact ⟨bool_ret E.out.symm, rfl⟩
        · have E := hide (okX_bad hlt (by omega))
          go_wp2
          go_ret
          exact ⟨bool_ret E.out.symm, rfl⟩
        · have M := hide (HT.out.step hlt h k)
          go_wp2
          go_round
          case rel => exact ⟨p + 1, by omega, by go_num, M.out⟩
          case measure => simp [intOf]; omega
      · have E := hide (okX_all hlen (by rw [show s.size = p by omega]; exact HT.out))
        go_wp2
        go_ret
        exact ⟨bool_ret E.out.symm, rfl⟩

theorem validText_y (s : ByteArray) (w : World) (hs : s.size ≤ 4611686018427387904) :
    Calls Tryd.prog 14 #[.string s] w fun e w' => e = .returned (.bool (okX s)) ∧ w = w' := by
  go_enter Tryd.func14, Tryd.ntmps14
  go_wp2
  go_loop [3] (fun i => ∃ p : Nat, p ≤ s.size ∧ i = .int .i64 p ∧ PTo s p) (fun i => s.size - (intOf i).toNat)
  case atStart => exact ⟨0, by omega, rfl, PTo.zero _⟩
  case round =>
    obtain ⟨p, hp, rfl, ht⟩ := hrel
    have HT := hide ht
    clear ht
    by_cases hlt : p < s.size
    · rcases (by omega : s[p].toNat < 32 ∨ (32 ≤ s[p].toNat ∧ 126 < s[p].toNat) ∨ (32 ≤ s[p].toNat ∧ s[p].toNat ≤ 126)) with h | ⟨h, k⟩ | ⟨h, k⟩
      · have E := hide (okX_bad hlt (by omega))
        go_wp2
        go_ret
        exact ⟨bool_ret E.out.symm, rfl⟩
      · have E := hide (okX_bad hlt (by omega))
        go_wp2
        go_ret
        exact ⟨bool_ret E.out.symm, rfl⟩
      · have M := hide (HT.out.step hlt h k)
        go_wp2
        go_round
        case rel => exact ⟨p + 1, by omega, by go_num, M.out⟩
        case measure => simp [intOf]; omega
    · rcases (by omega : 60 < s.size ∨ s.size ≤ 60) with hlen | hlen
      · have E := hide (okX_long hlen)
        go_wp2
        go_ret
        exact ⟨bool_ret (by rw [E.out]; simp; omega), rfl⟩
      · have E := hide (okX_all hlen (by rw [show s.size = p by omega]; exact HT.out))
        go_wp2
        go_ret
        exact ⟨bool_ret (by rw [E.out]; simp; omega), rfl⟩
end Go.Proofs.YtpgcpmfnidjhnaaDoor
