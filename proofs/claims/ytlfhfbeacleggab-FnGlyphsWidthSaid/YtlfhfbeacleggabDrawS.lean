/- Drawn texts: words and patterns. -/
import Derived.Test.YtlfhfbeacleggabDrawI
import Derived.Test.YtlfhfbeacleggabStrs
import Derived.Deep.RegionWith
namespace Go.Proofs.Ytlfhfbeacleggab
open Go.ChangeShapes Go.WideShapes Go.ChangeAt Go.RowKit
set_option linter.unusedSimpArgs false
set_option linter.unusedVariables false

/-- All values are texts of at most n bytes. -/
def strsLe (n : Nat) : List Value → Bool
  | [] => true
  | .string z :: t => decide (z.size ≤ n) && strsLe n t
  | _ :: _ => false
theorem strs_le {n : Nat} {l : List Value} (h : strsLe n l = true) : ∀ v ∈ l, ∃ z, v = .string z ∧ z.size ≤ n := by
  induction l with
  | nil => intro v hv; cases hv
  | cons a t ih =>
    cases a <;> simp only [strsLe, Bool.and_eq_true, decide_eq_true_eq, Bool.false_eq_true] at h
    intro v hv
    rcases List.mem_cons.1 hv with rfl | hv
    · exact ⟨_, rfl, h.1⟩
    · exact ih h.2 v hv
theorem randomWord_any (w : World) (B g N : Nat) (h : RD w B g N) (hN : N ≤ 1000000000) :
    Calls Try.prog 37 #[.pointer (some ⟨g, 0, none⟩)] w fun e w' => ∃ s : ByteArray, s.size ≤ 7 ∧ e = .returned (.string s) ∧ RD w' B g (N + 8) ∧ w.grownBy w' (some g) := by
  have hcv := conv_new
  have hos := one_size
  have hg := h.lt
  go_enter Try.func37, Try.ntmps37
  go_wp2_with fail
  (refine (pick_any _ B g _ _ h (by omega) (by omega) (by omega)).mono ?_)
  rintro e u0 ⟨r, hr0, hr1, rfl, hrd, hon⟩
  go_wp2
  go_loopw [3, 4] (fun v i u => ∃ (p m : Nat) (acc : ByteArray), p + m ≤ 7 ∧ i = .int .i64 m ∧ v = .string acc ∧ acc.size = p ∧ RD u B g (N + 1 + p) ∧ w.grownBy u (some g)) (fun _ i _ => (intOf i).toNat)
  case atStart => exact ⟨0, (1 + r).toNat, ⟨#[]⟩, by omega, by go_num, rfl, rfl, hrd, hon⟩
  case round =>
    obtain ⟨p, m, acc, hpm, rfl, rfl, hp, hrd, hon⟩ := hrel
    have HP := hide hp
    have hal : acc.size ≤ 7 := by omega
    clear hp
    rcases Nat.eq_zero_or_pos m with hm | hm
    · subst hm
      go_wp2
      go_ret
      exact ⟨acc, hal, rfl, hrd.more (by omega) (Nat.le_refl _) hrd.2.1, hon⟩
    · go_wp2_with fail
      (refine (pick_any _ B g _ _ hrd (by omega) (by omega) (by omega)).mono ?_)
      rintro e u1 ⟨z, hz0, hz1, rfl, hrd1, hon1⟩
      go_wp2
      go_roundw
      case rel => exact ⟨p + 1, m - 1, acc ++ one (97 + z), by omega, by go_num, rfl, by rw [ByteArray.size_append, one_size, HP.out], (hrd1.alloc _).more (by omega) (Nat.le_refl _) (hrd1.alloc _).2.1, on_alloc (on_call hon1 hon) _⟩
      case measure => simp [intOf]; omega

theorem anyWord_any (w : World) (B g N : Nat) (h : RD w B g N) (hN : N ≤ 100000000) :
    Calls Try.prog 20 #[.pointer (some ⟨g, 0, none⟩)] w fun e w' => ∃ s : ByteArray, s.size ≤ 27 ∧ e = .returned (.string s) ∧ RD w' B g (N + 9) ∧ w.grownBy w' (some g) := by
  have hg := h.lt
  go_enter Try.func20, Try.ntmps20
  go_wp2_with fail
  refine (randomWord_any _ B g _ h (by omega)).mono ?_
  rintro e u0 ⟨s, hs, rfl, hrd, hon⟩
  go_wp2_with fail
  (refine (pick_any _ B g _ _ hrd (by omega) (by omega) (by omega)).mono ?_)
  rintro e u1 ⟨r, hr0, hr1, rfl, hrd1, hon1⟩
  have O := hide (on_call hon1 hon)
  rcases (by omega : r = 0 ∨ r = 1 ∨ r = 2 ∨ 3 ≤ r) with rfl | rfl | rfl | hr
  · go_wp2
    go_ret
    exact ⟨⟨#[]⟩, by simp [ByteArray.size], rfl, hrd1, O.out⟩
  · go_wp2
    go_ret
    exact ⟨_, by rw [ByteArray.size_append]; have q : (ByteArray.mk #[65]).size = 1 := rfl; omega, rfl, hrd1, O.out⟩
  · go_wp2
    go_ret
    exact ⟨_, by rw [ByteArray.size_append]; have q : (ByteArray.mk #[97, 97, 97, 97, 97, 97, 97, 97, 97, 97, 97, 97, 97, 97, 97, 97, 97, 97, 97, 97]).size = 20 := rfl; omega, rfl, hrd1, O.out⟩
  · go_wp2
    go_ret
    exact ⟨s, by omega, rfl, hrd1, O.out⟩







end Go.Proofs.Ytlfhfbeacleggab
