/- Words that can be wrapped: valid, their length, the rest of a line. -/
import Derived.Test.YtlfhfbeacleggaaTxt
import Derived.Test.YtlfhfbeacleggaaWord
namespace Go.Proofs.Ytlfhfbeacleggaa
open Go.ChangeShapes Go.WideShapes Go.ChangeAt Go.RowKit
set_option linter.unusedVariables false
open Classical

def WTo (l : List ByteArray) (k : Nat) : Prop := ∀ j, j < k → okWord (sg l j) = true
theorem WTo.zero (l : List ByteArray) : WTo l 0 := fun j h => by omega
theorem WTo.step {l : List ByteArray} {k : Nat} (h : WTo l k) (hk : okWord (sg l k) = true) : WTo l (k + 1) := fun j hj => by
  rcases (by omega : j < k ∨ j = k) with e | e
  · exact h j e
  · rw [e]; exact hk
def WOk (l : List ByteArray) : Prop := WTo l l.length ∧ l.length ≤ 40
noncomputable def wok (l : List ByteArray) : Bool := decide (WOk l)
theorem wok_iff {l : List ByteArray} : wok l = true ↔ WOk l := ⟨of_decide_eq_true, decide_eq_true⟩
theorem wok_no {l : List ByteArray} (h : ¬ WOk l) : wok l = false := decide_eq_false h
theorem wok_bad {l : List ByteArray} {k : Nat} (hk : k < l.length) (h : okWord (sg l k) = false) : wok l = false := wok_no fun x => by rw [x.1 k hk] at h; cases h
/-- The characters of the first k words. -/
def sm (l : List ByteArray) : Nat → Nat
  | 0 => 0
  | k + 1 => sm l k + (sg l k).size
theorem sm_le {l : List ByteArray} {k : Nat} (h : WTo l k) : sm l k ≤ 20 * k := by
  induction k with
  | zero => simp [sm]
  | succ k ih =>
    have a := ih (fun j hj => h j (by omega))
    have b := (okWord_iff.1 (h k (by omega))).1.2
    simp only [sm]; omega

set_option maxHeartbeats 1000000 in
theorem validWords_s (w : World) (A : Option Addr) (n c : Nat) (l : List ByteArray) (ha : SL w A n l) (hs : ∀ k, k < l.length → (sg l k).size ≤ 1048576) (hn : n ≤ 4611686018427387904) :
    Calls Try.prog 74 #[.slice A n c] w fun e w' => e = .returned (.bool (wok l)) ∧ w = w' := by
  obtain rfl : n = l.length := ha.1
  have HA := hide ha
  have HS := hide hs
  clear ha hs
  go_enter Try.func74, Try.ntmps74
  go_wp2
  go_loop [3] (fun i => ∃ p : Nat, p ≤ l.length ∧ i = .int .i64 p ∧ WTo l p) (fun i => l.length - (intOf i).toNat)
  case atStart => exact ⟨0, by omega, rfl, WTo.zero _⟩
  case round =>
    obtain ⟨p, hp, rfl, hw⟩ := hrel
    have HW := hide hw
    clear hw
    by_cases hlt : p < l.length
    · obtain ⟨b, o, rfl, hb0, c0⟩ := HA.out.at_ hlt
      have hsz := HS.out p hlt
      have BAD := hide (fun h => wok_bad (l := l) hlt h)
      have NX := hide (fun h => HW.out.step h)
      obtain ⟨s, hsd⟩ : ∃ s, s = sg l p := ⟨_, rfl⟩
      rw [← hsd] at c0 hsz BAD NX
      clear hsd
      cases q : okWord s
      · have E := hide (BAD.out q)
        clear BAD NX
        go_wp2_with (go_at_call 137; (with_reducible refine (isWord_s _ _ (by omega)).mono ?_); rintro e w' ⟨rfl, rfl⟩)
        go_ret
        exact ⟨bool_ret E.out.symm, rfl⟩
      · have M := hide (NX.out q)
        clear BAD NX
        go_wp2_with (go_at_call 137; (with_reducible refine (isWord_s _ _ (by omega)).mono ?_); rintro e w' ⟨rfl, rfl⟩)
        go_round
        case rel => exact ⟨p + 1, by omega, by go_num, M.out⟩
        case measure => simp [intOf]; omega
    · have hpe : p = l.length := by omega
      rcases (by omega : l.length ≤ 40 ∨ 40 < l.length) with h | h
      · have E := hide (wok_iff.2 (show WOk l from ⟨by rw [← hpe]; exact HW.out, h⟩))
        clear hpe
        go_wp2
        go_ret
        exact ⟨bool_ret (by rw [E.out]; simp; omega), rfl⟩
      · have E := hide (wok_no (l := l) (fun x => by have := x.2; omega))
        clear hpe
        go_wp2
        go_ret
        exact ⟨bool_ret (by rw [E.out]; simp; omega), rfl⟩
set_option maxHeartbeats 1000000 in
theorem canWrap_i (w : World) (A : Option Addr) (n c : Nat) (l : List ByteArray) (wd : Int) (ha : SL w A n l) (hs : ∀ k, k < l.length → (sg l k).size ≤ 1048576) (hn : n ≤ 4611686018427387904) :
    Calls Try.prog 84 #[.slice A n c, .int .i64 wd] w fun e w' => e = .returned (.bool (wok l && inB wd 20 60)) ∧ w = w' := by
  obtain rfl : n = l.length := ha.1
  have HA := hide ha
  have HS := hide hs
  clear ha hs
  rcases (by omega : 40 < l.length ∨ l.length ≤ 40) with h | h
  · have E := hide (wok_no (l := l) (fun x => by have := x.2; omega))
    go_enter Try.func84, Try.ntmps84
    go_wp2
    go_ret
    exact ⟨bool_ret (by simp [E.out]), rfl⟩
  cases q : inB wd 20 60
  · go_enter Try.func84, Try.ntmps84
    go_wp2_with (go_at_call 89; refine (within_any _ _ _ _).mono ?_; rintro e w' ⟨rfl, rfl⟩)
    go_ret
    exact ⟨bool_ret (by simp), rfl⟩
  go_enter Try.func84, Try.ntmps84
  go_wp2_with (go_at_call 89; refine (within_any _ _ _ _).mono ?_; rintro e w' ⟨rfl, rfl⟩)
  clear q
  go_loop [17] (fun i => ∃ p : Nat, p ≤ l.length ∧ i = .int .i64 p ∧ WTo l p) (fun i => l.length - (intOf i).toNat)
  case atStart => exact ⟨0, by omega, rfl, WTo.zero _⟩
  case round =>
    obtain ⟨p, hp, rfl, hw⟩ := hrel
    have HW := hide hw
    clear hw
    by_cases hlt : p < l.length
    · obtain ⟨b, o, rfl, hb0, c0⟩ := HA.out.at_ hlt
      have hsz := HS.out p hlt
      have BAD := hide (fun h => wok_bad (l := l) hlt h)
      have NX := hide (fun h => HW.out.step h)
      obtain ⟨s, hsd⟩ : ∃ s, s = sg l p := ⟨_, rfl⟩
      rw [← hsd] at c0 hsz BAD NX
      clear hsd
      cases q : okWord s
      · have E := hide (BAD.out q)
        clear BAD NX
        go_wp2_with (go_at_call 145; (with_reducible refine (validWord_i _ _ (by omega)).mono ?_); rintro e w' ⟨rfl, rfl⟩)
        go_ret
        exact ⟨bool_ret (by simp [E.out]), rfl⟩
      · have M := hide (NX.out q)
        clear BAD NX
        go_wp2_with (go_at_call 145; (with_reducible refine (validWord_i _ _ (by omega)).mono ?_); rintro e w' ⟨rfl, rfl⟩)
        go_round
        case rel => exact ⟨p + 1, by omega, by go_num, M.out⟩
        case measure => simp [intOf]; omega
    · have E := hide (wok_iff.2 (show WOk l from ⟨by rw [show l.length = p by omega]; exact HW.out, h⟩))
      go_wp2
      go_ret
      exact ⟨bool_ret (by simp [E.out]), rfl⟩
set_option maxHeartbeats 1000000 in
theorem restOf_i (w : World) (A : Option Addr) (n c : Nat) (l : List ByteArray) (wd : Int) (ha : SL w A n l) (hs : WTo l l.length) (hl : l.length ≤ 40) (h0 : -1000 ≤ wd ∧ wd ≤ 1000) :
    Calls Try.prog 80 #[.slice A n c, .int .i64 wd] w fun e w' => e = .returned (.int .i64 (wd + 1 - (sm l l.length : Int) - (l.length : Int))) ∧ w = w' := by
  obtain rfl : n = l.length := ha.1
  have HA := hide ha
  have HS := hide hs
  obtain ⟨h0, h1⟩ := h0
  clear ha hs
  go_enter Try.func80, Try.ntmps80
  go_wp2
  go_loop [5, 12] (fun v i => ∃ p : Nat, p ≤ l.length ∧ i = .int .i64 p ∧ v = .int .i64 (wd + 1 - (sm l p : Int) - (p : Int))) (fun _ i => l.length - (intOf i).toNat)
  case atStart => exact ⟨0, by omega, rfl, by simp [sm]⟩
  case round =>
    obtain ⟨p, hp, rfl, rfl⟩ := hrel
    have hsm := sm_le (fun j hj => HS.out j (by omega) : WTo l p)
    obtain ⟨z, hz⟩ : ∃ z, z = sm l p := ⟨_, rfl⟩
    by_cases hlt : p < l.length
    · obtain ⟨b, o, rfl, hb0, c0⟩ := HA.out.at_ hlt
      have hsz := (okWord_iff.1 (HS.out p hlt)).1.2
      have NX := hide (show sm l (p + 1) = sm l p + (sg l p).size from rfl)
      obtain ⟨s, hsd⟩ : ∃ s, s = sg l p := ⟨_, rfl⟩
      rw [← hsd] at c0 hsz NX
      rw [← hz] at hsm NX ⊢
      clear hsd hz
      go_wp2
      go_round
      case rel => exact ⟨p + 1, by omega, by go_num, int_val (by rw [NX.out]; omega)⟩
      case measure => simp [intOf]; omega
    · have E := hide (show p = l.length by omega)
      rw [← hz] at hsm ⊢
      go_wp2
      go_ret
      exact ⟨int_ret (by rw [← E.out, ← hz]), rfl⟩
set_option maxHeartbeats 1000000 in
theorem joined_s (w : World) (A : Option Addr) (n c : Nat) (l : List ByteArray) (ha : SL w A n l) (hs : WTo l l.length) (hl : l.length ≤ 40) :
    Calls Try.prog 77 #[.slice A n c] w fun e w' => e = .returned (.int .i64 (((l.length - 1 + sm l l.length : Nat) : Int))) ∧ w = w' := by
  obtain rfl : n = l.length := ha.1
  have HA := hide ha
  have HS := hide hs
  obtain ⟨m, hm⟩ : ∃ m, m = l.length - 1 := ⟨_, rfl⟩
  have HM := hide hm
  rcases (by omega : (l.length : Int) - 1 < 0 ∧ m = 0 ∨ 0 ≤ (l.length : Int) - 1 ∧ (l.length : Int) - 1 = (m : Int)) with ⟨g, e⟩ | ⟨g, e⟩
  all_goals
    clear ha hs hm
    rw [← HM.out]
    have e' := hide e
    go_enter Try.func77, Try.ntmps77
    go_wp2
    go_loop [3, 4] (fun v i => ∃ p : Nat, p ≤ l.length ∧ i = .int .i64 p ∧ v = .int .i64 ((m : Int) + (sm l p : Int))) (fun _ i => l.length - (intOf i).toNat)
    case atStart => exact ⟨0, by omega, rfl, int_val (by have := e'.out; first | (simp [sm]; done) | (simp [sm]; omega))⟩
    case round =>
      obtain ⟨p, hp, rfl, rfl⟩ := hrel
      have hsm := sm_le (fun j hj => HS.out j (by omega) : WTo l p)
      have hml : m ≤ 40 := by have := HM.out; omega
      clear e g
      obtain ⟨z, hz⟩ : ∃ z, z = sm l p := ⟨_, rfl⟩
      by_cases hlt : p < l.length
      · obtain ⟨b, o, rfl, hb0, c0⟩ := HA.out.at_ hlt
        have hsz := (okWord_iff.1 (HS.out p hlt)).1.2
        have NX := hide (show sm l (p + 1) = sm l p + (sg l p).size from rfl)
        obtain ⟨s, hsd⟩ : ∃ s, s = sg l p := ⟨_, rfl⟩
        rw [← hsd] at c0 hsz NX
        rw [← hz] at hsm NX ⊢
        clear hsd hz
        go_wp2
        go_round
        case rel => exact ⟨p + 1, by omega, by go_num, int_val (by rw [NX.out]; omega)⟩
        case measure => simp [intOf]; omega
      · have E := hide (show p = l.length by omega)
        rw [← hz] at hsm ⊢
        go_wp2
        go_ret
        exact ⟨int_ret (by rw [← E.out, ← hz]; first | done | omega), rfl⟩
end Go.Proofs.Ytlfhfbeacleggaa
