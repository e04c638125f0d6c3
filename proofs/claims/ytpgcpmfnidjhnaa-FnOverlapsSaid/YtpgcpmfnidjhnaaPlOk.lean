/- Whether placed texts are valid. -/
import Derived.Test.YtpgcpmfnidjhnaaPl
import Derived.Test.YtpgcpmfnidjhnaaText
namespace Go.Proofs.Ytpgcpmfnidjhnaa
open Go.ChangeShapes Go.WideShapes Go.ChangeAt Go.RowKit
set_option linter.unusedVariables false
open Classical

/-- Texts that the laws let by. -/
def PSm (L : List Pl) : Prop := ∀ k, k < L.length → (tg L k).t.size ≤ 1048576
/-- Whether one placed text is valid. -/
def PlOk (p : Pl) (w h : Int) : Prop := okX p.t = true ∧ 0 < p.t.size ∧ (0 ≤ p.x ∧ p.x ≤ w - p.t.size) ∧ (0 ≤ p.y ∧ p.y ≤ h - 1)
def LTo (L : List Pl) (w h : Int) (k : Nat) : Prop := ∀ j, j < k → PlOk (tg L j) w h
theorem LTo.zero (L : List Pl) (w h : Int) : LTo L w h 0 := fun i h => by omega
theorem LTo.step {L : List Pl} {w h : Int} {k : Nat} (a : LTo L w h k) (hk : PlOk (tg L k) w h) : LTo L w h (k + 1) := fun i hi => by
  rcases (by omega : i < k ∨ i = k) with e | e
  · exact a i e
  · rw [e]; exact hk
def PLs (L : List Pl) (w h : Int) : Prop := (1 ≤ w ∧ w ≤ 60) ∧ (1 ≤ h ∧ h ≤ 60) ∧ L.length ≤ 60 ∧ LTo L w h L.length
noncomputable def pls (L : List Pl) (w h : Int) : Bool := decide (PLs L w h)
theorem pls_iff {L : List Pl} {w h : Int} : pls L w h = true ↔ PLs L w h := ⟨of_decide_eq_true, decide_eq_true⟩
theorem pls_no {L : List Pl} {w h : Int} (a : ¬ PLs L w h) : pls L w h = false := decide_eq_false a
theorem pls_bad {L : List Pl} {w h : Int} {k : Nat} (hk : k < L.length) (a : ¬ PlOk (tg L k) w h) : pls L w h = false := pls_no fun x => a (x.2.2.2 k hk)

noncomputable def plOk (p : Pl) (w h : Int) : Bool := decide (PlOk p w h)
theorem plOk_iff {p : Pl} {w h : Int} : plOk p w h = true ↔ PlOk p w h := ⟨of_decide_eq_true, decide_eq_true⟩
theorem plOk_no {p : Pl} {w h : Int} (a : ¬ PlOk p w h) : plOk p w h = false := decide_eq_false a

theorem inside_i (p : Pl) (w h : Int) (u : World) (hs : p.t.size ≤ 1048576) (w0 : 1 ≤ w ∧ w ≤ 60) (h0 : 1 ≤ h ∧ h ≤ 60) :
    Calls Try.prog 79 #[plv p, .int .i64 w, .int .i64 h] u fun e u' => e = .returned (.bool (plOk p w h)) ∧ Below u.heap.size u u' := by
  obtain ⟨x, y, t⟩ := p
  obtain ⟨w0, w1⟩ := w0
  obtain ⟨h0, h1⟩ := h0
  simp only at hs
  have hq : ∀ t : ByteArray, t.size = 0 → t = ByteArray.empty := fun t h => ByteArray.ext (Array.eq_empty_of_size_eq_zero h)
  rcases Nat.eq_zero_or_pos t.size with z | z
  · have E := hide (plOk_no (p := ⟨x, y, t⟩) (w := w) (h := h) (fun a => by have := a.2.1; simp only at this; omega))
    have q : (t.toList != ByteArray.empty.toList) = false := by rw [hq t z]; simp
    have q' : (t.toList == ByteArray.empty.toList) = true := by rw [hq t z]; simp
    have q2 : t = ByteArray.empty := hq t z
    subst q2
    clear z hs q q'
    go_enter Try.func79, Try.ntmps79
    go_wp2
    go_ret
    exact ⟨bool_ret E.out.symm, (by (repeat' (first | with_reducible exact bl_refl _ | with_reducible assumption | with_reducible refine bl_alloc ?_ _ | with_reducible refine bl_set ?_ ?_ _ | with_reducible refine bl_drewN ?_ _ | with_reducible refine bl_drew ?_ | with_reducible refine bl_call (by assumption) ?_)); (all_goals (first | omega | (simp; done) | (simp; omega))))⟩
  have q : ¬ t.toList = [] := by
    intro e
    rw [Lib.toList_data] at e
    have e2 : t.size = 0 := by
      show t.data.size = 0
      rw [← Array.length_toList, e]
      rfl
    omega
  cases q0 : okX t
  · have E := hide (plOk_no (p := ⟨x, y, t⟩) (w := w) (h := h) (fun a => by have := a.1; simp only at this; rw [q0] at this; cases this))
    go_enter Try.func79, Try.ntmps79
    go_wp2_with (go_at_call 106; refine (validText_x _ _ (by omega)).mono ?_; rintro e w' ⟨rfl, rfl⟩)
    go_ret
    exact ⟨bool_ret E.out.symm, (by (repeat' (first | with_reducible exact bl_refl _ | with_reducible assumption | with_reducible refine bl_alloc ?_ _ | with_reducible refine bl_set ?_ ?_ _ | with_reducible refine bl_drewN ?_ _ | with_reducible refine bl_drew ?_ | with_reducible refine bl_call (by assumption) ?_)); (all_goals (first | omega | (simp; done) | (simp; omega))))⟩
  cases q1 : inB x 0 (w - t.size)
  · have E := hide (plOk_no (p := ⟨x, y, t⟩) (w := w) (h := h) (fun a => by have := a.2.2.1; simp only at this; rw [inB_yes this.1 this.2] at q1; cases q1))
    go_enter Try.func79, Try.ntmps79
    go_wp2_with (first | (go_at_call 106; (with_reducible refine (validText_x _ _ (by omega)).mono ?_); rintro e w' ⟨rfl, rfl⟩) | (go_at_call 73; refine (within_any _ _ _ _).mono ?_; rintro e w' ⟨rfl, rfl⟩))
    go_ret
    exact ⟨bool_ret E.out.symm, (by (repeat' (first | with_reducible exact bl_refl _ | with_reducible assumption | with_reducible refine bl_alloc ?_ _ | with_reducible refine bl_set ?_ ?_ _ | with_reducible refine bl_drewN ?_ _ | with_reducible refine bl_drew ?_ | with_reducible refine bl_call (by assumption) ?_)); (all_goals (first | omega | (simp; done) | (simp; omega))))⟩
  cases q2 : inB y 0 (h - 1)
  · have E := hide (plOk_no (p := ⟨x, y, t⟩) (w := w) (h := h) (fun a => by have := a.2.2.2; simp only at this; rw [inB_yes this.1 this.2] at q2; cases q2))
    go_enter Try.func79, Try.ntmps79
    go_wp2_with (first | (go_at_call 106; (with_reducible refine (validText_x _ _ (by omega)).mono ?_); rintro e w' ⟨rfl, rfl⟩) | (go_at_call 73; refine (within_any _ _ _ _).mono ?_; rintro e w' ⟨rfl, rfl⟩))
    go_ret
    exact ⟨bool_ret E.out.symm, (by (repeat' (first | with_reducible exact bl_refl _ | with_reducible assumption | with_reducible refine bl_alloc ?_ _ | with_reducible refine bl_set ?_ ?_ _ | with_reducible refine bl_drewN ?_ _ | with_reducible refine bl_drew ?_ | with_reducible refine bl_call (by assumption) ?_)); (all_goals (first | omega | (simp; done) | (simp; omega))))⟩
  · have E := hide (plOk_iff.2 (show PlOk ⟨x, y, t⟩ w h from ⟨q0, z, inB_iff.1 q1, inB_iff.1 q2⟩))
    go_enter Try.func79, Try.ntmps79
    go_wp2_with (first | (go_at_call 106; (with_reducible refine (validText_x _ _ (by omega)).mono ?_); rintro e w' ⟨rfl, rfl⟩) | (go_at_call 73; refine (within_any _ _ _ _).mono ?_; rintro e w' ⟨rfl, rfl⟩))
    go_ret
    exact ⟨bool_ret (by rw [E.out]; simp [q]), (by (repeat' (first | with_reducible exact bl_refl _ | with_reducible assumption | with_reducible refine bl_alloc ?_ _ | with_reducible refine bl_set ?_ ?_ _ | with_reducible refine bl_drewN ?_ _ | with_reducible refine bl_drew ?_ | with_reducible refine bl_call (by assumption) ?_)); (all_goals (first | omega | (simp; done) | (simp; omega))))⟩

set_option maxHeartbeats 1000000 in
theorem ValidPlaced_i (u : World) (A : Option Addr) (n c : Nat) (w h : Int) (L : List Pl) (ha : TL u A n L) (hs : PSm L) (hn : n ≤ 4611686018427387904) :
    Calls Try.prog 40 #[.slice A n c, .int .i64 w, .int .i64 h] u fun e u' => e = .returned (.bool (pls L w h)) ∧ Below u.heap.size u u' := by
  obtain rfl : n = L.length := ha.1
  have HI := hide ha
  have HS := hide hs
  clear ha hs
  cases q1 : inB w 1 60
  · have E := hide (pls_no (L := L) (w := w) (h := h) (fun a => by rw [inB_yes a.1.1 a.1.2] at q1; cases q1))
    go_enter Try.func40, Try.ntmps40
    go_wp2_with (go_at_call 73; refine (within_any _ _ _ _).mono ?_; rintro e w' ⟨rfl, rfl⟩)
    go_ret
    exact ⟨bool_ret E.out.symm, (by (repeat' (first | with_reducible exact bl_refl _ | with_reducible assumption | with_reducible refine bl_alloc ?_ _ | with_reducible refine bl_set ?_ ?_ _ | with_reducible refine bl_drewN ?_ _ | with_reducible refine bl_drew ?_ | with_reducible refine bl_call (by assumption) ?_)); (all_goals (first | omega | (simp; done) | (simp; omega))))⟩
  have k1 := inB_iff.1 q1
  cases q2 : inB h 1 60
  · have E := hide (pls_no (L := L) (w := w) (h := h) (fun a => by rw [inB_yes a.2.1.1 a.2.1.2] at q2; cases q2))
    clear k1
    go_enter Try.func40, Try.ntmps40
    go_wp2_with (go_at_call 73; refine (within_any _ _ _ _).mono ?_; rintro e w' ⟨rfl, rfl⟩)
    go_ret
    exact ⟨bool_ret E.out.symm, (by (repeat' (first | with_reducible exact bl_refl _ | with_reducible assumption | with_reducible refine bl_alloc ?_ _ | with_reducible refine bl_set ?_ ?_ _ | with_reducible refine bl_drewN ?_ _ | with_reducible refine bl_drew ?_ | with_reducible refine bl_call (by assumption) ?_)); (all_goals (first | omega | (simp; done) | (simp; omega))))⟩
  have k2 := inB_iff.1 q2
  rcases (by omega : 60 < L.length ∨ L.length ≤ 60) with r | r
  · have E := hide (pls_no (L := L) (w := w) (h := h) (fun a => by have := a.2.2.1; omega))
    clear k1 k2
    go_enter Try.func40, Try.ntmps40
    go_wp2_with (go_at_call 73; refine (within_any _ _ _ _).mono ?_; rintro e w' ⟨rfl, rfl⟩)
    go_ret
    exact ⟨bool_ret E.out.symm, (by (repeat' (first | with_reducible exact bl_refl _ | with_reducible assumption | with_reducible refine bl_alloc ?_ _ | with_reducible refine bl_set ?_ ?_ _ | with_reducible refine bl_drewN ?_ _ | with_reducible refine bl_drew ?_ | with_reducible refine bl_call (by assumption) ?_)); (all_goals (first | omega | (simp; done) | (simp; omega))))⟩
  have K1 := hide k1
  have K2 := hide k2
  have Q1 := hide q1
  have Q2 := hide q2
  clear k1 k2
  go_enter Try.func40, Try.ntmps40
  go_wp2_with (go_at_call 73; refine (within_any _ _ _ _).mono ?_; rintro e w' ⟨rfl, rfl⟩)
  clear q1 q2
  go_loopw [24] (fun i v => ∃ p : Nat, p ≤ L.length ∧ i = .int .i64 p ∧ LTo L w h p ∧ Below u.heap.size u v) (fun i _ => L.length - (intOf i).toNat)
  case atStart => exact ⟨0, by omega, rfl, LTo.zero _ _ _, (by (repeat' (first | with_reducible exact bl_refl _ | with_reducible assumption | with_reducible refine bl_alloc ?_ _ | with_reducible refine bl_set ?_ ?_ _ | with_reducible refine bl_drewN ?_ _ | with_reducible refine bl_drew ?_ | with_reducible refine bl_call (by assumption) ?_)); (all_goals (first | omega | (simp; done) | (simp; omega))))⟩
  case round =>
    obtain ⟨p, hp, rfl, hpo, hbl⟩ := hrel
    have HP := hide hpo
    have HB := hide hbl
    clear hpo
    by_cases hlt : p < L.length
    · obtain ⟨b, o, rfl, hb0, c0, c1, c2⟩ := (HI.out.below hbl).atp hlt
      have CI := fun (v : World) => inside_i (tg L p) w h v (HS.out p hlt) K1.out K2.out
      cases q : plOk (tg L p) w h
      · have E := hide (pls_bad (L := L) (w := w) (h := h) hlt (fun a => by rw [plOk_iff.2 a] at q; cases q))
        rw [q] at CI
        have HC := hide CI
        clear CI q hbl
        go_wp2_with fail
        (with_reducible refine (HC.out _).mono ?_)
        rintro e u1 ⟨rfl, hb⟩
        go_wp2
        go_ret
        exact ⟨bool_ret E.out.symm, bl_call hb (bl_alloc HB.out _)⟩
      · have M := hide (HP.out.step (plOk_iff.1 q))
        rw [q] at CI
        have HC := hide CI
        clear CI q hbl
        go_wp2_with fail
        (with_reducible refine (HC.out _).mono ?_)
        rintro e u1 ⟨rfl, hb⟩
        go_wp2
        go_roundw
        case rel => exact ⟨p + 1, by omega, by go_num, M.out, bl_call hb (bl_alloc HB.out _)⟩
        case measure => simp [intOf]; omega
    · have E := hide (pls_iff.2 (show PLs L w h from ⟨K1.out, K2.out, r, by rw [show L.length = p by omega]; exact HP.out⟩))
      go_wp2
      go_ret
      exact ⟨bool_ret E.out.symm, hbl⟩
end Go.Proofs.Ytpgcpmfnidjhnaa
