/- Whether placed texts are valid, in the model. -/
import Derived.Test.YtpgcpmfnidjhnaaPlOk
namespace Go.Proofs.Ytpgcpmfnidjhnaa
open Go.ChangeShapes Go.WideShapes Go.ChangeAt Go.RowKit
set_option linter.unusedVariables false
open Classical

set_option maxHeartbeats 2000000 in
theorem validPlaced_s (u : World) (A : Option Addr) (n c : Nat) (w h : Int) (L : List Pl) (ha : TL u A n L) (hs : PSm L) (hn : n ≤ 4611686018427387904) (wf1 : (Lit.int .i64 w).wf = true) (wf2 : (Lit.int .i64 h).wf = true) :
    Calls Try.prog 77 #[.slice A n c, .int .i64 w, .int .i64 h] u fun e u' => e = .returned (.bool (pls L w h)) ∧ Below u.heap.size u u' := by
  obtain rfl : n = L.length := ha.1
  have HI := hide ha
  have HS := hide hs
  clear ha hs
  by_cases V : (1 ≤ w ∧ w ≤ 60) ∧ (1 ≤ h ∧ h ≤ 60)
  · have K1 := hide V.1
    have K2 := hide V.2
    obtain ⟨⟨w0, w1⟩, h0, h1⟩ := V
    clear wf1 wf2
    have Q1 := inB_yes w0 w1
    have Q2 := inB_yes h0 h1
    go_enter Try.func77, Try.ntmps77
    go_wp2
    go_loopw [7] (fun i v => ∃ p : Nat, p ≤ L.length ∧ i = .int .i64 p ∧ LTo L w h p ∧ Below u.heap.size u v) (fun i _ => L.length - (intOf i).toNat)
    case atStart => exact ⟨0, by omega, rfl, LTo.zero _ _ _, bl_refl _⟩
    case round =>
      obtain ⟨p, hp, rfl, hpo, hbl⟩ := hrel
      have HP := hide hpo
      clear hpo
      by_cases hlt : p < L.length
      · obtain ⟨b, o, rfl, hb0, c0, c1, c2⟩ := (HI.out.below hbl).atp hlt
        have hsz := HS.out p hlt
        have BAD := hide (fun h' => pls_bad (L := L) (w := w) (h := h) hlt h')
        have NXT := hide (fun h' => HP.out.step h')
        unfold PlOk at BAD NXT
        obtain ⟨x, hx⟩ : ∃ x, x = (tg L p).x := ⟨_, rfl⟩
        obtain ⟨y, hy⟩ : ∃ y, y = (tg L p).y := ⟨_, rfl⟩
        obtain ⟨t, ht⟩ : ∃ t, t = (tg L p).t := ⟨_, rfl⟩
        rw [← hx] at c0
        rw [← hy] at c1
        rw [← ht] at c2 hsz
        rw [← hx, ← hy, ← ht] at BAD NXT
        clear hx hy ht
        have HB := hide hbl
        clear Q1 Q2
        cases q0 : okX t
        · have E := hide (BAD.out (fun a => by rw [q0] at a; cases a.1))
          clear BAD NXT
          (go_wp2_with (first | (go_at_call 105; (with_reducible refine (validText_y _ _ (by omega)).mono ?_); rintro e w' ⟨rfl, rfl⟩) | (go_at_call 84; refine (inRange_any _ _ _ _).mono ?_; rintro e w' ⟨rfl, rfl⟩)); go_ret; exact ⟨bool_ret E.out.symm, (by (repeat' (first | with_reducible exact bl_refl _ | with_reducible assumption | with_reducible refine bl_alloc ?_ _ | with_reducible refine bl_set ?_ ?_ _ | with_reducible refine bl_drewN ?_ _ | with_reducible refine bl_drew ?_ | with_reducible refine bl_call (by assumption) ?_)); (all_goals (first | omega | (simp; done) | (simp; omega))))⟩)
        rcases Nat.eq_zero_or_pos t.size with z | z
        · have E := hide (BAD.out (fun a => by have := a.2.1; omega))
          have z1 : ((t.size : Int) == 0) = true := by simp [z]
          clear BAD NXT
          (go_wp2_with (first | (go_at_call 105; (with_reducible refine (validText_y _ _ (by omega)).mono ?_); rintro e w' ⟨rfl, rfl⟩) | (go_at_call 84; refine (inRange_any _ _ _ _).mono ?_; rintro e w' ⟨rfl, rfl⟩)); go_ret; exact ⟨bool_ret E.out.symm, (by (repeat' (first | with_reducible exact bl_refl _ | with_reducible assumption | with_reducible refine bl_alloc ?_ _ | with_reducible refine bl_set ?_ ?_ _ | with_reducible refine bl_drewN ?_ _ | with_reducible refine bl_drew ?_ | with_reducible refine bl_call (by assumption) ?_)); (all_goals (first | omega | (simp; done) | (simp; omega))))⟩)
        have z1 : ((t.size : Int) == 0) = false := beq_eq_false_iff_ne.2 (by omega)
        have z2 : ¬ t.size = 0 := by omega
        cases q1 : inB x 0 (w - t.size)
        · have E := hide (BAD.out (fun a => by have := a.2.2.1; rw [inB_yes this.1 this.2] at q1; cases q1))
          clear BAD NXT
          (go_wp2_with (first | (go_at_call 105; (with_reducible refine (validText_y _ _ (by omega)).mono ?_); rintro e w' ⟨rfl, rfl⟩) | (go_at_call 84; refine (inRange_any _ _ _ _).mono ?_; rintro e w' ⟨rfl, rfl⟩)); go_ret; exact ⟨bool_ret E.out.symm, (by (repeat' (first | with_reducible exact bl_refl _ | with_reducible assumption | with_reducible refine bl_alloc ?_ _ | with_reducible refine bl_set ?_ ?_ _ | with_reducible refine bl_drewN ?_ _ | with_reducible refine bl_drew ?_ | with_reducible refine bl_call (by assumption) ?_)); (all_goals (first | omega | (simp; done) | (simp; omega))))⟩)
        cases q2 : inB y 0 (h - 1)
        · have E := hide (BAD.out (fun a => by have := a.2.2.2; rw [inB_yes this.1 this.2] at q2; cases q2))
          clear BAD NXT
          (go_wp2_with (first | (go_at_call 105; (with_reducible refine (validText_y _ _ (by omega)).mono ?_); rintro e w' ⟨rfl, rfl⟩) | (go_at_call 84; refine (inRange_any _ _ _ _).mono ?_; rintro e w' ⟨rfl, rfl⟩)); go_ret; exact ⟨bool_ret E.out.symm, (by (repeat' (first | with_reducible exact bl_refl _ | with_reducible assumption | with_reducible refine bl_alloc ?_ _ | with_reducible refine bl_set ?_ ?_ _ | with_reducible refine bl_drewN ?_ _ | with_reducible refine bl_drew ?_ | with_reducible refine bl_call (by assumption) ?_)); (all_goals (first | omega | (simp; done) | (simp; omega))))⟩)
        · have M := hide (NXT.out ⟨q0, z, inB_iff.1 q1, inB_iff.1 q2⟩)
          clear BAD NXT
          go_wp2_with (first | (go_at_call 105; (with_reducible refine (validText_y _ _ (by omega)).mono ?_); rintro e w' ⟨rfl, rfl⟩) | (go_at_call 84; refine (inRange_any _ _ _ _).mono ?_; rintro e w' ⟨rfl, rfl⟩))
          go_roundw
          case rel => exact ⟨p + 1, by omega, by go_num, M.out, (by (repeat' (first | with_reducible exact bl_refl _ | with_reducible assumption | with_reducible refine bl_alloc ?_ _ | with_reducible refine bl_set ?_ ?_ _ | with_reducible refine bl_drewN ?_ _ | with_reducible refine bl_drew ?_ | with_reducible refine bl_call (by assumption) ?_)); (all_goals (first | omega | (simp; done) | (simp; omega))))⟩
          case measure => simp [intOf]; omega
      · have ALL : LTo L w h L.length := by rw [show L.length = p by omega]; exact HP.out
        rcases (by omega : 60 < L.length ∨ L.length ≤ 60) with r | r
        · have E := hide (pls_no (L := L) (w := w) (h := h) (fun a => by have := a.2.2.1; omega))
          have r' : decide (L.length ≤ 60) = false := decide_eq_false (by omega)
          clear ALL
          go_wp2_with (go_at_call 84; refine (inRange_any _ _ _ _).mono ?_; rintro e w' ⟨rfl, rfl⟩)
          go_ret
          exact ⟨bool_ret (by rw [E.out]; simp; omega), hbl⟩
        · have E := hide (pls_iff.2 (show PLs L w h from ⟨K1.out, K2.out, r, ALL⟩))
          clear ALL
          go_wp2_with (go_at_call 84; refine (inRange_any _ _ _ _).mono ?_; rintro e w' ⟨rfl, rfl⟩)
          go_ret
          exact ⟨bool_ret (by rw [E.out]; simp; omega), hbl⟩
  · have E := hide (pls_no (L := L) (w := w) (h := h) (fun a => V ⟨a.1, a.2.1⟩))
    have Q : inB w 1 60 = true → inB h 1 60 = true → False := fun a b => V ⟨inB_iff.1 a, inB_iff.1 b⟩
    have HQ := hide Q
    clear V Q
    go_enter Try.func77, Try.ntmps77
    go_wp2
    go_loopw [7] (fun i v => ∃ p : Nat, p ≤ L.length ∧ i = .int .i64 p ∧ Below u.heap.size u v) (fun i _ => L.length - (intOf i).toNat)
    case atStart => exact ⟨0, by omega, rfl, bl_refl _⟩
    case round =>
      obtain ⟨p, hp, rfl, hbl⟩ := hrel
      by_cases hlt : p < L.length
      · obtain ⟨b, o, rfl, hb0, c0, c1, c2⟩ := (HI.out.below hbl).atp hlt
        have hsz := HS.out p hlt
        obtain ⟨x, hx⟩ : ∃ x, x = (tg L p).x := ⟨_, rfl⟩
        obtain ⟨y, hy⟩ : ∃ y, y = (tg L p).y := ⟨_, rfl⟩
        obtain ⟨t, ht⟩ : ∃ t, t = (tg L p).t := ⟨_, rfl⟩
        rw [← hx] at c0
        rw [← hy] at c1
        rw [← ht] at c2 hsz
        clear hx hy ht
        cases q0 : okX t
        · (go_wp2_with (first | (go_at_call 105; (with_reducible refine (validText_y _ _ (by omega)).mono ?_); rintro e w' ⟨rfl, rfl⟩) | (go_at_call 84; refine (inRange_any _ _ _ _).mono ?_; rintro e w' ⟨rfl, rfl⟩)); go_ret; exact ⟨bool_ret E.out.symm, (by (repeat' (first | with_reducible exact bl_refl _ | with_reducible assumption | with_reducible refine bl_alloc ?_ _ | with_reducible refine bl_set ?_ ?_ _ | with_reducible refine bl_drewN ?_ _ | with_reducible refine bl_drew ?_ | with_reducible refine bl_call (by assumption) ?_)); (all_goals (first | omega | (simp; done) | (simp; omega))))⟩)
        rcases Nat.eq_zero_or_pos t.size with z | z
        · have z1 : ((t.size : Int) == 0) = true := by simp [z]
          (go_wp2_with (first | (go_at_call 105; (with_reducible refine (validText_y _ _ (by omega)).mono ?_); rintro e w' ⟨rfl, rfl⟩) | (go_at_call 84; refine (inRange_any _ _ _ _).mono ?_; rintro e w' ⟨rfl, rfl⟩)); go_ret; exact ⟨bool_ret E.out.symm, (by (repeat' (first | with_reducible exact bl_refl _ | with_reducible assumption | with_reducible refine bl_alloc ?_ _ | with_reducible refine bl_set ?_ ?_ _ | with_reducible refine bl_drewN ?_ _ | with_reducible refine bl_drew ?_ | with_reducible refine bl_call (by assumption) ?_)); (all_goals (first | omega | (simp; done) | (simp; omega))))⟩)
        have z1 : ((t.size : Int) == 0) = false := beq_eq_false_iff_ne.2 (by omega)
        have z2 : ¬ t.size = 0 := by omega
        go_wp2_with (first | (go_at_call 105; (with_reducible refine (validText_y _ _ (by omega)).mono ?_); rintro e w' ⟨rfl, rfl⟩) | (go_at_call 84; refine (inRange_any _ _ _ _).mono ?_; rintro e w' ⟨rfl, rfl⟩))
        all_goals (first | (go_ret; exact ⟨bool_ret E.out.symm, (by (repeat' (first | with_reducible exact bl_refl _ | with_reducible assumption | with_reducible refine bl_alloc ?_ _ | with_reducible refine bl_set ?_ ?_ _ | with_reducible refine bl_drewN ?_ _ | with_reducible refine bl_drew ?_ | with_reducible refine bl_call (by assumption) ?_)); (all_goals (first | omega | (simp; done) | (simp; omega))))⟩) | (go_roundw; (case rel => exact ⟨p + 1, by omega, by go_num, (by (repeat' (first | with_reducible exact bl_refl _ | with_reducible assumption | with_reducible refine bl_alloc ?_ _ | with_reducible refine bl_set ?_ ?_ _ | with_reducible refine bl_drewN ?_ _ | with_reducible refine bl_drew ?_ | with_reducible refine bl_call (by assumption) ?_)); (all_goals (first | omega | (simp; done) | (simp; omega))))⟩); (case measure => (simp [intOf]; omega))))
      · cases q1 : inB w 1 60
        · go_wp2_with (go_at_call 84; refine (inRange_any _ _ _ _).mono ?_; rintro e w' ⟨rfl, rfl⟩)
          go_ret
          exact ⟨bool_ret E.out.symm, hbl⟩
        · cases q2 : inB h 1 60
          · go_wp2_with (go_at_call 84; refine (inRange_any _ _ _ _).mono ?_; rintro e w' ⟨rfl, rfl⟩)
            go_ret
            exact ⟨bool_ret E.out.symm, hbl⟩
          · exact (HQ.out q1 q2).elim
theorem ValidPlaced_s (u : World) (A : Option Addr) (n c : Nat) (w h : Int) (L : List Pl) (ha : TL u A n L) (hs : PSm L) (hn : n ≤ 4611686018427387904) (wf1 : (Lit.int .i64 w).wf = true) (wf2 : (Lit.int .i64 h).wf = true) :
    Calls Try.prog 38 #[.slice A n c, .int .i64 w, .int .i64 h] u fun e u' => e = .returned (.bool (pls L w h)) ∧ Below u.heap.size u u' := by
  have HI := hide ha
  have HS := hide hs
  clear ha hs
  go_enter Try.func38, Try.ntmps38
  go_wp2_with fail
  (with_reducible refine (validPlaced_s _ _ _ _ w h L HI.out HS.out hn wf1 wf2).mono ?_)
  rintro e u1 ⟨rfl, hb⟩
  go_wp2
  go_ret
  exact ⟨rfl, hb⟩
end Go.Proofs.Ytpgcpmfnidjhnaa
