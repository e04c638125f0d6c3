/- Whether figures are valid. -/
import Derived.Test.YtkclecfjpabplaaGlue
import Derived.Test.YtkclecfjpabplaaRec2
import Derived.IntWalk
namespace Go.Proofs.Ytkclecfjpabplaa
open Go.ChangeShapes Go.WideShapes Go.ChangeAt Go.RowKit
set_option linter.unusedVariables false
open Classical

/-- The page of the figure before the j-th one, 0 before the first. -/
def pf (L : List Du) : Nat → Int
  | 0 => 0
  | j + 1 => (tg L j).b
def fgk (L : List Du) (j : Nat) : Prop := (1 ≤ (tg L j).a ∧ (tg L j).a ≤ 1000) ∧ (0 ≤ (tg L j).b ∧ (tg L j).b ≤ 11) ∧ pf L j ≤ (tg L j).b
def FTo (L : List Du) (k : Nat) : Prop := ∀ j, j < k → fgk L j
theorem FTo.zero (L : List Du) : FTo L 0 := fun i h => by omega
theorem FTo.step {L : List Du} {k : Nat} (h : FTo L k) (hk : fgk L k) : FTo L (k + 1) := fun i hi => by
  rcases (by omega : i < k ∨ i = k) with e | e
  · exact h i e
  · rw [e]; exact hk
theorem FTo.pf {L : List Du} {k : Nat} (h : FTo L k) : 0 ≤ pf L k ∧ pf L k ≤ 11 := by
  cases k with
  | zero => simp [Go.Proofs.Ytkclecfjpabplaa.pf]
  | succ k => exact (h k (by omega)).2.1
noncomputable def fgok (L : List Du) : Bool := decide (L.length ≤ 10 ∧ FTo L L.length)
theorem fgok_iff {L : List Du} : fgok L = true ↔ L.length ≤ 10 ∧ FTo L L.length := ⟨of_decide_eq_true, decide_eq_true⟩
theorem fgok_no {L : List Du} (h : ¬ (L.length ≤ 10 ∧ FTo L L.length)) : fgok L = false := decide_eq_false h
theorem fgok_bad {L : List Du} {k : Nat} (hk : k < L.length) (h : ¬ fgk L k) : fgok L = false := fgok_no fun x => h (x.2 k hk)

theorem inR {n l h : Int} {b : Bool} (q : inB n l h = b) (w : World) : Calls Try.prog 69 #[.int .i64 n, .int .i64 l, .int .i64 h] w fun e w' => e = .returned (.bool b) ∧ w' = w := by
  rw [← q]
  exact (inRange_any n l h w).mono fun _ _ h => ⟨h.1, h.2.symm⟩
set_option maxHeartbeats 2000000 in
theorem validFloats_s (w : World) (A : Option Addr) (n c : Nat) (L : List Du) (h : TL w A n L) (hn : n ≤ 4611686018427387904) :
    Calls Try.prog 74 #[.slice A n c] w fun e w' => e = .returned (.bool (fgok L)) ∧ ∃ j, w.drewN j = w' := by
  obtain rfl : n = L.length := h.1
  have HI := hide h
  clear h
  go_enter Try.func74, Try.ntmps74
  go_wp2
  go_loopw [3] (fun i u => ∃ p j : Nat, p ≤ L.length ∧ i = .int .i64 p ∧ FTo L p ∧ u = w.drewN j) (fun i _ => L.length - (intOf i).toNat)
  case atStart => exact ⟨0, 0, by omega, rfl, FTo.zero _, rfl⟩
  case round =>
    obtain ⟨p, j, hp, rfl, hpo, rfl⟩ := hrel
    have HP := hide hpo
    clear hpo
    by_cases hlt : p < L.length
    · obtain ⟨b, o, rfl, hb0, c0, c1⟩ := HI.out.at2 hlt
      have BAD := hide (fun h => fgok_bad (L := L) hlt h)
      have NXT := hide (fun h => HP.out.step (k := p) h)
      unfold fgk at BAD NXT
      obtain ⟨X, hX⟩ : ∃ X, X = (tg L p).a := ⟨_, rfl⟩
      obtain ⟨Y, hY⟩ : ∃ Y, Y = (tg L p).b := ⟨_, rfl⟩
      rw [← hX] at c0
      rw [← hY] at c1
      rw [← hX, ← hY] at BAD NXT
      clear hX hY
      cases q1 : inB X 1 1000
      · have E := hide (BAD.out (fun x => by rw [inB_yes x.1.1 x.1.2] at q1; cases q1))
        clear BAD NXT
        ((go_wp2_with fail; go_quiet (first | (go_at_call 69; (with_reducible refine (inR q1 _).mono ?_); exact fun _ _ h => ⟨h.1, _, h.2⟩) | (go_at_call 69; (with_reducible refine (inR q2 _).mono ?_); exact fun _ _ h => ⟨h.1, _, h.2⟩))); go_wp2; go_ret; exact ⟨bool_ret E.out.symm, j + nq, by rw [World.drewN_drewN]⟩)
      have k1 := inB_iff.1 q1
      cases q2 : inB Y 0 11
      · have E := hide (BAD.out (fun x => by rw [inB_yes x.2.1.1 x.2.1.2] at q2; cases q2))
        clear BAD NXT k1
        ((go_wp2_with fail; go_quiet (first | (go_at_call 69; (with_reducible refine (inR q1 _).mono ?_); exact fun _ _ h => ⟨h.1, _, h.2⟩) | (go_at_call 69; (with_reducible refine (inR q2 _).mono ?_); exact fun _ _ h => ⟨h.1, _, h.2⟩))); go_wp2; go_ret; exact ⟨bool_ret E.out.symm, j + nq, by rw [World.drewN_drewN]⟩)
      have k2 := inB_iff.1 q2
      rcases Nat.eq_zero_or_pos p with hp0 | hp0
      · have M := hide (NXT.out ⟨k1, k2, by rw [hp0]; exact k2.1⟩)
        have d2 : decide ((0 : Int) < (p : Int)) = false := decide_eq_false (by omega)
        have d2' : decide (0 < p) = false := decide_eq_false (by omega)
        clear BAD NXT k1 k2 hp0
        ((go_wp2_with fail; go_quiet (first | (go_at_call 69; (with_reducible refine (inR q1 _).mono ?_); exact fun _ _ h => ⟨h.1, _, h.2⟩) | (go_at_call 69; (with_reducible refine (inR q2 _).mono ?_); exact fun _ _ h => ⟨h.1, _, h.2⟩))); go_wp2; go_roundw; (case rel => exact ⟨p + 1, _, by omega, by go_num, M.out, rfl⟩); (case measure => (simp [intOf]; omega)))
      · obtain ⟨k, hk⟩ : ∃ k, k = p - 1 := ⟨_, rfl⟩
        have ek : (p : Int) - 1 = (k : Int) := by omega
        have wk : IntKind.i64.wrap (k : Int) = (k : Int) := IntWalk.i64_in _ (by omega)
        have d2 : decide ((0 : Int) < (p : Int)) = true := decide_eq_true (by omega)
        have d2' : decide (0 < p) = true := decide_eq_true (by omega)
        obtain ⟨b', o', hA, hb', t0, t1⟩ := HI.out.at2 (i := k) (by omega)
        injection hA with hA
        cases hA
        have kl : k < L.length := by omega
        obtain ⟨T, hT⟩ : ∃ T, T = (tg L k).b := ⟨_, rfl⟩
        rw [← hT] at t1
        have PV : pf L p = T := by rw [hT, show p = k + 1 from by omega]; rfl
        rw [PV] at BAD NXT
        clear hk hT hp0 PV t0
        rcases (by omega : Y < T ∨ T ≤ Y) with h2 | h2
        · have E := hide (BAD.out (fun x => by omega))
          have d3 : decide (Y < T) = true := decide_eq_true h2
          clear BAD NXT k1 k2 h2
          ((go_wp2_with fail; go_quiet (first | (go_at_call 69; (with_reducible refine (inR q1 _).mono ?_); exact fun _ _ h => ⟨h.1, _, h.2⟩) | (go_at_call 69; (with_reducible refine (inR q2 _).mono ?_); exact fun _ _ h => ⟨h.1, _, h.2⟩))); go_wp2; go_ret; exact ⟨bool_ret E.out.symm, j + nq, by rw [World.drewN_drewN]⟩)
        · have M := hide (NXT.out ⟨k1, k2, h2⟩)
          have d3 : decide (Y < T) = false := decide_eq_false (by omega)
          clear BAD NXT k1 k2 h2
          ((go_wp2_with fail; go_quiet (first | (go_at_call 69; (with_reducible refine (inR q1 _).mono ?_); exact fun _ _ h => ⟨h.1, _, h.2⟩) | (go_at_call 69; (with_reducible refine (inR q2 _).mono ?_); exact fun _ _ h => ⟨h.1, _, h.2⟩))); go_wp2; go_roundw; (case rel => exact ⟨p + 1, _, by omega, by go_num, M.out, rfl⟩); (case measure => (simp [intOf]; omega)))
    · have ALL : FTo L L.length := by rw [show L.length = p from by omega]; exact HP.out
      rcases (by omega : L.length ≤ 10 ∨ 10 < L.length) with h | h
      · have E := hide (fgok_iff.2 ⟨h, ALL⟩)
        clear ALL
        go_wp2
        go_ret
        exact ⟨bool_ret (by rw [E.out]; simp; omega), _, rfl⟩
      · have E := hide (fgok_no (L := L) (fun x => by omega))
        clear ALL
        go_wp2
        go_ret
        exact ⟨bool_ret (by rw [E.out]; simp; omega), _, rfl⟩

set_option maxHeartbeats 1000000 in
theorem ValidFigures_i (w : World) (A : Option Addr) (n c : Nat) (L : List Du) (h : TL w A n L) (hn : n ≤ 4611686018427387904) :
    Calls Try.prog 72 #[.slice A n c] w fun e w' => e = .returned (.bool (fgok L)) ∧ Below w.heap.size w w' := by
  obtain rfl : n = L.length := h.1
  have HI := hide h
  clear h
  rcases (by omega : 10 < L.length ∨ L.length ≤ 10) with r | r
  · have E := hide (fgok_no (L := L) (fun x => by omega))
    go_enter Try.func72, Try.ntmps72
    go_wp2
    go_ret
    exact ⟨bool_ret E.out.symm, bl_refl _⟩
  go_enter Try.func72, Try.ntmps72
  go_wp2
  go_loopw [3, 11] (fun v i u => ∃ p : Nat, p ≤ L.length ∧ v = .int .i64 (pf L p) ∧ i = .int .i64 p ∧ FTo L p ∧ Below w.heap.size w u) (fun _ i _ => L.length - (intOf i).toNat)
  case atStart => exact ⟨0, by omega, rfl, rfl, FTo.zero _, bl_refl _⟩
  case round =>
    obtain ⟨p, hp, rfl, rfl, hpo, hbl⟩ := hrel
    have HP := hide hpo
    obtain ⟨y0, y1⟩ := hpo.pf
    obtain ⟨T, hT⟩ : ∃ T, T = pf L p := ⟨_, rfl⟩
    rw [← hT] at y0 y1
    rw [← hT]
    have HT := hide hT
    clear hpo hT
    by_cases hlt : p < L.length
    · obtain ⟨b, o, rfl, hb0, c0, c1⟩ := (HI.out.below hbl).at2 hlt
      have BAD := hide (fun h => fgok_bad (L := L) hlt h)
      have NXT := hide (fun h => HP.out.step (k := p) h)
      unfold fgk at BAD NXT
      obtain ⟨X, hX⟩ : ∃ X, X = (tg L p).a := ⟨_, rfl⟩
      obtain ⟨Y, hY⟩ : ∃ Y, Y = (tg L p).b := ⟨_, rfl⟩
      rw [← hX] at c0
      rw [← hY] at c1
      rw [← hX, ← hY, ← HT.out] at BAD NXT
      have HY := hide hY
      clear hX hY
      cases q1 : inB X 1 1000
      · have E := hide (BAD.out (fun x => by rw [inB_yes x.1.1 x.1.2] at q1; cases q1))
        clear BAD NXT
        go_wp2_with (go_at_call 65; refine (within_any _ _ _ _).mono ?_; rintro e w' ⟨rfl, rfl⟩)
        (go_ret; exact ⟨bool_ret E.out.symm, (by (repeat' (first | with_reducible exact bl_refl _ | with_reducible assumption | with_reducible refine bl_alloc ?_ _ | with_reducible refine bl_set ?_ ?_ _ | with_reducible refine bl_drewN ?_ _ | with_reducible refine bl_drew ?_ | with_reducible refine bl_call (by assumption) ?_)); (all_goals (first | omega | (simp; done) | (simp; omega))))⟩)
      have k1 := inB_iff.1 q1
      cases q2 : inB Y T 11
      · have E := hide (BAD.out (fun x => by rw [inB_yes x.2.2 x.2.1.2] at q2; cases q2))
        clear BAD NXT k1
        go_wp2_with (go_at_call 65; refine (within_any _ _ _ _).mono ?_; rintro e w' ⟨rfl, rfl⟩)
        (go_ret; exact ⟨bool_ret E.out.symm, (by (repeat' (first | with_reducible exact bl_refl _ | with_reducible assumption | with_reducible refine bl_alloc ?_ _ | with_reducible refine bl_set ?_ ?_ _ | with_reducible refine bl_drewN ?_ _ | with_reducible refine bl_drew ?_ | with_reducible refine bl_call (by assumption) ?_)); (all_goals (first | omega | (simp; done) | (simp; omega))))⟩)
      · have k2 := inB_iff.1 q2
        have M := hide (NXT.out ⟨k1, by omega, k2.1⟩)
        clear BAD NXT k1 k2
        go_wp2_with (go_at_call 65; refine (within_any _ _ _ _).mono ?_; rintro e w' ⟨rfl, rfl⟩)
        go_roundw
        case rel => exact ⟨p + 1, by omega, by rw [HY.out]; rfl, by go_num, M.out, (by (repeat' (first | with_reducible exact bl_refl _ | with_reducible assumption | with_reducible refine bl_alloc ?_ _ | with_reducible refine bl_set ?_ ?_ _ | with_reducible refine bl_drewN ?_ _ | with_reducible refine bl_drew ?_ | with_reducible refine bl_call (by assumption) ?_)); (all_goals (first | omega | (simp; done) | (simp; omega))))⟩
        case measure => simp [intOf]; omega
    · have ALL : FTo L L.length := by rw [show L.length = p from by omega]; exact HP.out
      have E := hide (fgok_iff.2 ⟨r, ALL⟩)
      clear ALL
      go_wp2
      go_ret
      exact ⟨bool_ret E.out.symm, hbl⟩
end Go.Proofs.Ytkclecfjpabplaa
