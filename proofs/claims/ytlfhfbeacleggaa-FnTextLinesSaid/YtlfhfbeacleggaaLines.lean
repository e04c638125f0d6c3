/- Lines of a text: whether they are valid, and the height of a page. -/
import Derived.Test.YtlfhfbeacleggaaGlue
import Derived.Test.YtlfhfbeacleggaaRec3
import Derived.Test.YtlfhfbeacleggaaSub
namespace Go.Proofs.Ytlfhfbeacleggaa
open Go.ChangeShapes Go.WideShapes Go.ChangeAt Go.RowKit
set_option linter.unusedVariables false
open Classical

def lnk (x : Gp) : Bool := inB x.a 1 1000 && (inB x.b 0 1000 && inB x.v 0 1000)
theorem lnk_iff {x : Gp} : lnk x = true ↔ (1 ≤ x.a ∧ x.a ≤ 1000) ∧ (0 ≤ x.b ∧ x.b ≤ 1000) ∧ (0 ≤ x.v ∧ x.v ≤ 1000) := by simp [lnk, inB]
def LTo (L : List Gp) (k : Nat) : Prop := ∀ i, i < k → lnk (tg L i) = true
theorem LTo.zero (L : List Gp) : LTo L 0 := fun i h => by omega
theorem LTo.step {L : List Gp} {k : Nat} (h : LTo L k) (hk : lnk (tg L k) = true) : LTo L (k + 1) := fun i hi => by
  rcases (by omega : i < k ∨ i = k) with e | e
  · exact h i e
  · rw [e]; exact hk
noncomputable def lok (L : List Gp) : Bool := decide ((1 ≤ L.length ∧ L.length ≤ 40) ∧ LTo L L.length)
theorem lok_iff {L : List Gp} : lok L = true ↔ (1 ≤ L.length ∧ L.length ≤ 40) ∧ LTo L L.length := ⟨of_decide_eq_true, decide_eq_true⟩
theorem lok_no {L : List Gp} (h : ¬ ((1 ≤ L.length ∧ L.length ≤ 40) ∧ LTo L L.length)) : lok L = false := decide_eq_false h
theorem lok_bad {L : List Gp} {k : Nat} (hk : k < L.length) (h : lnk (tg L k) = false) : lok L = false := lok_no fun x => by
  have := x.2 k hk
  rw [h] at this
  cases this


set_option maxHeartbeats 1000000 in
theorem ValidLines_i (w : World) (A : Option Addr) (n c : Nat) (L : List Gp) (h : TL w A n L) (hn : n ≤ 4611686018427387904) :
    Calls Try.prog 40 #[.slice A n c] w fun e w' => e = .returned (.bool (lok L)) ∧ Below w.heap.size w w' := by
  obtain rfl : n = L.length := h.1
  have HI := hide h
  clear h
  cases q : inB (L.length : Int) 1 40
  · have E := hide (lok_no (L := L) (fun x => by rw [inB_yes (by omega) (by omega)] at q; cases q))
    go_enter Try.func40, Try.ntmps40
    go_wp2_with (go_at_call 89; refine (within_any _ _ _ _).mono ?_; rintro e w' ⟨rfl, rfl⟩)
    go_ret
    exact ⟨bool_ret E.out.symm, bl_refl _⟩
  have r := inB_iff.1 q
  go_enter Try.func40, Try.ntmps40
  go_wp2_with (go_at_call 89; refine (within_any _ _ _ _).mono ?_; rintro e w' ⟨rfl, rfl⟩)
  go_loopw [11] (fun i u => ∃ p : Nat, p ≤ L.length ∧ i = .int .i64 p ∧ LTo L p ∧ Below w.heap.size w u) (fun i _ => L.length - (intOf i).toNat)
  case atStart => exact ⟨0, by omega, rfl, LTo.zero _, bl_refl _⟩
  case round =>
    obtain ⟨p, hp, rfl, hpo, hbl⟩ := hrel
    have HP := hide hpo
    clear hpo
    by_cases hlt : p < L.length
    · obtain ⟨b, o, rfl, hb0, hcell⟩ := (HI.out.below hbl).at_ hlt
      obtain ⟨X, Y, Z, hx⟩ : ∃ X Y Z, tg L p = ⟨X, Y, Z⟩ := ⟨(tg L p).a, (tg L p).b, (tg L p).v, rfl⟩
      have c0 : wr.cell? ⟨b, o + p * 3, none⟩ = some (.int .i64 X) := by have := hcell 0 (by decide); rw [hx] at this; exact this
      have c1 : wr.cell? ⟨b, o + p * 3 + 1, none⟩ = some (.int .i64 Y) := by have := hcell 1 (by decide); rw [hx] at this; exact this
      have c2 : wr.cell? ⟨b, o + p * 3 + 2, none⟩ = some (.int .i64 Z) := by have := hcell 2 (by decide); rw [hx] at this; exact this
      have e0 : lnk (tg L p) = (inB X 1 1000 && (inB Y 0 1000 && inB Z 0 1000)) := by rw [hx]; rfl
      clear hx hcell
      cases q1 : inB X 1 1000
      · have E := hide (lok_bad hlt (by rw [e0, q1]; rfl))
        clear e0
        go_wp2_with (go_at_call 89; refine (within_any _ _ _ _).mono ?_; rintro e w' ⟨rfl, rfl⟩)
        (go_ret; exact ⟨bool_ret E.out.symm, (by (repeat' (first | with_reducible exact bl_refl _ | with_reducible assumption | with_reducible refine bl_alloc ?_ _ | with_reducible refine bl_set ?_ ?_ _ | with_reducible refine bl_drewN ?_ _ | with_reducible refine bl_drew ?_ | with_reducible refine bl_call (by assumption) ?_)); (all_goals (first | omega | (simp; done) | (simp; omega))))⟩)
      cases q2 : inB Y 0 1000
      · have E := hide (lok_bad hlt (by rw [e0, q1, q2]; rfl))
        clear e0
        go_wp2_with (go_at_call 89; refine (within_any _ _ _ _).mono ?_; rintro e w' ⟨rfl, rfl⟩)
        (go_ret; exact ⟨bool_ret E.out.symm, (by (repeat' (first | with_reducible exact bl_refl _ | with_reducible assumption | with_reducible refine bl_alloc ?_ _ | with_reducible refine bl_set ?_ ?_ _ | with_reducible refine bl_drewN ?_ _ | with_reducible refine bl_drew ?_ | with_reducible refine bl_call (by assumption) ?_)); (all_goals (first | omega | (simp; done) | (simp; omega))))⟩)
      cases q3 : inB Z 0 1000
      · have E := hide (lok_bad hlt (by rw [e0, q1, q2, q3]; rfl))
        clear e0
        go_wp2_with (go_at_call 89; refine (within_any _ _ _ _).mono ?_; rintro e w' ⟨rfl, rfl⟩)
        (go_ret; exact ⟨bool_ret E.out.symm, (by (repeat' (first | with_reducible exact bl_refl _ | with_reducible assumption | with_reducible refine bl_alloc ?_ _ | with_reducible refine bl_set ?_ ?_ _ | with_reducible refine bl_drewN ?_ _ | with_reducible refine bl_drew ?_ | with_reducible refine bl_call (by assumption) ?_)); (all_goals (first | omega | (simp; done) | (simp; omega))))⟩)
      · have M := hide (HP.out.step (k := p) (by rw [e0, q1, q2, q3]; rfl))
        clear e0
        go_wp2_with (go_at_call 89; refine (within_any _ _ _ _).mono ?_; rintro e w' ⟨rfl, rfl⟩)
        go_roundw
        case rel => exact ⟨p + 1, by omega, by go_num, M.out, (by (repeat' (first | with_reducible exact bl_refl _ | with_reducible assumption | with_reducible refine bl_alloc ?_ _ | with_reducible refine bl_set ?_ ?_ _ | with_reducible refine bl_drewN ?_ _ | with_reducible refine bl_drew ?_ | with_reducible refine bl_call (by assumption) ?_)); (all_goals (first | omega | (simp; done) | (simp; omega))))⟩
        case measure => simp [intOf]; omega
    · have ALL : LTo L L.length := by rw [show L.length = p from by omega]; exact HP.out
      have E := hide (lok_iff.2 ⟨by omega, ALL⟩)
      clear ALL
      go_wp2
      go_ret
      exact ⟨bool_ret E.out.symm, hbl⟩

/-- Sums of heights and of notes of k lines from line f on. -/
def hs (L : List Gp) (f : Nat) : Nat → Int
  | 0 => 0
  | k + 1 => hs L f k + (tg L (f + k)).a
def ns (L : List Gp) (f : Nat) : Nat → Int
  | 0 => 0
  | k + 1 => ns L f k + (tg L (f + k)).b
theorem hs_bd {L : List Gp} {f k : Nat} (h : LTo L L.length) (hk : f + k ≤ L.length) : (0 ≤ hs L f k ∧ hs L f k ≤ 1000 * (k : Int)) ∧ (0 ≤ ns L f k ∧ ns L f k ≤ 1000 * (k : Int)) := by
  induction k with
  | zero => simp [hs, ns]
  | succ k ih =>
    have h1 := ih (by omega)
    obtain ⟨a1, a2, a3⟩ := lnk_iff.1 (h (f + k) (by omega))
    simp only [hs, ns]
    omega
def pgh (L : List Gp) (f k : Nat) : Int := hs L f k + (if 0 < ns L f k then ns L f k + 2 else 0)

/-- What PageHeight returns. -/
noncomputable def phv (L : List Gp) (f t : Int) : Int := if lok L && (inB f 0 t && inB t 0 L.length) then pgh L f.toNat (t - f).toNat else -1
theorem phv_no {L : List Gp} {f t : Int} (h : (lok L && (inB f 0 t && inB t 0 L.length)) = false) : phv L f t = -1 := by simp only [phv, h]; rfl
theorem phv_yes {L : List Gp} {f t : Nat} (h : (lok L && (inB f 0 t && inB t 0 L.length)) = true) : phv L f t = pgh L f (t - f) := by
  simp only [phv, h, if_true]
  rw [Int.toNat_natCast, show ((t : Int) - (f : Int)).toNat = t - f from by omega]

end Go.Proofs.Ytlfhfbeacleggaa
