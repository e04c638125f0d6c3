/- Lines of a text: whether they are valid, and the height of a page. -/
import Derived.Test.YtkclecfjpabplaaGlue
import Derived.Test.YtkclecfjpabplaaRec3
import Derived.Test.YtkclecfjpabplaaSub
namespace Go.Proofs.Ytkclecfjpabplaa
open Go.ChangeShapes Go.WideShapes Go.ChangeAt Go.RowKit
set_option linter.unusedVariables false
open Classical

def lnk (x : Gp) : Bool := inB x.a 1 1000 && (inB x.b 0 1000 && inB x.v 0 1000)
theorem lnk_iff {x : Gp} : lnk x = true ↔ (1 ≤ x.a ∧ x.a ≤ 1000) ∧ (0 ≤ x.b ∧ x.b ≤ 1000) ∧ (0 ≤ x.v ∧ x.v ≤ 1000) := by simp [lnk, inB]
def LTo (L : List Gp) (k : Nat) : Prop := ∀ i, i < k → lnk (tg L i) = true
theorem LTo.zero (L : List Gp) : LTo L 0 := fun i h => by omega
theorem LTo.step {L : List Gp} {k : Nat} (h : LTo L k) (hk : lnk (tg L k) = true) : LTo L (k + 1) := fun i hi => by
  rcases (by omega : i < k ∨ i = k) with e | e
  · exact h i e
  · rw [e]; exact hk
noncomputable def lok (L : List Gp) : Bool := decide ((1 ≤ L.length ∧ L.length ≤ 40) ∧ LTo L L.length)
theorem lok_iff {L : List Gp} : lok L = true ↔ (1 ≤ L.length ∧ L.length ≤ 40) ∧ LTo L L.length := ⟨of_decide_eq_true, decide_eq_true⟩
theorem lok_no {L : List Gp} (h : ¬ ((1 ≤ L.length ∧ L.length ≤ 40) ∧ LTo L L.length)) : lok L = false := decide_eq_false h
theorem lok_bad {L : List Gp} {k : Nat} (hk : k < L.length) (h : lnk (tg L k) = false) : lok L = false := lok_no fun x => by
  have := x.2 k hk
  rw [h] at this
  cases this

theorem validLines_s (w : World) (A : Option Addr) (n c : Nat) (L : List Gp) (h : TL w A n L) (hn : n ≤ 4611686018427387904) :
    Calls Try.prog 76 #[.slice A n c] w fun e w' => e = .returned (.bool (lok L)) ∧ w = w' := by
  obtain rfl : n = L.length := h.1
  have HI := hide h
  clear h
  go_enter Try.func76, Try.ntmps76
  go_wp2
  go_loop [3] (fun i => ∃ p : Nat, p ≤ L.length ∧ i = .int .i64 p ∧ LTo L p) (fun i => L.length - (intOf i).toNat)
  case atStart => exact ⟨0, by omega, rfl, LTo.zero _⟩
  case round =>
    obtain ⟨p, hp, rfl, hpo⟩ := hrel
    have HP := hide hpo
    clear hpo
    by_cases hlt : p < L.length
    · obtain ⟨b, o, rfl, hb0, hcell⟩ := HI.out.at_ hlt
      obtain ⟨X, Y, Z, hx⟩ : ∃ X Y Z, tg L p = ⟨X, Y, Z⟩ := ⟨(tg L p).a, (tg L p).b, (tg L p).v, rfl⟩
      have c0 : w.cell? ⟨b, o + p * 3, none⟩ = some (.int .i64 X) := by have := hcell 0 (by decide); rw [hx] at this; exact this
      have c1 : w.cell? ⟨b, o + p * 3 + 1, none⟩ = some (.int .i64 Y) := by have := hcell 1 (by decide); rw [hx] at this; exact this
      have c2 : w.cell? ⟨b, o + p * 3 + 2, none⟩ = some (.int .i64 Z) := by have := hcell 2 (by decide); rw [hx] at this; exact this
      have e0 : lnk (tg L p) = (inB X 1 1000 && (inB Y 0 1000 && inB Z 0 1000)) := by rw [hx]; rfl
      clear hx hcell
      cases q1 : inB X 1 1000
      · have E := hide (lok_bad hlt (by rw [e0, q1]; rfl))
        clear e0
        go_wp2_with (go_at_call 69; refine (inRange_any _ _ _ _).mono ?_; rintro e w' ⟨rfl, rfl⟩)
        go_ret
        exact ⟨bool_ret E.out.symm, rfl⟩
      cases q2 : inB Y 0 1000
      · have E := hide (lok_bad hlt (by rw [e0, q1, q2]; rfl))
        clear e0
        go_wp2_with (go_at_call 69; refine (inRange_any _ _ _ _).mono ?_; rintro e w' ⟨rfl, rfl⟩)
        go_ret
        exact ⟨bool_ret E.out.symm, rfl⟩
      cases q3 : inB Z 0 1000
      · have E := hide (lok_bad hlt (by rw [e0, q1, q2, q3]; rfl))
        clear e0
        go_wp2_with (go_at_call 69; refine (inRange_any _ _ _ _).mono ?_; rintro e w' ⟨rfl, rfl⟩)
        go_ret
        exact ⟨bool_ret E.out.symm, rfl⟩
      · have M := hide (HP.out.step (k := p) (by rw [e0, q1, q2, q3]; rfl))
        clear e0
        go_wp2_with (go_at_call 69; refine (inRange_any _ _ _ _).mono ?_; rintro e w' ⟨rfl, rfl⟩)
        go_round
        case rel => exact ⟨p + 1, by omega, by go_num, M.out⟩
        case measure => simp [intOf]; omega
    · have ALL : LTo L L.length := by rw [show L.length = p from by omega]; exact HP.out
      cases q : inB (L.length : Int) 1 40
      · have E := hide (lok_no (L := L) (fun x => by rw [inB_yes (by omega) (by omega)] at q; cases q))
        clear ALL
        go_wp2_with (go_at_call 69; refine (inRange_any _ _ _ _).mono ?_; rintro e w' ⟨rfl, rfl⟩)
        go_ret
        exact ⟨bool_ret E.out.symm, rfl⟩
      · have r := inB_iff.1 q
        have E := hide (lok_iff.2 ⟨by omega, ALL⟩)
        clear ALL
        go_wp2_with (go_at_call 69; refine (inRange_any _ _ _ _).mono ?_; rintro e w' ⟨rfl, rfl⟩)
        go_ret
        exact ⟨bool_ret E.out.symm, rfl⟩

set_option maxHeartbeats 1000000 in
theorem ValidLines_i (w : World) (A : Option Addr) (n c : Nat) (L : List Gp) (h : TL w A n L) (hn : n ≤ 4611686018427387904) :
    Calls Try.prog 54 #[.slice A n c] w fun e w' => e = .returned (.bool (lok L)) ∧ Below w.heap.size w w' := by
  obtain rfl : n = L.length := h.1
  have HI := hide h
  clear h
  cases q : inB (L.length : Int) 1 40
  · have E := hide (lok_no (L := L) (fun x => by rw [inB_yes (by omega) (by omega)] at q; cases q))
    go_enter Try.func54, Try.ntmps54
    go_wp2_with (go_at_call 65; refine (within_any _ _ _ _).mono ?_; rintro e w' ⟨rfl, rfl⟩)
    go_ret
    exact ⟨bool_ret E.out.symm, bl_refl _⟩
  have r := inB_iff.1 q
  go_enter Try.func54, Try.ntmps54
  go_wp2_with (go_at_call 65; refine (within_any _ _ _ _).mono ?_; rintro e w' ⟨rfl, rfl⟩)
  go_loopw [11] (fun i u => ∃ p : Nat, p ≤ L.length ∧ i = .int .i64 p ∧ LTo L p ∧ Below w.heap.size w u) (fun i _ => L.length - (intOf i).toNat)
  case atStart => exact ⟨0, by omega, rfl, LTo.zero _, bl_refl _⟩
  case round =>
    obtain ⟨p, hp, rfl, hpo, hbl⟩ := hrel
    have HP := hide hpo
    clear hpo
    by_cases hlt : p < L.length
    · obtain ⟨b, o, rfl, hb0, hcell⟩ := (HI.out.below hbl).at_ hlt
      obtain ⟨X, Y, Z, hx⟩ : ∃ X Y Z, tg L p = ⟨X, Y, Z⟩ := ⟨(tg L p).a, (tg L p).b, (tg L p).v, rfl⟩
      have c0 : wr.cell? ⟨b, o + p * 3, none⟩ = some (.int .i64 X) := by have := hcell 0 (by decide); rw [hx] at this; exact this
      have c1 : wr.cell? ⟨b, o + p * 3 + 1, none⟩ = some (.int .i64 Y) := by have := hcell 1 (by decide); rw [hx] at this; exact this
      have c2 : wr.cell? ⟨b, o + p * 3 + 2, none⟩ = some (.int .i64 Z) := by have := hcell 2 (by decide); rw [hx] at this; exact this
      have e0 : lnk (tg L p) = (inB X 1 1000 && (inB Y 0 1000 && inB Z 0 1000)) := by rw [hx]; rfl
      clear hx hcell
      cases q1 : inB X 1 1000
      · have E := hide (lok_bad hlt (by rw [e0, q1]; rfl))
        clear e0
        go_wp2_with (go_at_call 65; refine (within_any _ _ _ _).mono ?_; rintro e w' ⟨rfl, rfl⟩)
        (go_ret; exact ⟨bool_ret E.out.symm, (by (repeat' (first | with_reducible exact bl_refl _ | with_reducible assumption | with_reducible refine bl_alloc ?_ _ | with_reducible refine bl_set ?_ ?_ _ | with_reducible refine bl_drewN ?_ _ | with_reducible refine bl_drew ?_ | with_reducible refine bl_call (by assumption) ?_)); (all_goals (first | omega | (simp; done) | (simp; omega))))⟩)
      cases q2 : inB Y 0 1000
      · have E := hide (lok_bad hlt (by rw [e0, q1, q2]; rfl))
        clear e0
        go_wp2_with (go_at_call 65; refine (within_any _ _ _ _).mono ?_; rintro e w' ⟨rfl, rfl⟩)
        (go_ret; exact ⟨bool_ret E.out.symm, (by (repeat' (first | with_reducible exact bl_refl _ | with_reducible assumption | with_reducible refine bl_alloc ?_ _ | with_reducible refine bl_set ?_ ?_ _ | with_reducible refine bl_drewN ?_ _ | with_reducible refine bl_drew ?_ | with_reducible refine bl_call (by assumption) ?_)); (all_goals (first | omega | (simp; done) | (simp; omega))))⟩)
      cases q3 : inB Z 0 1000
      · have E := hide (lok_bad hlt (by rw [e0, q1, q2, q3]; rfl))
        clear e0
        go_wp2_with (go_at_call 65; refine (within_any _ _ _ _).mono ?_; rintro e w' ⟨rfl, rfl⟩)
        (go_ret; exact ⟨bool_ret E.out.symm, (by (repeat' (first | with_reducible exact bl_refl _ | with_reducible assumption | with_reducible refine bl_alloc ?_ _ | with_reducible refine bl_set ?_ ?_ _ | with_reducible refine bl_drewN ?_ _ | with_reducible refine bl_drew ?_ | with_reducible refine bl_call (by assumption) ?_)); (all_goals (first | omega | (simp; done) | (simp; omega))))⟩)
      · have M := hide (HP.out.step (k := p) (by rw [e0, q1, q2, q3]; rfl))
        clear e0
        go_wp2_with (go_at_call 65; refine (within_any _ _ _ _).mono ?_; rintro e w' ⟨rfl, rfl⟩)
        go_roundw
        case rel => exact ⟨p + 1, by omega, by go_num, M.out, (by (repeat' (first | with_reducible exact bl_refl _ | with_reducible assumption | with_reducible refine bl_alloc ?_ _ | with_reducible refine bl_set ?_ ?_ _ | with_reducible refine bl_drewN ?_ _ | with_reducible refine bl_drew ?_ | with_reducible refine bl_call (by assumption) ?_)); (all_goals (first | omega | (simp; done) | (simp; omega))))⟩
        case measure => simp [intOf]; omega
    · have ALL : LTo L L.length := by rw [show L.length = p from by omega]; exact HP.out
      have E := hide (lok_iff.2 ⟨by omega, ALL⟩)
      clear ALL
      go_wp2
      go_ret
      exact ⟨bool_ret E.out.symm, hbl⟩

/-- Sums of heights and of notes of k lines from line f on. -/
def hs (L : List Gp) (f : Nat) : Nat → Int
  | 0 => 0
  | k + 1 => hs L f k + (tg L (f + k)).a
def ns (L : List Gp) (f : Nat) : Nat → Int
  | 0 => 0
  | k + 1 => ns L f k + (tg L (f + k)).b
theorem hs_bd {L : List Gp} {f k : Nat} (h : LTo L L.length) (hk : f + k ≤ L.length) : (0 ≤ hs L f k ∧ hs L f k ≤ 1000 * (k : Int)) ∧ (0 ≤ ns L f k ∧ ns L f k ≤ 1000 * (k : Int)) := by
  induction k with
  | zero => simp [hs, ns]
  | succ k ih =>
    have h1 := ih (by omega)
    obtain ⟨a1, a2, a3⟩ := lnk_iff.1 (h (f + k) (by omega))
    simp only [hs, ns]
    omega
def pgh (L : List Gp) (f k : Nat) : Int := hs L f k + (if 0 < ns L f k then ns L f k + 2 else 0)

theorem pageHeight_s (w : World) (A : Option Addr) (n c f t : Nat) (L : List Gp) (h : TL w A n L) (hl : L.length ≤ 40) (hk : LTo L L.length) (hft : f ≤ t) (htl : t ≤ L.length) :
    Calls Try.prog 91 #[.slice A n c, .int .i64 f, .int .i64 t] w fun e w' => e = .returned (.int .i64 (pgh L f (t - f))) ∧ w = w' := by
  obtain rfl : n = L.length := h.1
  have HI := hide h
  have HK := hide hk
  clear h hk
  go_enter Try.func91, Try.ntmps91
  go_wp2
  go_loop [7, 8, 9] (fun x y i => ∃ k : Nat, f + k ≤ t ∧ i = .int .i64 ((f + k : Nat) : Int) ∧ x = .int .i64 (hs L f k) ∧ y = .int .i64 (ns L f k)) (fun _ _ i => t - (intOf i).toNat)
  case atStart => exact ⟨0, by omega, rfl, rfl, rfl⟩
  case round =>
    obtain ⟨k, hkt, rfl, rfl, rfl⟩ := hrel
    obtain ⟨⟨b1, b2⟩, b3, b4⟩ := hs_bd HK.out (show f + k ≤ L.length by omega)
    obtain ⟨p, hp⟩ : ∃ p, p = f + k := ⟨_, rfl⟩
    rw [← hp]
    obtain ⟨x, hx⟩ : ∃ x, x = hs L f k := ⟨_, rfl⟩
    obtain ⟨y, hy⟩ : ∃ y, y = ns L f k := ⟨_, rfl⟩
    rw [← hx] at b1 b2
    rw [← hy] at b3 b4
    rw [← hx, ← hy]
    have HX := hide hx
    have HY := hide hy
    have HPP := hide hp
    have x1 : x ≤ 40000 := by omega
    have y1 : y ≤ 40000 := by omega
    clear hx hy b2 b4
    by_cases hlt : p < t
    · obtain ⟨b, o, rfl, hb0, c0, c1, c2⟩ := HI.out.at3 (i := p) (by omega)
      obtain ⟨⟨a1, a2⟩, ⟨a3, a4⟩, _⟩ := lnk_iff.1 (HK.out p (by omega))
      obtain ⟨X, hX⟩ : ∃ X, X = (tg L p).a := ⟨_, rfl⟩
      obtain ⟨Y, hY⟩ : ∃ Y, Y = (tg L p).b := ⟨_, rfl⟩
      rw [← hX] at a1 a2 c0
      rw [← hY] at a3 a4 c1
      have HXX := hide hX
      have HYY := hide hY
      clear hp hX hY
      go_wp2
      go_round
      case rel => exact ⟨k + 1, by have := HPP.out; omega, by have := HPP.out; go_num, by rw [HX.out, HXX.out, HPP.out]; rfl, by rw [HY.out, HYY.out, HPP.out]; rfl⟩
      case measure => simp [intOf]; omega
    · have e : t - f = k := by omega
      rcases (by omega : y = 0 ∨ 0 < y) with h0 | h0
      · have E : Hid (pgh L f (t - f) = x) := hide (by rw [e, pgh, ← HX.out, ← HY.out, h0]; simp)
        have g : ¬ 0 < y := by omega
        clear hp e h0
        go_wp2
        go_ret
        exact ⟨int_ret E.out.symm, rfl⟩
      · have E : Hid (pgh L f (t - f) = x + y + 2) := hide (by rw [e, pgh, ← HX.out, ← HY.out, if_pos h0]; omega)
        clear hp e
        go_wp2
        go_ret
        exact ⟨int_ret E.out.symm, rfl⟩

theorem pageHeight_i (w : World) (A : Option Addr) (n c f : Nat) (M L : List Gp) (h : TL w A n M) (hn : n ≤ 40) (hM : ∀ i, i < n → tg M i = tg L (f + i)) (hk : LTo L L.length) (hft : f + n ≤ L.length) :
    Calls Try.prog 88 #[.slice A n c] w fun e w' => e = .returned (.int .i64 (pgh L f n)) ∧ Below w.heap.size w w' := by
  have HI := hide h
  have HK := hide hk
  have HM := hide hM
  clear h hk hM
  go_enter Try.func88, Try.ntmps88
  go_wp2
  go_loopw [3, 4, 9] (fun x y i u => ∃ k : Nat, k ≤ n ∧ i = .int .i64 k ∧ x = .int .i64 (hs L f k) ∧ y = .int .i64 (ns L f k) ∧ Below w.heap.size w u) (fun _ _ i _ => n - (intOf i).toNat)
  case atStart => exact ⟨0, by omega, rfl, rfl, rfl, bl_refl _⟩
  case round =>
    obtain ⟨k, hkt, rfl, rfl, rfl, hbl⟩ := hrel
    obtain ⟨⟨b1, b2⟩, b3, b4⟩ := hs_bd HK.out (show f + k ≤ L.length by omega)
    obtain ⟨x, hx⟩ : ∃ x, x = hs L f k := ⟨_, rfl⟩
    obtain ⟨y, hy⟩ : ∃ y, y = ns L f k := ⟨_, rfl⟩
    rw [← hx] at b1 b2
    rw [← hy] at b3 b4
    rw [← hx, ← hy]
    have HX := hide hx
    have HY := hide hy
    have x1 : x ≤ 40000 := by omega
    have y1 : y ≤ 40000 := by omega
    clear hx hy b2 b4
    by_cases hlt : k < n
    · obtain ⟨b, o, rfl, hb0, c0, c1, c2⟩ := (HI.out.below hbl).at3 (i := k) (by omega)
      rw [HM.out k hlt] at c0 c1 c2
      obtain ⟨⟨a1, a2⟩, ⟨a3, a4⟩, _⟩ := lnk_iff.1 (HK.out (f + k) (by omega))
      obtain ⟨X, hX⟩ : ∃ X, X = (tg L (f + k)).a := ⟨_, rfl⟩
      obtain ⟨Y, hY⟩ : ∃ Y, Y = (tg L (f + k)).b := ⟨_, rfl⟩
      rw [← hX] at a1 a2 c0
      rw [← hY] at a3 a4 c1
      have HXX := hide hX
      have HYY := hide hY
      clear hX hY
      go_wp2
      go_roundw
      case rel => exact ⟨k + 1, by omega, by go_num, by rw [HX.out, HXX.out]; rfl, by rw [HY.out, HYY.out]; rfl, (by (repeat' (first | with_reducible exact bl_refl _ | with_reducible assumption | with_reducible refine bl_alloc ?_ _ | with_reducible refine bl_set ?_ ?_ _ | with_reducible refine bl_drewN ?_ _ | with_reducible refine bl_drew ?_ | with_reducible refine bl_call (by assumption) ?_)); (all_goals (first | omega | (simp; done) | (simp; omega))))⟩
      case measure => simp [intOf]; omega
    · have e : n = k := by omega
      rcases (by omega : y = 0 ∨ 0 < y) with h0 | h0
      · have E : Hid (pgh L f n = x) := hide (by rw [e, pgh, ← HX.out, ← HY.out, h0]; simp)
        subst h0
        clear e
        go_wp2
        go_ret
        exact ⟨int_ret (by rw [E.out]), hbl⟩
      · have E : Hid (pgh L f n = x + (y + 2)) := hide (by rw [e, pgh, ← HX.out, ← HY.out, if_pos h0])
        clear e
        go_wp2
        go_ret
        exact ⟨int_ret E.out.symm, hbl⟩

/-- What PageHeight returns. -/
noncomputable def phv (L : List Gp) (f t : Int) : Int := if lok L && (inB f 0 t && inB t 0 L.length) then pgh L f.toNat (t - f).toNat else -1
theorem phv_no {L : List Gp} {f t : Int} (h : (lok L && (inB f 0 t && inB t 0 L.length)) = false) : phv L f t = -1 := by simp only [phv, h]; rfl
theorem phv_yes {L : List Gp} {f t : Nat} (h : (lok L && (inB f 0 t && inB t 0 L.length)) = true) : phv L f t = pgh L f (t - f) := by
  simp only [phv, h, if_true]
  rw [Int.toNat_natCast, show ((t : Int) - (f : Int)).toNat = t - f from by omega]

set_option maxHeartbeats 1000000 in
theorem PageHeight_i (w : World) (A : Option Addr) (n c : Nat) (L : List Gp) (f t : Int) (h : TL w A n L) (hn : n ≤ 4611686018427387904) (hnc : n ≤ c) :
    Calls Try.prog 50 #[.slice A n c, .int .i64 f, .int .i64 t] w fun e w' => e = .returned (.int .i64 (phv L f t)) ∧ Below w.heap.size w w' := by
  obtain rfl : n = L.length := h.1
  have HI := hide h
  clear h
  cases q1 : lok L
  · have E := hide (phv_no (L := L) (f := f) (t := t) (by rw [q1]; rfl))
    go_enter Try.func50, Try.ntmps50
    go_wp2_with (first | (go_at_call 54; (with_reducible refine (ValidLines_i _ _ _ _ L HI.out hn).mono ?_); rintro e w' ⟨rfl, hb⟩; (try (with_reducible have hb := bl_undrew hb)); obtain ⟨hc, hf⟩ := bcell hb; (try ((with_reducible have hq := bcell1 hb); obtain ⟨hc, hf⟩ := hq)); (try ((with_reducible have hq := bcell2 hb); obtain ⟨hc, hf⟩ := hq)); have hz := bl_sz hb; (try simp at hz); (try (have z0 : w.heap.size < w'.heap.size := (by omega); have y0 := Nat.le_of_lt z0)); (try (have z1 : w.heap.size + 1 < w'.heap.size := (by omega); have y1 := Nat.le_of_lt z1)); (try (have z2 : w.heap.size + 1 + 1 < w'.heap.size := (by omega); have y2 := Nat.le_of_lt z2)); (try (have z3 : w.heap.size + 1 + 1 + 1 < w'.heap.size := (by omega); have y3 := Nat.le_of_lt z3)); (try (have z4 : u1.heap.size < w'.heap.size := (by omega); have y4 := Nat.le_of_lt z4)); (try (have z5 : u1.heap.size + 1 < w'.heap.size := (by omega); have y5 := Nat.le_of_lt z5)); (try (have z6 : u2.heap.size < w'.heap.size := (by omega); have y6 := Nat.le_of_lt z6)); (try (have z7 : u2.heap.size + 1 < w'.heap.size := (by omega); have y7 := Nat.le_of_lt z7)); (try (have z8 : u3.heap.size < w'.heap.size := (by omega); have y8 := Nat.le_of_lt z8)); (try (have z9 : u3.heap.size + 1 < w'.heap.size := (by omega); have y9 := Nat.le_of_lt z9)); (try (have z10 : u4.heap.size < w'.heap.size := (by omega); have y10 := Nat.le_of_lt z10)); (try (have z11 : u4.heap.size + 1 < w'.heap.size := (by omega); have y11 := Nat.le_of_lt z11)); (try (have z12 : u5.heap.size < w'.heap.size := (by omega); have y12 := Nat.le_of_lt z12)); (try (have z13 : u5.heap.size + 1 < w'.heap.size := (by omega); have y13 := Nat.le_of_lt z13)); (try (have z14 : u6.heap.size < w'.heap.size := (by omega); have y14 := Nat.le_of_lt z14)); (try (have z15 : u6.heap.size + 1 < w'.heap.size := (by omega); have y15 := Nat.le_of_lt z15)); (try (have zg : g < w'.heap.size := (by omega); have yg := Nat.le_of_lt zg)); (try (have zc : wc.heap.size < w'.heap.size := (by omega); have yc := Nat.le_of_lt zc)); (try (have zd : wc.heap.size + 1 < w'.heap.size := (by omega); have yd := Nat.le_of_lt zd)); (first | (have _k := u7; clear _k; rename World => u8) | (have _k := u6; clear _k; rename World => u7) | (have _k := u5; clear _k; rename World => u6) | (have _k := u4; clear _k; rename World => u5) | (have _k := u3; clear _k; rename World => u4) | (have _k := u2; clear _k; rename World => u3) | (have _k := u1; clear _k; rename World => u2) | (rename World => u1))) | (go_at_call 65; refine (within_any _ _ _ _).mono ?_; rintro e w' ⟨rfl, rfl⟩))
    go_ret
    exact ⟨int_ret E.out.symm, (by (repeat' (first | with_reducible exact bl_refl _ | with_reducible assumption | with_reducible refine bl_alloc ?_ _ | with_reducible refine bl_set ?_ ?_ _ | with_reducible refine bl_drewN ?_ _ | with_reducible refine bl_drew ?_ | with_reducible refine bl_call (by assumption) ?_)); (all_goals (first | omega | (simp; done) | (simp; omega))))⟩
  cases q2 : inB f 0 t
  · have E := hide (phv_no (L := L) (f := f) (t := t) (by rw [q2, Bool.false_and, Bool.and_false]))
    go_enter Try.func50, Try.ntmps50
    go_wp2_with (first | (go_at_call 54; (with_reducible refine (ValidLines_i _ _ _ _ L HI.out hn).mono ?_); rintro e w' ⟨rfl, hb⟩; (try (with_reducible have hb := bl_undrew hb)); obtain ⟨hc, hf⟩ := bcell hb; (try ((with_reducible have hq := bcell1 hb); obtain ⟨hc, hf⟩ := hq)); (try ((with_reducible have hq := bcell2 hb); obtain ⟨hc, hf⟩ := hq)); have hz := bl_sz hb; (try simp at hz); (try (have z0 : w.heap.size < w'.heap.size := (by omega); have y0 := Nat.le_of_lt z0)); (try (have z1 : w.heap.size + 1 < w'.heap.size := (by omega); have y1 := Nat.le_of_lt z1)); (try (have z2 : w.heap.size + 1 + 1 < w'.heap.size := (by omega); have y2 := Nat.le_of_lt z2)); (try (have z3 : w.heap.size + 1 + 1 + 1 < w'.heap.size := (by omega); have y3 := Nat.le_of_lt z3)); (try (have z4 : u1.heap.size < w'.heap.size := (by omega); have y4 := Nat.le_of_lt z4)); (try (have z5 : u1.heap.size + 1 < w'.heap.size := (by omega); have y5 := Nat.le_of_lt z5)); (try (have z6 : u2.heap.size < w'.heap.size := (by omega); have y6 := Nat.le_of_lt z6)); (try (have z7 : u2.heap.size + 1 < w'.heap.size := (by omega); have y7 := Nat.le_of_lt z7)); (try (have z8 : u3.heap.size < w'.heap.size := (by omega); have y8 := Nat.le_of_lt z8)); (try (have z9 : u3.heap.size + 1 < w'.heap.size := (by omega); have y9 := Nat.le_of_lt z9)); (try (have z10 : u4.heap.size < w'.heap.size := (by omega); have y10 := Nat.le_of_lt z10)); (try (have z11 : u4.heap.size + 1 < w'.heap.size := (by omega); have y11 := Nat.le_of_lt z11)); (try (have z12 : u5.heap.size < w'.heap.size := (by omega); have y12 := Nat.le_of_lt z12)); (try (have z13 : u5.heap.size + 1 < w'.heap.size := (by omega); have y13 := Nat.le_of_lt z13)); (try (have z14 : u6.heap.size < w'.heap.size := (by omega); have y14 := Nat.le_of_lt z14)); (try (have z15 : u6.heap.size + 1 < w'.heap.size := (by omega); have y15 := Nat.le_of_lt z15)); (try (have zg : g < w'.heap.size := (by omega); have yg := Nat.le_of_lt zg)); (try (have zc : wc.heap.size < w'.heap.size := (by omega); have yc := Nat.le_of_lt zc)); (try (have zd : wc.heap.size + 1 < w'.heap.size := (by omega); have yd := Nat.le_of_lt zd)); (first | (have _k := u7; clear _k; rename World => u8) | (have _k := u6; clear _k; rename World => u7) | (have _k := u5; clear _k; rename World => u6) | (have _k := u4; clear _k; rename World => u5) | (have _k := u3; clear _k; rename World => u4) | (have _k := u2; clear _k; rename World => u3) | (have _k := u1; clear _k; rename World => u2) | (rename World => u1))) | (go_at_call 65; refine (within_any _ _ _ _).mono ?_; rintro e w' ⟨rfl, rfl⟩))
    go_ret
    exact ⟨int_ret E.out.symm, (by (repeat' (first | with_reducible exact bl_refl _ | with_reducible assumption | with_reducible refine bl_alloc ?_ _ | with_reducible refine bl_set ?_ ?_ _ | with_reducible refine bl_drewN ?_ _ | with_reducible refine bl_drew ?_ | with_reducible refine bl_call (by assumption) ?_)); (all_goals (first | omega | (simp; done) | (simp; omega))))⟩
  cases q3 : inB t 0 (L.length : Int)
  · have E := hide (phv_no (L := L) (f := f) (t := t) (by rw [q3, Bool.and_false, Bool.and_false]))
    go_enter Try.func50, Try.ntmps50
    go_wp2_with (first | (go_at_call 54; (with_reducible refine (ValidLines_i _ _ _ _ L HI.out hn).mono ?_); rintro e w' ⟨rfl, hb⟩; (try (with_reducible have hb := bl_undrew hb)); obtain ⟨hc, hf⟩ := bcell hb; (try ((with_reducible have hq := bcell1 hb); obtain ⟨hc, hf⟩ := hq)); (try ((with_reducible have hq := bcell2 hb); obtain ⟨hc, hf⟩ := hq)); have hz := bl_sz hb; (try simp at hz); (try (have z0 : w.heap.size < w'.heap.size := (by omega); have y0 := Nat.le_of_lt z0)); (try (have z1 : w.heap.size + 1 < w'.heap.size := (by omega); have y1 := Nat.le_of_lt z1)); (try (have z2 : w.heap.size + 1 + 1 < w'.heap.size := (by omega); have y2 := Nat.le_of_lt z2)); (try (have z3 : w.heap.size + 1 + 1 + 1 < w'.heap.size := (by omega); have y3 := Nat.le_of_lt z3)); (try (have z4 : u1.heap.size < w'.heap.size := (by omega); have y4 := Nat.le_of_lt z4)); (try (have z5 : u1.heap.size + 1 < w'.heap.size := (by omega); have y5 := Nat.le_of_lt z5)); (try (have z6 : u2.heap.size < w'.heap.size := (by omega); have y6 := Nat.le_of_lt z6)); (try (have z7 : u2.heap.size + 1 < w'.heap.size := (by omega); have y7 := Nat.le_of_lt z7)); (try (have z8 : u3.heap.size < w'.heap.size := (by omega); have y8 := Nat.le_of_lt z8)); (try (have z9 : u3.heap.size + 1 < w'.heap.size := (by omega); have y9 := Nat.le_of_lt z9)); (try (have z10 : u4.heap.size < w'.heap.size := (by omega); have y10 := Nat.le_of_lt z10)); (try (have z11 : u4.heap.size + 1 < w'.heap.size := (by omega); have y11 := Nat.le_of_lt z11)); (try (have z12 : u5.heap.size < w'.heap.size := (by omega); have y12 := Nat.le_of_lt z12)); (try (have z13 : u5.heap.size + 1 < w'.heap.size := (by omega); have y13 := Nat.le_of_lt z13)); (try (have z14 : u6.heap.size < w'.heap.size := (by omega); have y14 := Nat.le_of_lt z14)); (try (have z15 : u6.heap.size + 1 < w'.heap.size := (by omega); have y15 := Nat.le_of_lt z15)); (try (have zg : g < w'.heap.size := (by omega); have yg := Nat.le_of_lt zg)); (try (have zc : wc.heap.size < w'.heap.size := (by omega); have yc := Nat.le_of_lt zc)); (try (have zd : wc.heap.size + 1 < w'.heap.size := (by omega); have yd := Nat.le_of_lt zd)); (first | (have _k := u7; clear _k; rename World => u8) | (have _k := u6; clear _k; rename World => u7) | (have _k := u5; clear _k; rename World => u6) | (have _k := u4; clear _k; rename World => u5) | (have _k := u3; clear _k; rename World => u4) | (have _k := u2; clear _k; rename World => u3) | (have _k := u1; clear _k; rename World => u2) | (rename World => u1))) | (go_at_call 65; refine (within_any _ _ _ _).mono ?_; rintro e w' ⟨rfl, rfl⟩))
    go_ret
    exact ⟨int_ret E.out.symm, (by (repeat' (first | with_reducible exact bl_refl _ | with_reducible assumption | with_reducible refine bl_alloc ?_ _ | with_reducible refine bl_set ?_ ?_ _ | with_reducible refine bl_drewN ?_ _ | with_reducible refine bl_drew ?_ | with_reducible refine bl_call (by assumption) ?_)); (all_goals (first | omega | (simp; done) | (simp; omega))))⟩
  · obtain ⟨h1, h2⟩ := inB_iff.1 q2
    obtain ⟨h4, h3⟩ := inB_iff.1 q3
    obtain ⟨f, rfl⟩ := Int.eq_ofNat_of_zero_le h1
    obtain ⟨t, rfl⟩ := Int.eq_ofNat_of_zero_le h4
    have E := hide (phv_yes (L := L) (f := f) (t := t) (by rw [q1, q2, q3]; rfl))
    obtain ⟨⟨l0, l1⟩, l2⟩ := lok_iff.1 q1
    obtain ⟨b, o, hA, hb0, hcell⟩ := HI.out.at_ (i := 0) (by omega)
    subst hA
    have h2' : f ≤ t := by omega
    have h3' : t ≤ L.length := by omega
    have l3 : t - f ≤ 40 := by omega
    have l4 : f + (t - f) ≤ L.length := by omega
    have hftc : t ≤ c := by omega
    have CAST : Hid ((t : Int) - (f : Int) = ((t - f : Nat) : Int)) := hide (by omega)
    rcases (by omega : f = c ∨ f < c) with hfc | hfc
    · have e0 : t - f = 0 := by omega
      have PH := hide (fun (u : World) (A : Option Addr) (d : Nat) => pageHeight_i u A 0 d f [] L (TL.nil _ _) (by omega) (fun i hi => by omega) l2 (by omega))
      have E := hide (E.out.trans (by rw [e0]))
      subst hfc
      clear hcell l2 h1 h4 l4 e0
      go_enter Try.func50, Try.ntmps50
      go_wp2_with (first | (go_at_call 54; (with_reducible refine (ValidLines_i _ _ _ _ L HI.out hn).mono ?_); rintro e w' ⟨rfl, hb⟩; (try (with_reducible have hb := bl_undrew hb)); obtain ⟨hc, hf⟩ := bcell hb; (try ((with_reducible have hq := bcell1 hb); obtain ⟨hc, hf⟩ := hq)); (try ((with_reducible have hq := bcell2 hb); obtain ⟨hc, hf⟩ := hq)); have hz := bl_sz hb; (try simp at hz); (try (have z0 : w.heap.size < w'.heap.size := (by omega); have y0 := Nat.le_of_lt z0)); (try (have z1 : w.heap.size + 1 < w'.heap.size := (by omega); have y1 := Nat.le_of_lt z1)); (try (have z2 : w.heap.size + 1 + 1 < w'.heap.size := (by omega); have y2 := Nat.le_of_lt z2)); (try (have z3 : w.heap.size + 1 + 1 + 1 < w'.heap.size := (by omega); have y3 := Nat.le_of_lt z3)); (try (have z4 : u1.heap.size < w'.heap.size := (by omega); have y4 := Nat.le_of_lt z4)); (try (have z5 : u1.heap.size + 1 < w'.heap.size := (by omega); have y5 := Nat.le_of_lt z5)); (try (have z6 : u2.heap.size < w'.heap.size := (by omega); have y6 := Nat.le_of_lt z6)); (try (have z7 : u2.heap.size + 1 < w'.heap.size := (by omega); have y7 := Nat.le_of_lt z7)); (try (have z8 : u3.heap.size < w'.heap.size := (by omega); have y8 := Nat.le_of_lt z8)); (try (have z9 : u3.heap.size + 1 < w'.heap.size := (by omega); have y9 := Nat.le_of_lt z9)); (try (have z10 : u4.heap.size < w'.heap.size := (by omega); have y10 := Nat.le_of_lt z10)); (try (have z11 : u4.heap.size + 1 < w'.heap.size := (by omega); have y11 := Nat.le_of_lt z11)); (try (have z12 : u5.heap.size < w'.heap.size := (by omega); have y12 := Nat.le_of_lt z12)); (try (have z13 : u5.heap.size + 1 < w'.heap.size := (by omega); have y13 := Nat.le_of_lt z13)); (try (have z14 : u6.heap.size < w'.heap.size := (by omega); have y14 := Nat.le_of_lt z14)); (try (have z15 : u6.heap.size + 1 < w'.heap.size := (by omega); have y15 := Nat.le_of_lt z15)); (try (have zg : g < w'.heap.size := (by omega); have yg := Nat.le_of_lt zg)); (try (have zc : wc.heap.size < w'.heap.size := (by omega); have yc := Nat.le_of_lt zc)); (try (have zd : wc.heap.size + 1 < w'.heap.size := (by omega); have yd := Nat.le_of_lt zd)); (first | (have _k := u7; clear _k; rename World => u8) | (have _k := u6; clear _k; rename World => u7) | (have _k := u5; clear _k; rename World => u6) | (have _k := u4; clear _k; rename World => u5) | (have _k := u3; clear _k; rename World => u4) | (have _k := u2; clear _k; rename World => u3) | (have _k := u1; clear _k; rename World => u2) | (rename World => u1))) | (go_at_call 65; refine (within_any _ _ _ _).mono ?_; rintro e w' ⟨rfl, rfl⟩) | (go_at_call 88; (with_reducible refine (PH.out _ _ _).mono ?_); rintro e w' ⟨rfl, hb⟩; (try (with_reducible have hb := bl_undrew hb)); obtain ⟨hc, hf⟩ := bcell hb; (try ((with_reducible have hq := bcell1 hb); obtain ⟨hc, hf⟩ := hq)); (try ((with_reducible have hq := bcell2 hb); obtain ⟨hc, hf⟩ := hq)); have hz := bl_sz hb; (try simp at hz); (try (have z0 : w.heap.size < w'.heap.size := (by omega); have y0 := Nat.le_of_lt z0)); (try (have z1 : w.heap.size + 1 < w'.heap.size := (by omega); have y1 := Nat.le_of_lt z1)); (try (have z2 : w.heap.size + 1 + 1 < w'.heap.size := (by omega); have y2 := Nat.le_of_lt z2)); (try (have z3 : w.heap.size + 1 + 1 + 1 < w'.heap.size := (by omega); have y3 := Nat.le_of_lt z3)); (try (have z4 : u1.heap.size < w'.heap.size := (by omega); have y4 := Nat.le_of_lt z4)); (try (have z5 : u1.heap.size + 1 < w'.heap.size := (by omega); have y5 := Nat.le_of_lt z5)); (try (have z6 : u2.heap.size < w'.heap.size := (by omega); have y6 := Nat.le_of_lt z6)); (try (have z7 : u2.heap.size + 1 < w'.heap.size := (by omega); have y7 := Nat.le_of_lt z7)); (try (have z8 : u3.heap.size < w'.heap.size := (by omega); have y8 := Nat.le_of_lt z8)); (try (have z9 : u3.heap.size + 1 < w'.heap.size := (by omega); have y9 := Nat.le_of_lt z9)); (try (have z10 : u4.heap.size < w'.heap.size := (by omega); have y10 := Nat.le_of_lt z10)); (try (have z11 : u4.heap.size + 1 < w'.heap.size := (by omega); have y11 := Nat.le_of_lt z11)); (try (have z12 : u5.heap.size < w'.heap.size := (by omega); have y12 := Nat.le_of_lt z12)); (try (have z13 : u5.heap.size + 1 < w'.heap.size := (by omega); have y13 := Nat.le_of_lt z13)); (try (have z14 : u6.heap.size < w'.heap.size := (by omega); have y14 := Nat.le_of_lt z14)); (try (have z15 : u6.heap.size + 1 < w'.heap.size := (by omega); have y15 := Nat.le_of_lt z15)); (try (have zg : g < w'.heap.size := (by omega); have yg := Nat.le_of_lt zg)); (try (have zc : wc.heap.size < w'.heap.size := (by omega); have yc := Nat.le_of_lt zc)); (try (have zd : wc.heap.size + 1 < w'.heap.size := (by omega); have yd := Nat.le_of_lt zd)); (first | (have _k := u7; clear _k; rename World => u8) | (have _k := u6; clear _k; rename World => u7) | (have _k := u5; clear _k; rename World => u6) | (have _k := u4; clear _k; rename World => u5) | (have _k := u3; clear _k; rename World => u4) | (have _k := u2; clear _k; rename World => u3) | (have _k := u1; clear _k; rename World => u2) | (rename World => u1))))
      go_ret
      exact ⟨int_ret E.out.symm, (by (repeat' (first | with_reducible exact bl_refl _ | with_reducible assumption | with_reducible refine bl_alloc ?_ _ | with_reducible refine bl_set ?_ ?_ _ | with_reducible refine bl_drewN ?_ _ | with_reducible refine bl_drew ?_ | with_reducible refine bl_call (by assumption) ?_)); (all_goals (first | omega | (simp; done) | (simp; omega))))⟩
    · have PH := hide (fun (u : World) (d : Nat) (hh : TL u (some ⟨b, o, none⟩) L.length L) => pageHeight_i u (some ⟨b, o + f * 3, none⟩) (t - f) d f _ L (TL.sub hh h2' h3') l3 (fun i hi => tg_sub hi h3') l2 l4)
      clear hcell l2 h1 h4 l4
      go_enter Try.func50, Try.ntmps50
      go_wp2_with (first | (go_at_call 54; (with_reducible refine (ValidLines_i _ _ _ _ L HI.out hn).mono ?_); rintro e w' ⟨rfl, hb⟩; (try (with_reducible have hb := bl_undrew hb)); obtain ⟨hc, hf⟩ := bcell hb; (try ((with_reducible have hq := bcell1 hb); obtain ⟨hc, hf⟩ := hq)); (try ((with_reducible have hq := bcell2 hb); obtain ⟨hc, hf⟩ := hq)); have hz := bl_sz hb; (try simp at hz); (try (have z0 : w.heap.size < w'.heap.size := (by omega); have y0 := Nat.le_of_lt z0)); (try (have z1 : w.heap.size + 1 < w'.heap.size := (by omega); have y1 := Nat.le_of_lt z1)); (try (have z2 : w.heap.size + 1 + 1 < w'.heap.size := (by omega); have y2 := Nat.le_of_lt z2)); (try (have z3 : w.heap.size + 1 + 1 + 1 < w'.heap.size := (by omega); have y3 := Nat.le_of_lt z3)); (try (have z4 : u1.heap.size < w'.heap.size := (by omega); have y4 := Nat.le_of_lt z4)); (try (have z5 : u1.heap.size + 1 < w'.heap.size := (by omega); have y5 := Nat.le_of_lt z5)); (try (have z6 : u2.heap.size < w'.heap.size := (by omega); have y6 := Nat.le_of_lt z6)); (try (have z7 : u2.heap.size + 1 < w'.heap.size := (by omega); have y7 := Nat.le_of_lt z7)); (try (have z8 : u3.heap.size < w'.heap.size := (by omega); have y8 := Nat.le_of_lt z8)); (try (have z9 : u3.heap.size + 1 < w'.heap.size := (by omega); have y9 := Nat.le_of_lt z9)); (try (have z10 : u4.heap.size < w'.heap.size := (by omega); have y10 := Nat.le_of_lt z10)); (try (have z11 : u4.heap.size + 1 < w'.heap.size := (by omega); have y11 := Nat.le_of_lt z11)); (try (have z12 : u5.heap.size < w'.heap.size := (by omega); have y12 := Nat.le_of_lt z12)); (try (have z13 : u5.heap.size + 1 < w'.heap.size := (by omega); have y13 := Nat.le_of_lt z13)); (try (have z14 : u6.heap.size < w'.heap.size := (by omega); have y14 := Nat.le_of_lt z14)); (try (have z15 : u6.heap.size + 1 < w'.heap.size := (by omega); have y15 := Nat.le_of_lt z15)); (try (have zg : g < w'.heap.size := (by omega); have yg := Nat.le_of_lt zg)); (try (have zc : wc.heap.size < w'.heap.size := (by omega); have yc := Nat.le_of_lt zc)); (try (have zd : wc.heap.size + 1 < w'.heap.size := (by omega); have yd := Nat.le_of_lt zd)); (first | (have _k := u7; clear _k; rename World => u8) | (have _k := u6; clear _k; rename World => u7) | (have _k := u5; clear _k; rename World => u6) | (have _k := u4; clear _k; rename World => u5) | (have _k := u3; clear _k; rename World => u4) | (have _k := u2; clear _k; rename World => u3) | (have _k := u1; clear _k; rename World => u2) | (rename World => u1))) | (go_at_call 65; refine (within_any _ _ _ _).mono ?_; rintro e w' ⟨rfl, rfl⟩) | (go_at_call 88; (with_reducible refine (PH.out _ _ (HI.out.below (by (repeat' (first | with_reducible exact bl_refl _ | with_reducible assumption | with_reducible refine bl_alloc ?_ _ | with_reducible refine bl_set ?_ ?_ _ | with_reducible refine bl_drewN ?_ _ | with_reducible refine bl_drew ?_ | with_reducible refine bl_call (by assumption) ?_)); (all_goals (first | omega | (simp; done) | (simp; omega)))))).mono ?_); rintro e w' ⟨rfl, hb⟩; (try (with_reducible have hb := bl_undrew hb)); obtain ⟨hc, hf⟩ := bcell hb; (try ((with_reducible have hq := bcell1 hb); obtain ⟨hc, hf⟩ := hq)); (try ((with_reducible have hq := bcell2 hb); obtain ⟨hc, hf⟩ := hq)); have hz := bl_sz hb; (try simp at hz); (try (have z0 : w.heap.size < w'.heap.size := (by omega); have y0 := Nat.le_of_lt z0)); (try (have z1 : w.heap.size + 1 < w'.heap.size := (by omega); have y1 := Nat.le_of_lt z1)); (try (have z2 : w.heap.size + 1 + 1 < w'.heap.size := (by omega); have y2 := Nat.le_of_lt z2)); (try (have z3 : w.heap.size + 1 + 1 + 1 < w'.heap.size := (by omega); have y3 := Nat.le_of_lt z3)); (try (have z4 : u1.heap.size < w'.heap.size := (by omega); have y4 := Nat.le_of_lt z4)); (try (have z5 : u1.heap.size + 1 < w'.heap.size := (by omega); have y5 := Nat.le_of_lt z5)); (try (have z6 : u2.heap.size < w'.heap.size := (by omega); have y6 := Nat.le_of_lt z6)); (try (have z7 : u2.heap.size + 1 < w'.heap.size := (by omega); have y7 := Nat.le_of_lt z7)); (try (have z8 : u3.heap.size < w'.heap.size := (by omega); have y8 := Nat.le_of_lt z8)); (try (have z9 : u3.heap.size + 1 < w'.heap.size := (by omega); have y9 := Nat.le_of_lt z9)); (try (have z10 : u4.heap.size < w'.heap.size := (by omega); have y10 := Nat.le_of_lt z10)); (try (have z11 : u4.heap.size + 1 < w'.heap.size := (by omega); have y11 := Nat.le_of_lt z11)); (try (have z12 : u5.heap.size < w'.heap.size := (by omega); have y12 := Nat.le_of_lt z12)); (try (have z13 : u5.heap.size + 1 < w'.heap.size := (by omega); have y13 := Nat.le_of_lt z13)); (try (have z14 : u6.heap.size < w'.heap.size := (by omega); have y14 := Nat.le_of_lt z14)); (try (have z15 : u6.heap.size + 1 < w'.heap.size := (by omega); have y15 := Nat.le_of_lt z15)); (try (have zg : g < w'.heap.size := (by omega); have yg := Nat.le_of_lt zg)); (try (have zc : wc.heap.size < w'.heap.size := (by omega); have yc := Nat.le_of_lt zc)); (try (have zd : wc.heap.size + 1 < w'.heap.size := (by omega); have yd := Nat.le_of_lt zd)); (first | (have _k := u7; clear _k; rename World => u8) | (have _k := u6; clear _k; rename World => u7) | (have _k := u5; clear _k; rename World => u6) | (have _k := u4; clear _k; rename World => u5) | (have _k := u3; clear _k; rename World => u4) | (have _k := u2; clear _k; rename World => u3) | (have _k := u1; clear _k; rename World => u2) | (rename World => u1))))
      go_ret
      exact ⟨int_ret E.out.symm, (by (repeat' (first | with_reducible exact bl_refl _ | with_reducible assumption | with_reducible refine bl_alloc ?_ _ | with_reducible refine bl_set ?_ ?_ _ | with_reducible refine bl_drewN ?_ _ | with_reducible refine bl_drew ?_ | with_reducible refine bl_call (by assumption) ?_)); (all_goals (first | omega | (simp; done) | (simp; omega))))⟩
end Go.Proofs.Ytkclecfjpabplaa
