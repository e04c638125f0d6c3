/- Columns: how many are needed, both in the program and in its model. -/
import Derived.Test.YtkclecfjpabplaaFillW
import Derived.Test.YtkclecfjpabplaaColM
import Derived.Test.YtkclecfjpabplaaAllW
namespace Go.Proofs.Ytkclecfjpabplaa
open Go.ChangeShapes Go.WideShapes Go.ChangeAt Go.RowKit
set_option linter.unusedVariables false
open Classical

/-- Where the columns end. -/
def cends (l : List Int) (h : Int) : List Int := se h 0 l h ++ (if l.length = 0 then [] else [(l.length : Int)])
/-- Heights that are valid. -/
abbrev okH (l : List Int) : Bool := okLen l 0 40 1 1000
theorem okH_iff {l : List Int} : okH l = true ↔ l.length ≤ 40 ∧ ∀ j, j < l.length → 1 ≤ ng l j ∧ ng l j ≤ 1000 := by
  rw [okLen_iff]
  constructor
  · rintro ⟨⟨_, h⟩, k⟩; exact ⟨by omega, k⟩
  · rintro ⟨h, k⟩; exact ⟨⟨by omega, by omega⟩, k⟩
theorem cends_len {l : List Int} {h : Int} (hp : allPos l) (ha : allLe l h) (h0 : 0 ≤ h) : ((cends l h).length : Int) = cnv l h := by
  rw [cnv_yes ha, (fil_all hp ha h0).2]
  unfold cends
  split <;> simp

theorem fillColumns_i (w : World) (A : Option Addr) (c : Nat) (l : List Int) (h : Int) (ha : IL w A l.length l) (hc : l.length ≤ c) (hl : l.length ≤ 40) (hb : ∀ j, j < l.length → 1 ≤ ng l j ∧ ng l j ≤ 1000) (h0 : 0 ≤ h) :
    Calls Try.prog 64 #[.slice A l.length c, .int .i64 h] w fun e w' => ((allLe l h ∧ ∃ B d, e = .returned (.tuple #[.slice B (cends l h).length d, .bool true]) ∧ OL w' 3 w.heap.size B d (cends l h)) ∨ (¬ allLe l h ∧ e = .returned (.tuple #[.slice none 0 0, .bool false]))) ∧ Below w.heap.size w w' := by
  have HA := hide ha
  have HB := hide hb
  have FY := hide (fun ha => (fil_all (l := l) (h := h) (fun j hj => (hb j hj).1) ha h0).1)
  have FN := hide (fun ha => fil_not (l := l) (h := h) (fun j hj => (hb j hj).1) ha)
  have CF := hide (fun (u : World) (b1 b2 p t : Nat) (k1 : u.cell? ⟨b1, 0, none⟩ = some (.slice A l.length c)) (k2 : u.cell? ⟨b2, 0, none⟩ = some (.int .i64 h)) (hi : IL u A l.length l) (hpt : p < t) (htl : t ≤ l.length) =>
    fcol_i u b1 b2 c A l h p t k1 k2 hi hc (by omega) (fun j hj => by have := HB.out j hj; omega) hpt htl)
  clear ha hb
  go_enter Try.func64, Try.ntmps64
  go_wp2_with fail
  (with_reducible refine (fill_fillColumns_1 _ l.length _ _ (fc l h) (by omega) (fun u p t hb hpt htl => CF.out u _ _ p t (keep_cell hb (by simp [go_sem])) (keep_cell hb (by simp [go_sem])) ((HA.out.below (by (repeat' (first | with_reducible exact bl_refl _ | with_reducible assumption | with_reducible refine bl_alloc ?_ _ | with_reducible refine bl_set ?_ ?_ _ | with_reducible refine bl_drewN ?_ _ | with_reducible refine bl_drew ?_ | with_reducible refine bl_call (by assumption) ?_)); (all_goals (first | omega | (simp; done) | (simp; omega))))).below hb) hpt htl)).mono ?_)
  rintro e u1 ⟨(⟨L, B, d, hL, rfl, ho, hll⟩ | ⟨hL, rfl⟩), hb⟩
  · have Y : allLe l h := by
      by_cases y : allLe l h
      · exact y
      · rw [FN.out y] at hL; cases hL
    have EL : L = cends l h := by rw [FY.out Y] at hL; injection hL with hL; exact hL.symm
    have HO := hide (ho.more (B' := w.heap.size) (by simp; omega))
    have HB1 := hide (bl_call hb (show Below w.heap.size w _ from (by (repeat' (first | with_reducible exact bl_refl _ | with_reducible assumption | with_reducible refine bl_alloc ?_ _ | with_reducible refine bl_set ?_ ?_ _ | with_reducible refine bl_drewN ?_ _ | with_reducible refine bl_drew ?_ | with_reducible refine bl_call (by assumption) ?_)); (all_goals (first | omega | (simp; done) | (simp; omega))))))
    clear ho hL hb
    go_wp2
    go_ret2
    exact ⟨.inl ⟨Y, B, d, by rw [← EL]; rfl, by rw [← EL]; exact HO.out⟩, HB1.out⟩
  · have Y : ¬ allLe l h := fun y => by rw [FY.out y] at hL; cases hL
    have HB1 := hide (bl_call hb (show Below w.heap.size w _ from (by (repeat' (first | with_reducible exact bl_refl _ | with_reducible assumption | with_reducible refine bl_alloc ?_ _ | with_reducible refine bl_set ?_ ?_ _ | with_reducible refine bl_drewN ?_ _ | with_reducible refine bl_drew ?_ | with_reducible refine bl_call (by assumption) ?_)); (all_goals (first | omega | (simp; done) | (simp; omega))))))
    clear hL hb
    go_wp2
    go_ret2
    exact ⟨.inr ⟨Y, rfl⟩, HB1.out⟩

/-- What ColumnsNeeded returns. -/
noncomputable def cnV (l : List Int) (h : Int) : Int := if okH l && inB h 0 10000 then cnv l h else -1
theorem cnV_no {l : List Int} {h : Int} (e : (okH l && inB h 0 10000) = false) : cnV l h = -1 := by simp only [cnV, e]; rfl
theorem cnV_yes {l : List Int} {h : Int} (e : (okH l && inB h 0 10000) = true) : cnV l h = cnv l h := by simp only [cnV, e, if_true]

set_option maxHeartbeats 1000000 in
theorem columnsNeeded_s (w : World) (A : Option Addr) (n c : Nat) (l : List Int) (h : Int) (ha : IL w A n l) (hl : l.length ≤ 40) (hb : ∀ j, j < l.length → 1 ≤ ng l j ∧ ng l j ≤ 1000) (h0 : 0 ≤ h) (h1 : h ≤ 1000000) :
    Calls Try.prog 96 #[.slice A n c, .int .i64 h] w fun e w' => e = .returned (.int .i64 (cnv l h)) ∧ w' = w := by
  obtain rfl : n = l.length := ha.1
  have HB := hide hb
  clear hb
  go_enter Try.func96, Try.ntmps96
  go_wp2
  go_loop [5, 6, 7] (fun v r i => ∃ (p k : Nat) (y : Int), p ≤ l.length ∧ k ≤ p ∧ v = .int .i64 k ∧ r = .int .i64 y ∧ i = .int .i64 p ∧ (0 ≤ y ∧ y ≤ h) ∧ (∀ j, j < p → ng l j ≤ h) ∧ sc h l 0 = sc h (l.drop p) y + k) (fun _ _ i => l.length - (intOf i).toNat)
  case atStart => exact ⟨0, 0, 0, by omega, by omega, rfl, rfl, rfl, ⟨by omega, h0⟩, fun j hj => by omega, rfl⟩
  case round =>
    obtain ⟨p, k, y, hp, hk, rfl, rfl, rfl, ⟨y0, y1⟩, hal, hsc⟩ := hrel
    have HAL := hide hal
    have HS := hide hsc
    clear hal hsc
    by_cases hlt : p < l.length
    · obtain ⟨b, o, rfl, _, hc⟩ := ha.at_ hlt
      obtain ⟨x0, x1⟩ := HB.out p hlt
      have DR := hide (drop_ng hlt)
      obtain ⟨x, hx⟩ : ∃ x, x = ng l p := ⟨_, rfl⟩
      rw [← hx] at hc x0 x1 DR
      have HX := hide hx
      clear hx
      rcases (by omega : h < x ∨ x ≤ h) with q | q
      · have E : Hid (cnv l h = -1) := hide (cnv_no (fun a => by have := a p hlt; rw [← HX.out] at this; omega))
        go_wp2
        go_ret
        exact ⟨int_ret E.out.symm, rfl⟩
      · have M : Hid (∀ j, j < p + 1 → ng l j ≤ h) := hide (fun j hj => by
          rcases (by omega : j < p ∨ j = p) with e | e
          · exact HAL.out j e
          · rw [e, ← HX.out]; exact q)
        rcases (by omega : y < x ∨ x ≤ y) with q2 | q2
        · have S2 : Hid (sc h l 0 = sc h (l.drop (p + 1)) (h - x) + (k + 1)) := hide (by
            rw [HS.out, DR.out]
            show (if _ then _ else _) + k = _
            rw [if_pos q2]; omega)
          go_wp2
          go_round
          case rel => exact ⟨p + 1, k + 1, h - x, by omega, by omega, by go_num, rfl, by go_num, ⟨by omega, by omega⟩, M.out, S2.out⟩
          case measure => simp [intOf]; omega
        · have S2 : Hid (sc h l 0 = sc h (l.drop (p + 1)) (y - x) + k) := hide (by
            rw [HS.out, DR.out]
            show (if _ then _ else _) + k = _
            rw [if_neg (by omega)])
          go_wp2
          go_round
          case rel => exact ⟨p + 1, k, y - x, by omega, by omega, rfl, rfl, by go_num, ⟨by omega, by omega⟩, M.out, S2.out⟩
          case measure => simp [intOf]; omega
    · have hpl : p = l.length := by omega
      have E : Hid (cnv l h = k) := hide (by
        rw [cnv_yes (fun j hj => HAL.out j (by omega)), HS.out, List.drop_eq_nil_of_le (by omega)]
        show ((0 + k : Nat) : Int) = k
        omega)
      clear hpl
      go_wp2
      go_ret
      exact ⟨int_ret E.out.symm, rfl⟩


end Go.Proofs.Ytkclecfjpabplaa
