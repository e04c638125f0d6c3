/- BalanceColumns, in the program and in its model. -/
import Derived.Test.YtkclecfjpabplaaColI
namespace Go.Proofs.Ytkclecfjpabplaa
open Go.ChangeShapes Go.WideShapes Go.ChangeAt Go.RowKit
set_option linter.unusedVariables false
open Classical
set_option maxRecDepth 4000

/-- What BalanceColumns returns. -/
noncomputable def bcV (l : List Int) (m : Int) : List Int := if 0 ≤ bhV l m then cends l (bhV l m) else []
theorem bcV_no {l : List Int} {m v : Int} (h : v = bhV l m) (h0 : v < 0) : bcV l m = [] := by rw [bcV, if_neg (by omega)]
theorem bcV_yes {l : List Int} {m v : Int} (h : v = bhV l m) (h0 : 0 ≤ v) : bcV l m = cends l v := by rw [bcV, if_pos (by omega), h]
/-- What the height says where it is there. -/
theorem bhV_says {l : List Int} {m : Int} (h : 0 ≤ bhV l m) : (l.length ≤ 40 ∧ ∀ j, j < l.length → 1 ≤ ng l j ∧ ng l j ≤ 1000) ∧ (1 ≤ m ∧ m ≤ 8) ∧ sl l ≤ 10000 ∧ bhV l m = (bh l m : Int) ∧ allLe l (bhV l m) ∧ bhV l m ≤ 10000 := by
  cases q : (okH l && (inB m 1 8 && decide (sl l ≤ 10000)))
  · rw [bhV_no q] at h; omega
  · have e := bhV_yes q
    simp only [Bool.and_eq_true] at q
    obtain ⟨q1, q2, q3⟩ := q
    have k := okH_iff.1 q1
    have b := bh_is (l := l) (c := m) (fun j hj => (k.2 j hj).1) (inB_iff.1 q2).1
    have q3 := of_decide_eq_true q3
    refine ⟨k, inB_iff.1 q2, q3, e, by rw [e]; exact b.1.1.1, by rw [e]; omega⟩
theorem bcV_len (l : List Int) (m : Int) : (bcV l m).length ≤ 41 := by
  unfold bcV
  split
  · rename_i h
    have k := (bhV_says h).1.1
    unfold cends
    rw [List.length_append, se_len]
    have := sc_le (bhV l m) l (bhV l m)
    split <;> simp <;> omega
  · simp
/-- What a function leaves that returns a list that it made. -/
def RetL (w : World) (l : List Int) (e : Ending) (w' : World) : Prop := ∃ A c, e = .returned (.slice A l.length c) ∧ OL w' 3 w.heap.size A c l ∧ Below w.heap.size w w'

theorem BalanceColumns_i (w : World) (A : Option Addr) (n c : Nat) (l : List Int) (m : Int) (ha : IL w A n l) (hn : n ≤ 4611686018427387904) (hnc : n ≤ c) :
    Calls Try.prog 24 #[.slice A n c, .int .i64 m] w (RetL w (bcV l m)) := by
  obtain rfl : n = l.length := ha.1
  have HA := hide ha
  clear ha
  have C := BalancedHeight_i w A l.length c l m HA.out hn hnc
  obtain ⟨v, hv⟩ : ∃ v, v = bhV l m := ⟨_, rfl⟩
  rw [← hv] at C
  have HC := hide C
  have HV := hide hv
  clear C hv
  rcases (by omega : v < 0 ∨ 0 ≤ v) with h | h
  · have E := hide (bcV_no HV.out h)
    go_enter Try.func24, Try.ntmps24
    go_wp2_with fail
    (with_reducible refine HC.out.mono ?_)
    rintro e u1 ⟨rfl, hb⟩
    have HB := hide hb
    clear hb
    go_wp2
    go_ret
    exact ⟨none, 0, by rw [E.out]; rfl, by rw [E.out]; exact OL.nil _ _ _, HB.out⟩
  · have E := hide (bcV_yes HV.out h)
    obtain ⟨⟨k1, k2⟩, _, _, _, k5, _⟩ := bhV_says (l := l) (m := m) (by rw [← HV.out]; exact h)
    rw [← HV.out] at k5
    have F := hide (fun (u : World) (hu : IL u A l.length l) => fillColumns_i u A c l v hu hnc k1 k2 h)
    have K := hide k5
    clear k1 k2 k5
    go_enter Try.func24, Try.ntmps24
    go_wp2_with fail
    (with_reducible refine HC.out.mono ?_)
    rintro e u1 ⟨rfl, hb⟩
    have HB := hide hb
    have HA1 := hide (HA.out.below hb)
    clear hb
    go_wp2_with fail
    (with_reducible refine (F.out _ HA1.out).mono ?_)
    rintro e u2 ⟨(⟨Y, B, d, rfl, ho⟩ | ⟨Y, rfl⟩), hb⟩
    · have HO := hide (ho.more HB.out.size)
      have HB2 := hide (bl_call hb HB.out)
      clear ho hb
      go_wp2
      go_ret
      exact ⟨B, d, by rw [E.out]; rfl, by rw [E.out]; exact HO.out, HB2.out⟩
    · exact absurd K.out Y

set_option maxHeartbeats 1000000 in
theorem BalanceColumns_s (w : World) (A : Option Addr) (n c : Nat) (l : List Int) (m : Int) (ha : IL w A n l) (hn : n ≤ 4611686018427387904) :
    Calls Try.prog 26 #[.slice A n c, .int .i64 m] w (RetL w (bcV l m)) := by
  obtain ⟨i0, hi0, jz0, jz1, jz2⟩ := info_parts int_info
  obtain rfl : n = l.length := ha.1
  have HA := hide ha
  clear ha
  have C := hide (fun (u : World) (hu : IL u A l.length l) => BalancedHeight_s u A l.length c l m hu hn)
  obtain ⟨v, hv⟩ : ∃ v, v = bhV l m := ⟨_, rfl⟩
  rw [← hv] at C
  have HV := hide hv
  clear hv
  rcases (by omega : v < 0 ∨ 0 ≤ v) with h | h
  · have E := hide (bcV_no HV.out h)
    go_enter Try.func26, Try.ntmps26
    go_wp2_with fail
    (with_reducible refine (C.out _ (HA.out.alloc _)).mono ?_)
    rintro e u1 ⟨rfl, rfl⟩
    go_wp2
    go_ret
    exact ⟨none, 0, by rw [E.out]; rfl, by rw [E.out]; exact OL.nil _ _ _, (by (repeat' (first | with_reducible exact bl_refl _ | with_reducible assumption | with_reducible refine bl_alloc ?_ _ | with_reducible refine bl_set ?_ ?_ _ | with_reducible refine bl_drewN ?_ _ | with_reducible refine bl_drew ?_ | with_reducible refine bl_call (by assumption) ?_)); (all_goals (first | omega | (simp; done) | (simp; omega))))⟩
  · have E0 := bcV_yes HV.out h
    obtain ⟨⟨k1, k2⟩, _, _, _, k5, k6⟩ := bhV_says (l := l) (m := m) (by rw [← HV.out]; exact h)
    rw [← HV.out] at k5 k6
    have K2 := hide k2
    have K5 := hide k5
    have H0 : Hid (OL (w.alloc (.cells #[] 3)) 3 w.heap.size (some ⟨w.heap.size, 0, none⟩) 0 []) := hide (by
      have := OL.lit (w := w) (e := 3) (B := w.heap.size) (Nat.le_refl _) [] (by simp)
      simpa using this)
    have E := hide E0
    clear E0 k2 k5
    go_enter Try.func26, Try.ntmps26
    go_wp2_with fail
    (with_reducible refine (C.out _ (HA.out.alloc _)).mono ?_)
    rintro e u1 ⟨rfl, rfl⟩
    go_wp2
    go_loopw [5, 7, 8] (fun o r i u => ∃ (p q : Nat) (B : Option Addr) (d : Nat) (L : List Int) (y : Int), p ≤ l.length ∧ q ≤ p ∧ o = .slice B q d ∧ q = L.length ∧ r = .int .i64 y ∧ i = .int .i64 p ∧ (0 ≤ y ∧ y ≤ v) ∧ OL u 3 w.heap.size B d L ∧ se v 0 l v = L ++ se v p (l.drop p) y ∧ Below w.heap.size w u) (fun _ _ i _ => l.length - (intOf i).toNat)
    case atStart => exact ⟨0, 0, _, _, [], v, by omega, by omega, rfl, rfl, rfl, rfl, ⟨h, by omega⟩, H0.out, rfl, (by (repeat' (first | with_reducible exact bl_refl _ | with_reducible assumption | with_reducible refine bl_alloc ?_ _ | with_reducible refine bl_set ?_ ?_ _ | with_reducible refine bl_drewN ?_ _ | with_reducible refine bl_drew ?_ | with_reducible refine bl_call (by assumption) ?_)); (all_goals (first | omega | (simp; done) | (simp; omega))))⟩
    case round =>
      obtain ⟨p, q, B, d, L, y, hp, hqp, rfl, hql, rfl, rfl, ⟨y0, y1⟩, hol, hse, hbl⟩ := hrel
      have HQ := hide hql
      have HS := hide hse
      clear hql hse
      by_cases hlt : p < l.length
      · obtain ⟨b, o, hA, hbw, hc⟩ := HA.out.at_ hlt
        subst hA
        replace hc := keep_cell hbl hc
        obtain ⟨x0, x1⟩ := K2.out p hlt
        have x2 := K5.out p hlt
        have DR := hide (drop_ng hlt)
        obtain ⟨x, hx⟩ : ∃ x, x = ng l p := ⟨_, rfl⟩
        rw [← hx] at hc x0 x1 x2 DR
        clear hx
        have hzb := hbl.size
        rcases (by omega : y < x ∨ x ≤ y) with e2 | e2
        · have S2 : Hid (se v 0 l v = (L ++ [(p : Int)]) ++ se v (p + 1) (l.drop (p + 1)) (v - x)) := hide (by
            rw [HS.out, DR.out]
            show L ++ (if _ then _ else _) = _
            rw [if_pos e2]
            simp)
          have HB := hide hbl
          go_wp2_with ((at_builtin; refine wpList_append_int rfl (.tmp 28) (.tmp 30) _ rfl 3 i0 Try.underlying22 hi0 jz0 jz1 jz2 w.heap.size B d q L rfl (HQ.out) (hol.alloc _) wr.heap.size p rfl (by simp) (by omega) (by simp; omega) ?_; intro A' c' w' hol' hb' hg'); have hc' : w'.cell? ⟨b, o + p, none⟩ = some (.int .i64 x) := (hb'.cell (p := ⟨b, o + p, none⟩) hbw).trans (keep_alloc hc _))
          go_roundw
          case rel => exact ⟨p + 1, q + 1, A', c', L ++ [(p : Int)], v - x, by omega, by omega, rfl, by simp [HQ.out], by go_num, by go_num, ⟨by omega, by omega⟩, hol', S2.out, (bl_alloc HB.out _).trans hb'⟩
          case measure => simp [intOf]; omega
        · have S2 : Hid (se v 0 l v = L ++ se v (p + 1) (l.drop (p + 1)) (y - x)) := hide (by
            rw [HS.out, DR.out]
            show L ++ (if _ then _ else _) = _
            rw [if_neg (by omega)])
          go_wp2
          go_roundw
          case rel => exact ⟨p + 1, q, B, d, L, y - x, by omega, by omega, rfl, HQ.out, by go_num, by go_num, ⟨by omega, by omega⟩, hol, S2.out, hbl⟩
          case measure => simp [intOf]; omega
      · have S2 : Hid (se v 0 l v = L) := hide (by rw [HS.out, List.drop_eq_nil_of_le (by omega)]; simp [se])
        have hzb := hbl.size
        have HB := hide hbl
        rcases Nat.eq_zero_or_pos l.length with h0 | h0
        · have E2 : Hid (bcV l m = L) := hide (by rw [E.out, cends, if_pos h0, S2.out, List.append_nil])
          have g : decide ((0 : Int) < (l.length : Int)) = false := decide_eq_false (by omega)
          go_wp2
          go_ret
          exact ⟨B, d, by rw [E2.out, ← HQ.out]; rfl, by rw [E2.out]; exact hol, HB.out⟩
        · have E2 : Hid (bcV l m = L ++ [(l.length : Int)]) := hide (by rw [E.out, cends, if_neg (by omega), S2.out])
          obtain ⟨N, hN⟩ : ∃ N, N = l.length := ⟨_, rfl⟩
          go_wp2_with (at_builtin; refine wpList_append_int rfl (.tmp 42) (.tmp 45) _ rfl 3 i0 Try.underlying22 hi0 jz0 jz1 jz2 w.heap.size B d q L rfl (HQ.out) (hol.alloc _) wr.heap.size (l.length : Int) rfl (by simp) (by omega) (by simp; omega) ?_; intro A' c' w' hol' hb' hg')
          go_ret
          exact ⟨A', c', by rw [E2.out]; simp [HQ.out], by rw [E2.out]; exact hol', (bl_alloc HB.out _).trans hb'⟩
end Go.Proofs.Ytkclecfjpabplaa
