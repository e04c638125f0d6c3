/- CheckColumns in the program. -/
import Derived.Test.YtkclecfjpabplaaChc
import Derived.Stop.RegionWithIn
namespace Go.Proofs.Ytkclecfjpabplaa
open Go.ChangeShapes Go.WideShapes Go.ChangeAt Go.RowKit Go.Shelf
set_option linter.unusedVariables false
attribute [local go_sem] Oper.semAt_some

theorem keeps_belowC {W W' : World} (h : Below W.heap.size W W') : KeepsOthers W W' := ⟨h.size, fun k o hk _ => (h.block k (Array.getElem?_eq_some_iff.1 hk).1).trans hk⟩
set_option maxRecDepth 100000 in
set_option maxHeartbeats 1000000 in
theorem CheckColumns_i (w : World) (A B : Option Addr) (n c m d : Nat) (l E : List Int) (ha : IL w A n l) (hc : n ≤ c) (hE : IL w B m E) (hn : n ≤ 1048576) (hm : m ≤ 1048576) :
    Calls Try.prog 19 #[.slice A n c, .slice B m d] w fun e w' => e = .returned (.tuple #[.int .i64 (ccV l E).1, .bool (ccV l E).2]) ∧ Below w.heap.size w w' := by
  obtain rfl : n = l.length := ha.1
  obtain rfl : m = E.length := hE.1
  have HA := hide ha
  have HE := hide hE
  clear ha hE
  have VH := hide (fun (u : World) (h : IL u A l.length l) => validHeights_i u A l.length c l h (by omega))
  cases qa : okH l
  · have O := hide (ccV_no (l := l) (E := E) (by rw [qa]; rfl))
    have qa' : okLen l 0 40 1 1000 = false := qa
    rw [qa'] at VH
    rw [O.out]
    go_enter Try.func19, Try.ntmps19
    go_wp2_with (go_at_call 56; refine (VH.out _ (HA.out.alloc _)).mono ?_; rintro e w' ⟨rfl, rfl⟩)
    go_ret2
    exact ⟨rfl, (by (repeat' (first | with_reducible exact bl_refl _ | with_reducible assumption | with_reducible refine bl_alloc ?_ _ | with_reducible refine bl_set ?_ ?_ _ | with_reducible refine bl_drewN ?_ _ | with_reducible refine bl_drew ?_ | with_reducible refine bl_call (by assumption) ?_)); (all_goals (first | omega | (simp; done) | (simp; omega))))⟩
  have qa' : okLen l 0 40 1 1000 = true := qa
  rw [qa'] at VH
  obtain ⟨k1, k2⟩ := okH_iff.1 qa
  have VE := hide (fun (u : World) (h : IL u B E.length E) => validEnds_i u B E.length d E l.length h (by omega))
  cases qb : ve E l.length
  · have O := hide (ccV_no (l := l) (E := E) (by rw [qb, Bool.and_false]))
    rw [qb] at VE
    rw [O.out]
    clear k2
    go_enter Try.func19, Try.ntmps19
    go_wp2_with first | (go_at_call 56; refine (VH.out _ (HA.out.alloc _)).mono ?_; rintro e w' ⟨rfl, rfl⟩) | (go_at_call 57; refine (VE.out _ (HE.out.alloc _)).mono ?_; rintro e w' ⟨rfl, rfl⟩)
    go_ret2
    exact ⟨rfl, (by (repeat' (first | with_reducible exact bl_refl _ | with_reducible assumption | with_reducible refine bl_alloc ?_ _ | with_reducible refine bl_set ?_ ?_ _ | with_reducible refine bl_drewN ?_ _ | with_reducible refine bl_drew ?_ | with_reducible refine bl_call (by assumption) ?_)); (all_goals (first | omega | (simp; done) | (simp; omega))))⟩
  rw [qb] at VE
  have O := hide (ccV_yes (l := l) (E := E) (by rw [qa, qb]; rfl))
  rw [O.out]
  obtain ⟨hs, al⟩ := ve_iff.1 qb
  have PB := hide (fun (x : Fin E.length) => show ∃ f t : Nat, frm 0 E x.val = f ∧ ng E x.val = t ∧ f < t ∧ t ≤ l.length from by
    have h1 := hs x.val x.isLt
    have h2 := hs.pos x.val (by omega)
    have h3 := hs.le E.length (x.val + 1) (by omega) (Nat.le_refl _)
    have h4 : pv0 E (x.val + 1) = ng E x.val := rfl
    unfold lst at al
    rw [← pv_frm0]
    exact ⟨(pv0 E x.val).toNat, (ng E x.val).toNat, by omega, by omega, by omega, by omega⟩)
  have MB := hide (fun (pre : List (Fin E.length)) => mxL_bd (l := l) (E := E) (b := 1000) (fun j hj => by have := k2 j hj; omega) (by omega) pre)
  have K2 := hide (fun (j : Nat) (hj : j < l.length) => show 0 ≤ ng l j ∧ ng l j ≤ 100000 by have := k2 j hj; omega)
  have SBD := hide (fun (s t : Nat) => sm_bd (l := l) (b := 1000) (fun j hj => by have := k2 j hj; omega) (by omega) s t)
  clear qa qa' qb k2 hs al
  refine (callsIn_wide (n := 5)).1 ?_
  refine callsIn_of_wp_marks Try.func19 rfl trivial ?_ rfl
  simp only [Try.ntmps19, List.size_toArray, List.length_cons, List.length_nil, Nat.reduceAdd, Nat.reduceSub, Array.replicate_succ, Array.replicate_zero, List.push_toArray, List.append_toArray, List.nil_append, List.cons_append]
  gi_wp2_with first | (refine ⟨trivial, ?_⟩; gi_at_call 56; refine (callsIn_wide.2 (VH.out _ (HA.out.alloc _))).mono ?_; rintro e w' ⟨rfl, rfl⟩) | (refine ⟨trivial, ?_⟩; gi_at_call 57; refine (callsIn_wide.2 (VE.out _ (HE.out.alloc _))).mono ?_; rintro e w' ⟨rfl, rfl⟩) | (refine ⟨trivial, ?_⟩; gi_at_call 58; refine (callsIn_wide.2 (piecesOf_i 0 B E.length d _)).mono ?_; rintro e w' ⟨rfl, rfl⟩)
  have c2 : (((((w.alloc (.cells #[.slice A l.length c] 22)).alloc (.cells #[.int .i64 0] 3)).alloc (.cells #[.int .i64 0] 3)).alloc (.cells #[.slice B E.length d] 22))).cell? ⟨w.heap.size, 0, none⟩ = some (.slice A l.length c) := by simp [go_sem]
  have c6 : (((((w.alloc (.cells #[.slice A l.length c] 22)).alloc (.cells #[.int .i64 0] 3)).alloc (.cells #[.int .i64 0] 3)).alloc (.cells #[.slice B E.length d] 22))).cell? ⟨w.heap.size + 1, 0, none⟩ = some (.int .i64 0) := by simp [go_sem]
  have f6 : (((((w.alloc (.cells #[.slice A l.length c] 22)).alloc (.cells #[.int .i64 0] 3)).alloc (.cells #[.int .i64 0] 3)).alloc (.cells #[.slice B E.length d] 22))).frozen? ⟨w.heap.size + 1, 0, none⟩ = false := by simp [go_sem]
  have c10 : (((((w.alloc (.cells #[.slice A l.length c] 22)).alloc (.cells #[.int .i64 0] 3)).alloc (.cells #[.int .i64 0] 3)).alloc (.cells #[.slice B E.length d] 22))).cell? ⟨w.heap.size + 1 + 1, 0, none⟩ = some (.int .i64 0) := by simp [go_sem]
  have c11 : (((((w.alloc (.cells #[.slice A l.length c] 22)).alloc (.cells #[.int .i64 0] 3)).alloc (.cells #[.int .i64 0] 3)).alloc (.cells #[.slice B E.length d] 22))).cell? ⟨w.heap.size + 1 + 1 + 1, 0, none⟩ = some (.slice B E.length d) := by simp [go_sem]
  have hz0 : (((((w.alloc (.cells #[.slice A l.length c] 22)).alloc (.cells #[.int .i64 0] 3)).alloc (.cells #[.int .i64 0] 3)).alloc (.cells #[.slice B E.length d] 22))).heap.size = w.heap.size + 4 := by simp
  have hB0 : Below w.heap.size w (((((w.alloc (.cells #[.slice A l.length c] 22)).alloc (.cells #[.int .i64 0] 3)).alloc (.cells #[.int .i64 0] 3)).alloc (.cells #[.slice B E.length d] 22))) := by
    repeat' (first | exact bl_refl _ | refine bl_alloc ?_ _)
  obtain ⟨W0, hW0⟩ : ∃ W0, W0 = (((((w.alloc (.cells #[.slice A l.length c] 22)).alloc (.cells #[.int .i64 0] 3)).alloc (.cells #[.int .i64 0] 3)).alloc (.cells #[.slice B E.length d] 22))) := ⟨_, rfl⟩
  rw [← hW0] at c2 c6 f6 c10 c11 hz0 hB0 ⊢
  clear hW0
  have hEE : ∀ j, j < E.length → ∃ b o, B = some ⟨b, o, none⟩ ∧ b < w.heap.size ∧ W0.cell? ⟨b, o + j, none⟩ = some (.int .i64 (ng E j)) := fun j hj => by
    obtain ⟨b, o, e, hb, hc⟩ := HE.out.at_ hj
    have hbl : b < w.heap.size := World.block_lt_of_cell? w _ hc
    exact ⟨b, o, e, hbl, (hB0.cell (p := ⟨b, o + j, none⟩) hbl).trans hc⟩
  refine wpIn_rangeFunc_ownG (F := Fence.wide) (n := 5) rfl (by decide) (gf := 93) (lb := #[.pointer (some ⟨w.heap.size + 1 + 1, 0, none⟩), .pointer (some ⟨w.heap.size + 1 + 1 + 1, 0, none⟩)]) rfl trivial (enters_of Try.func93 (by kernel_rfl) rfl)
    (pieces_stops Fence.wide 4 trivial rfl (by decide) (w.heap.size + 1 + 1) (w.heap.size + 1 + 1 + 1) w.heap.size 0 B d E (by omega) W0 (by omega) (by omega) (by omega) c10 c11 hEE) belowK_t (belowK_b (by omega)) (Below.refl _ _) (fun _ => rfl)
    (fun pre W => (W.cell? ⟨w.heap.size, 0, none⟩ = some (.slice A l.length c) ∧ (W.cell? ⟨w.heap.size + 1, 0, none⟩ = some (.int .i64 (mxL l E pre)) ∧ W.frozen? ⟨w.heap.size + 1, 0, none⟩ = false) ∧ w.heap.size + 4 ≤ W.heap.size) ∧ Below w.heap.size w W)
    (fun c pre W => False ∧ Below w.heap.size w W)
    (OwnFrom.and (Own.from (fun s' A' B' row hs hg hr => ⟨cell_kept hs.1 hg hr, ⟨cell_kept hs.2.1.1 hg hr, (frozen_kept hs.2.1.1 hg hr).trans hs.2.1.2⟩, Nat.le_trans hs.2.2 hg.size⟩) _) (ownFrom_below (Nat.le_refl _) (by omega)))
    (fun c => OwnFrom.and (Own.from (fun s' A' B' row hs hg hr => hs) _) (ownFrom_below (Nat.le_refl _) (by omega)))
    ⟨⟨c2, ⟨c6, f6⟩, by omega⟩, hB0⟩
    (fun x => { tmps := #[.slice A l.length c, .slice B E.length d, .pointer (some ⟨w.heap.size, 0, none⟩), undef, .int .i64 0, .bool false, .pointer (some ⟨w.heap.size + 1, 0, none⟩), .int .i64 (frm 0 E x.val), .int .i64 (ng E x.val), .slice A l.length c, .bool true, .bool false, .bool false, .slice B E.length d, .slice A l.length c, .int .i64 l.length, .bool true, .bool false, .bool false, .slice B E.length d, .func (.func 93) #[] #[.pointer (some ⟨w.heap.size + 1 + 1, 0, none⟩), .pointer (some ⟨w.heap.size + 1 + 1 + 1, 0, none⟩)], .int .i64 (frm 0 E x.val), .int .i64 (ng E x.val), undef, undef, undef, undef, undef, undef, undef, undef], defers := [] }) ?assign ?body ?done ?stop
  case assign =>
    intro lb x W K hK
    gi_wp2
    exact hK
  case body =>
    rintro lb pre x W ⟨⟨c2, ⟨c6, f6⟩, hzW⟩, hB⟩ hlen
    have hd : (1 : Nat) ≤ 5 - 1 - 1 := by decide
    obtain ⟨f, t, hf, ht, hft, htl⟩ := PB.out x
    have mb := MB.out pre
    have sb := SBD.out f t
    have SN := hide (mxL_snoc (l := l) (E := E) (pre := pre) (x := x))
    rw [hf, ht, Int.toNat_natCast, Int.toNat_natCast] at SN
    obtain ⟨b, o, rfl, hb0, hc0⟩ := HA.out.at_ (i := 0) (by omega)
    have HI := HA.out.below hB
    have HS := hide ((HI.drew).sub (f := f) (t := t) (by omega) htl)
    have SL := hide (show ((l.drop f).take (t - f)).length = t - f by simp; omega)
    have SB2 : Hid (∀ j, j < ((l.drop f).take (t - f)).length → 0 ≤ ng ((l.drop f).take (t - f)) j ∧ ng ((l.drop f).take (t - f)) j ≤ 100000) := hide (fun j hj => by rw [SL.out] at hj; rw [ng_sub hj]; exact K2.out _ (by omega))
    have CS := fun (d : Nat) => sumOf_i W.drew (some ⟨b, o + f, none⟩) (t - f) d _ HS.out (by rw [SL.out]; omega) SB2.out
    have E0 : Hid (sl ((l.drop f).take (t - f)) = sm l f t) := hide rfl
    obtain ⟨v, hv⟩ : ∃ v, v = sm l f t := ⟨_, rfl⟩
    rw [E0.out, ← hv] at CS
    rw [← hv] at SN sb
    obtain ⟨m, hm0⟩ : ∃ m, m = mxL l E pre := ⟨_, rfl⟩
    rw [← hm0] at c6 SN mb
    have HC := hide CS
    have g1 : f ≤ t := by omega
    have g2 : t ≤ c := by omega
    have g3 : ¬ c = f := by omega
    have CAST : ((t : Int) - (f : Int)) = ((t - f : Nat) : Int) := by omega
    have l1 : w.heap.size + 1 < W.heap.size := by omega
    clear CS E0 SB2 SL HS HI hv hm0 hc0
    have hB' : Below W.heap.size W W.drew := bl_drew (bl_refl W)
    rw [hf, ht]
    rcases (by omega : m < v ∨ v ≤ m) with e1 | e1
    · have S1 := hide (show mxL l E (pre ++ [x]) = v by rw [SN.out]; omega)
      clear SN
      gi_wp2
      gi_region_with (refine ⟨trivial, ?_⟩; gi_at_call 59; (with_reducible refine (CallsIn.inRound lb (callsIn_wide.2 (HC.out _))).mono ?_); rintro e W2 ⟨rfl, rfl⟩)
      all_goals exact ⟨((keeps_belowC (bl_drew (bl_refl W))).trans (KeepsOthers.setCell _ _ _)).from _, (hB'.mono hB.size).setCell (p := ⟨w.heap.size + 1, 0, none⟩) (show w.heap.size ≤ w.heap.size + 1 by omega) _, ⟨by simp [go_sem, c2], ⟨by rw [S1.out]; simp [go_sem, c6]; (try omega), by simp [go_sem, f6]⟩, by simp; omega⟩, bl_set (bl_call hB' hB) (show w.heap.size ≤ w.heap.size + 1 by omega) _⟩
    · have S1 := hide (show mxL l E (pre ++ [x]) = m by rw [SN.out]; omega)
      clear SN
      gi_wp2
      gi_region_with (refine ⟨trivial, ?_⟩; gi_at_call 59; (with_reducible refine (CallsIn.inRound lb (callsIn_wide.2 (HC.out _))).mono ?_); rintro e W2 ⟨rfl, rfl⟩)
      all_goals exact ⟨((keeps_belowC (bl_drew (bl_refl W))).trans (KeepsOthers.setCell _ _ _)).from _, (hB'.mono hB.size).setCell (p := ⟨w.heap.size + 1, 0, none⟩) (show w.heap.size ≤ w.heap.size + 1 by omega) _, ⟨by simp [go_sem, c2], ⟨by rw [S1.out]; simp [go_sem, c6]; (try omega), by simp [go_sem, f6]⟩, by simp; omega⟩, bl_set (bl_call hB' hB) (show w.heap.size ≤ w.heap.size + 1 by omega) _⟩
  case done =>
    rintro D ys W hD rfl ⟨⟨c2, ⟨c6, f6⟩, hzW⟩, hB⟩ hK
    have E1 := hide (mxL_pcs (l := l) (E := E) (Nat.le_refl E.length))
    rw [E1.out] at c6
    obtain ⟨m, hm0⟩ : ∃ m, m = mxP l E E.length := ⟨_, rfl⟩
    rw [← hm0] at c6
    have HM := hide hm0
    clear hm0 E1
    gi_wp2
    refine ⟨by simp, .inl ⟨_, _, rfl, run_takeDeferred hK, ?_⟩⟩
    have h6 := cell_kept c6 (grownBy_putObj' _ D (.deferred none)) (fun r e => by cases e; exact ⟨_, hK, rfl⟩)
    refine ⟨.tuple #[.int .i64 m, .bool true], ?_, by rw [HM.out], hB.trans (belowK_b (w := W0) (by omega) _ D _ _ hD hK rfl rfl)⟩
    simp [results, Try.f19, go_sem, h6]
  case stop =>
    rintro D c pre W hD _ ⟨hfalse, _⟩ hK
    exact hfalse.elim
end Go.Proofs.Ytkclecfjpabplaa
