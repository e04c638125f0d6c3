/- Drawn indices at which pages end. -/
import Derived.Test.YtlfhfbeacleggaaDrawI
namespace Go.Proofs.Ytlfhfbeacleggaa
open Go.ChangeShapes Go.WideShapes Go.ChangeAt Go.RowKit
set_option linter.unusedVariables false

set_option maxRecDepth 4000 in
set_option maxHeartbeats 2000000 in
theorem someEnds_any (w : World) (B g N m : Nat) (h : RD w B g N) (hN : N ≤ 1000000000) (hB : B ≤ w.heap.size) (hm : m ≤ 100) :
    Calls Try.prog 96 #[.pointer (some ⟨g, 0, none⟩), .int .i64 m] w fun e w' => ∃ (A : Option Addr) (c : Nat) (l : List Int), e = .returned (.slice A l.length c) ∧ OL w' 3 w.heap.size A c l ∧ l.length ≤ m ∧ (∀ j, j < l.length → -1 ≤ ng l j ∧ ng l j ≤ (m : Int) + 1) ∧ RD w' B g (N + 2 * m + 2) ∧ w.grownBy w' (some g) := by
  obtain ⟨i0, hi0, jz0, jz1, jz2⟩ := info_parts int_info
  have hg := h.lt
  go_enter Try.func96, Try.ntmps96
  have H0 : Hid (OL (w.alloc (.cells #[] 3)) 3 w.heap.size (some ⟨w.heap.size, 0, none⟩) 0 []) := hide (by
      have := OL.lit (w := w) (e := 3) (B := w.heap.size) (Nat.le_refl _) [] (by simp)
      simpa using this)
  go_wp2
  go_loopw [5, 6] (fun v i u => ∃ (p q : Nat) (A : Option Addr) (cc : Nat) (l : List Int), p ≤ m ∧ i = .int .i64 ((p : Int) + 1) ∧ v = .slice A q cc ∧ q = l.length ∧ q ≤ p ∧ OL u 3 w.heap.size A cc l ∧ (∀ j, j < l.length → -1 ≤ ng l j ∧ ng l j ≤ (m : Int) + 1) ∧ RD u B g (N + 2 * p) ∧ w.grownBy u (some g)) (fun _ i _ => ((m : Int) + 1 - intOf i).toNat)
  case atStart => exact ⟨0, 0, _, _, [], by omega, rfl, rfl, rfl, by omega, H0.out, fun j hj => by simp at hj, h.alloc _, on_alloc (on_refl w (some g)) _⟩
  case round =>
    obtain ⟨p, q, A, cc, l, hpm, rfl, rfl, hpl, hqp, hol, hel, hrd, hon⟩ := hrel
    have HPL := hide hpl
    have HEL := hide hel
    clear hpl hel
    have hzr := hon.size
    by_cases hlt : p < m
    · go_wp2_with fail
      refine (pick_any _ B g _ _ hrd (by omega) (by omega) (by omega)).mono ?_
      rintro e u0 ⟨r, hr0, hr1, rfl, hrd1, hon1⟩
      have hol1 := hol.read hon1 hg
      have O1 := hide (on_call hon1 hon)
      have hz1 := hon1.size
      have hz2 : w.heap.size ≤ u0.heap.size := by omega
      clear hol hon hon1 hrd
      rcases (by omega : r = 0 ∨ 0 < r) with rfl | hr
      · (go_wp2_with (at_builtin; refine wpList_append_int rfl (.tmp 26) (.tmp 28) _ rfl 3 i0 Try.underlying32 hi0 jz0 jz1 jz2 w.heap.size A cc q l rfl (HPL.out) (hol1.alloc _) u0.heap.size ((p : Int) + 1) rfl (by simp) (by omega) (by simp; omega) ?_; intro A' c' w' hol' hb' hg'); go_roundw; (case rel => exact ⟨p + 1, q + 1, A', c', l ++ [(p : Int) + 1], by omega, by go_num, rfl, by simp [HPL.out], by omega, hol', (fun j hj => ng_snoc (P := fun x => -1 ≤ x ∧ x ≤ (m : Int) + 1) (by omega) HEL.out j hj), (RD.below' (RD.alloc hrd1 _) hb' (by omega)).more (by omega) (Nat.le_refl _) (by have := hb'.size; simp at this; omega), on_below' hb' (Nat.le_refl _) (on_alloc O1.out _)⟩); (case measure => (simp [intOf]; omega)))
      · have hr' : (r == 0) = false := beq_eq_false_iff_ne.2 (by omega)
        rcases (by omega : p + 1 < m ∨ p + 1 = m) with e1 | e1
        · have hi' : ((p : Int) + 1 == (m : Int)) = false := beq_eq_false_iff_ne.2 (by omega)
          (go_wp2; go_roundw; (case rel => exact ⟨p + 1, q, A, cc, l, by omega, by go_num, rfl, HPL.out, by omega, hol1, HEL.out, RD.more hrd1 (by omega) (Nat.le_refl _) (by omega), O1.out⟩); (case measure => (simp [intOf]; omega)))
        · have hi' : ((p : Int) + 1 == (m : Int)) = true := beq_iff_eq.2 (by omega)
          go_wp2_with fail
          refine (pick_any _ B g _ _ hrd1 (by omega) (by omega) (by omega)).mono ?_
          rintro e u1 ⟨s, hs0, hs1, rfl, hrd2, hon2⟩
          have hol2 := hol1.read hon2 hg
          have O2 := hide (on_call hon2 O1.out)
          have hz3 := hon2.size
          have hz4 : w.heap.size ≤ u1.heap.size := by omega
          clear hol1 hon2 hrd1 O1
          rcases (by omega : s = 0 ∨ 0 < s) with rfl | hs
          · (go_wp2; go_roundw; (case rel => exact ⟨p + 1, q, A, cc, l, by omega, by go_num, rfl, HPL.out, by omega, hol2, HEL.out, RD.more hrd2 (by omega) (Nat.le_refl _) (by omega), O2.out⟩); (case measure => (simp [intOf]; omega)))
          · (go_wp2_with (at_builtin; refine wpList_append_int rfl (.tmp 26) (.tmp 28) _ rfl 3 i0 Try.underlying32 hi0 jz0 jz1 jz2 w.heap.size A cc q l rfl (HPL.out) (hol2.alloc _) u1.heap.size ((p : Int) + 1) rfl (by simp) (by omega) (by simp; omega) ?_; intro A' c' w' hol' hb' hg'); go_roundw; (case rel => exact ⟨p + 1, q + 1, A', c', l ++ [(p : Int) + 1], by omega, by go_num, rfl, by simp [HPL.out], by omega, hol', (fun j hj => ng_snoc (P := fun x => -1 ≤ x ∧ x ≤ (m : Int) + 1) (by omega) HEL.out j hj), (RD.below' (RD.alloc hrd2 _) hb' (by omega)).more (by omega) (Nat.le_refl _) (by have := hb'.size; simp at this; omega), on_below' hb' (Nat.le_refl _) (on_alloc O2.out _)⟩); (case measure => (simp [intOf]; omega)))
    · have hpm' : p = m := by omega
      have HOL := hide hol
      have HRD := hide hrd
      have HON := hide hon
      rcases Nat.eq_zero_or_pos q with hq | hq
      · subst hq
        go_wp2
        go_ret
        exact ⟨A, cc, l, by rw [← HPL.out]; rfl, HOL.out, by rw [← HPL.out]; omega, HEL.out, HRD.out.more (by omega) (Nat.le_refl _) (by omega), HON.out⟩
      · go_wp2_with fail
        refine (pick_any _ B g _ _ hrd (by omega) (by omega) (by omega)).mono ?_
        rintro e u0 ⟨r, hr0, hr1, rfl, hrd1, hon1⟩
        have hol1 := hol.read hon1 hg
        have O1 := hide (on_call hon1 hon)
        have hz1 := hon1.size
        clear hol hon hon1 hrd
        rcases (by omega : r = 0 ∨ 0 < r) with rfl | hr
        · go_wp2_with fail
          refine (one_any _ B g _ _ _ (fun z => -1 ≤ z ∧ z ≤ (m : Int) + 1) (hrd1.alloc _) (by omega) (by exact heap_alloc_new _ _) (by omega) (by rfl) (by decide) (by intro v hv; simp at hv; rcases hv with rfl | rfl | rfl <;> exact ⟨_, rfl, by omega⟩)).mono ?_
          rintro e u1 ⟨z, hz, rfl, hrd2, hon2⟩
          have hol2 := (hol1.alloc _).read hon2 hg
          have O3 := hide (on_call hon2 (on_alloc O1.out _))
          obtain ⟨g', rfl, hBg, hgz, hfz⟩ := hol2.frozen (by rw [← HPL.out]; omega)
          obtain ⟨b, o, he, _, hc⟩ := hol2.reads.at_ (i := 0) (by rw [← HPL.out]; omega)
          injection he with he
          cases he
          have fz := hfz 0
          have M := hide (hol2.set_ 0 z).1
          have HZ := hide hz
          rw [Nat.zero_add] at hc
          clear hfz hz hon2 hol1 hol2
          go_wp2
          go_ret
          refine ⟨some ⟨g', 0, none⟩, cc, l.set 0 z, by rw [List.length_set, ← HPL.out]; rfl, M.out, by rw [List.length_set, ← HPL.out]; omega, fun j hj => ?_, (hrd2.set_ (Nat.le_trans hB hBg) _).more (by omega) (Nat.le_refl _) (by simp; omega), on_set O3.out (.inr hBg) _⟩
          rw [List.length_set] at hj
          rw [ng_set hj]
          split
          · exact HZ.out
          · exact HEL.out j hj
        · have hr' : (r == 0) = false := beq_eq_false_iff_ne.2 (by omega)
          go_wp2
          go_ret
          exact ⟨A, cc, l, by rw [← HPL.out]; rfl, hol1, by rw [← HPL.out]; omega, HEL.out, hrd1.more (by omega) (Nat.le_refl _) (by omega), O1.out⟩

end Go.Proofs.Ytlfhfbeacleggaa
