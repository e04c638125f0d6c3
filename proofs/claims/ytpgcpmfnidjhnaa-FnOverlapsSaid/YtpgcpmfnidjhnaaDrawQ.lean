/- Drawn placed texts in a picture. -/
import Derived.Test.YtpgcpmfnidjhnaaDrawP
namespace Go.Proofs.Ytpgcpmfnidjhnaa
open Go.ChangeShapes Go.WideShapes Go.ChangeAt Go.RowKit
set_option linter.unusedVariables false
set_option maxRecDepth 4000

/-- What a drawn picture is. -/
def PicRet (w : World) (e : Ending) (w' : World) : Prop := ∃ (A : Option Addr) (c : Nat) (L : List Pl) (x y : Int), e = .returned (.tuple #[.slice A L.length c, .int .i64 x, .int .i64 y]) ∧ TO w' 58 w.heap.size A c L ∧ L.length ≤ 5 ∧ PQ L ∧ ((0 ≤ x ∧ x ≤ 61) ∧ (1 ≤ y ∧ y ≤ 4)) ∧ Below w.heap.size w w'
set_option maxHeartbeats 4000000 in
theorem somePlaced_any (w : World) (a : Option Addr) (n c : Nat) (zs : List Int) (h : IsRow .u8 w a n c zs) :
    Calls Try.prog 81 #[.slice a n c] w (PicRet w) := by
  go_enter Try.func81, Try.ntmps81
  go_wp2_with fail
  (with_reducible refine (newReader_any _ _ _ _ _ h).mono ?_)
  rintro e u0 ⟨rfl, hrd, hb⟩
  have hgl : w.heap.size < u0.heap.size := hrd.lt
  go_wp2_with fail
  (with_reducible refine (pick_any _ _ _ _ _ hrd (by omega) (by omega) (by omega)).mono ?_)
  rintro e u1 ⟨x, hx0, hx1, rfl, hrd1, hon1⟩
  have hz1 := hon1.size
  obtain ⟨wd, hwd⟩ : ∃ wd, wd = 1 + x := ⟨_, rfl⟩
  have hwb : 1 ≤ wd ∧ wd ≤ 60 := by omega
  have hwb2 : wd ≤ 61 := by omega
  go_wp2_with fail
  (with_reducible refine (pick_any _ _ _ _ _ hrd1 (by omega) (by omega) (by omega)).mono ?_)
  rintro e u2 ⟨y, hy0, hy1, rfl, hrd2, hon2⟩
  have hz2 := hon2.size
  have O2 := hide (on_call hon2 (on_call hon1 (on_refl u0 (some w.heap.size))))
  clear hon1 hon2
  go_wp2_with fail
  refine (randomPlaced_any _ _ _ _ (1 + x) (1 + y) hrd2 (by omega) (by omega) (by omega) (by omega)).mono ?_
  rintro e u3 ⟨A, cc, L, rfl, hol, hll, hpq, hrd3, hon3⟩
  have HPQ := hide hpq
  have hz3 := hon3.size
  have O3 := hide (on_call hon3 O2.out)
  clear hpq hon3 O2
  rcases Nat.eq_zero_or_pos L.length with h0 | h0
  · have g0 : decide ((0 : Int) < (L.length : Int)) = false := decide_eq_false (by omega)
    have g1 : ¬ (0 : Int) < (L.length : Int) := by omega
    (go_wp2_with fail; refine (pick_any _ _ _ _ _ hrd3 (by omega) (by omega) (by omega)).mono ?_; rintro e u6 ⟨s, hs0, hs1, rfl, hrd6, hon6⟩; have hol6 := (hol).readP hon6 (by omega); have O6 := hide (on_call hon6 O3.out); have hz6 := hon6.size; (try simp at hz6); clear hon6; rcases (by omega : s = 0 ∨ s ≠ 0) with rfl | hs; (go_wp2_with fail; refine (one_any _ _ _ _ _ _ (fun z => 0 ≤ z ∧ z ≤ 61) (hrd6.alloc _) (by omega) (by exact heap_alloc_new _ _) (by omega) (by rfl) (by decide) (by intro v hv; simp at hv; rcases hv with rfl | rfl <;> exact ⟨_, rfl, by omega⟩)).mono ?_; rintro e u7 ⟨z, hz, rfl, hrd7, hon7⟩; have hol7 := hide (((hol6.alloc _).readP hon7 (by omega)).more (B' := w.heap.size) (by omega)); have O7 := hide (on_call hon7 (on_alloc O6.out _)); have HZ := hide hz; clear hz hol6 hon7; go_wp2; refine bodyPost_ret (results_tmp3 rfl _ _ _) rfl ?_; exact ⟨_, cc, L, z, 1 + y, (by first | rfl | simp [h0]), hol7.out, by omega, HPQ.out, ⟨HZ.out, by omega⟩, on_new (on_call O7.out (on_below hb (on_refl _ _))) (Nat.le_refl _)⟩); (have hs' : (s == 0) = false := beq_eq_false_iff_ne.2 hs; have HM := hide (hol6.more (B' := w.heap.size) (by omega)); clear hol6; go_wp2; refine bodyPost_ret (results_tmp3 rfl _ _ _) rfl ?_; exact ⟨_, cc, L, 1 + x, 1 + y, (by first | rfl | simp [h0]), HM.out, by omega, HPQ.out, ⟨by omega, by omega⟩, on_new (on_call O6.out (on_below hb (on_refl _ _))) (Nat.le_refl _)⟩))
  go_wp2_with fail
  refine (pick_any _ _ _ _ _ hrd3 (by omega) (by omega) (by omega)).mono ?_
  rintro e u4 ⟨r, hr0, hr1, rfl, hrd4, hon4⟩
  have hol4 := hol.readP hon4 (by omega)
  have O4 := hide (on_call hon4 O3.out)
  have hz4 := hon4.size
  clear hol hon4 O3 hrd3
  rcases (by omega : r = 0 ∨ r = 1 ∨ r = 2 ∨ 2 < r) with rfl | rfl | rfl | hr
  · go_wp2_with fail
    refine (one_any _ _ _ _ _ _ (fun z => True) (hrd4.alloc _) (by omega) (by exact heap_alloc_new _ _) (by omega) (by rfl) (by decide) (by simp)).mono ?_
    rintro e u5 ⟨z, _, rfl, hrd5, hon5⟩
    have hol5 := (hol4.alloc _).readP hon5 (by omega)
    have O5 := hide (on_call hon5 (on_alloc O4.out _))
    have hz5 := hon5.size
    simp at hz5
    obtain ⟨g', rfl, hBg, hgz, hfz⟩ := hol5.frozen h0
    obtain ⟨b, o, he, _, c0, c1, c2⟩ := hol5.reads.atp (i := 0) h0
    injection he with he
    cases he
    have f0 := hfz 0
    obtain ⟨L', hl', hfb', M'⟩ := hol5.setX h0 HPQ.out z
    have M := hide M'
    have HF2 := hide hfb'
    simp only [Nat.zero_mul, Nat.zero_add] at c0 c1 c2
    have HRD := hide (RD.set_ hrd5 (p := ⟨g', 0, none⟩) (by show w.heap.size + 1 ≤ g'; omega) (.int .i64 z))
    have O6 := hide (on_set O5.out (p := ⟨g', 0, none⟩) (.inr (by show u0.heap.size ≤ g'; omega)) (.int .i64 z))
    clear hfz hon5 hol4 hol5 M' hfb' hrd5 O5 O4 hrd4
    (go_wp2_with fail; refine (pick_any _ _ _ _ _ HRD.out (by omega) (by omega) (by omega)).mono ?_; rintro e u6 ⟨s, hs0, hs1, rfl, hrd6, hon6⟩; have hol6 := (M.out).readP hon6 (by omega); have O6 := hide (on_call hon6 O6.out); have hz6 := hon6.size; (try simp at hz6); clear hon6; rcases (by omega : s = 0 ∨ s ≠ 0) with rfl | hs; (go_wp2_with fail; refine (one_any _ _ _ _ _ _ (fun z => 0 ≤ z ∧ z ≤ 61) (hrd6.alloc _) (by omega) (by exact heap_alloc_new _ _) (by omega) (by rfl) (by decide) (by intro v hv; simp at hv; rcases hv with rfl | rfl <;> exact ⟨_, rfl, by omega⟩)).mono ?_; rintro e u7 ⟨z, hz, rfl, hrd7, hon7⟩; have hol7 := hide (((hol6.alloc _).readP hon7 (by omega)).more (B' := w.heap.size) (by omega)); have O7 := hide (on_call hon7 (on_alloc O6.out _)); have HZ := hide hz; clear hz hol6 hon7; go_wp2; refine bodyPost_ret (results_tmp3 rfl _ _ _) rfl ?_; exact ⟨_, cc, L', z, 1 + y, (by first | rfl | simp [hl']), hol7.out, by omega, HF2.out, ⟨HZ.out, by omega⟩, on_new (on_call O7.out (on_below hb (on_refl _ _))) (Nat.le_refl _)⟩); (have hs' : (s == 0) = false := beq_eq_false_iff_ne.2 hs; have HM := hide (hol6.more (B' := w.heap.size) (by omega)); clear hol6; go_wp2; refine bodyPost_ret (results_tmp3 rfl _ _ _) rfl ?_; exact ⟨_, cc, L', 1 + x, 1 + y, (by first | rfl | simp [hl']), HM.out, by omega, HF2.out, ⟨by omega, by omega⟩, on_new (on_call O6.out (on_below hb (on_refl _ _))) (Nat.le_refl _)⟩))
  · go_wp2_with fail
    refine (of_any _ _ _ _ _ _ (fun z => z.size ≤ 9) (RD.alloc hrd4 _) (by omega) (by exact heap_alloc_new _ _) (by omega) (by rfl) (by decide) (by intro v hv; simp at hv; rcases hv with rfl | rfl <;> exact ⟨_, rfl, by decide⟩)).mono ?_
    rintro e u5 ⟨z, hzs, rfl, hrd5, hon5⟩
    have hol5 := (hol4.alloc _).readP hon5 (by omega)
    have O5 := hide (on_call hon5 (on_alloc O4.out _))
    have hz5 := hon5.size
    simp at hz5
    obtain ⟨g', rfl, hBg, hgz, hfz⟩ := hol5.frozen h0
    obtain ⟨b, o, he, _, c0, c1, c2⟩ := hol5.reads.atp (i := 0) h0
    injection he with he
    cases he
    have f2 := hfz 2
    obtain ⟨L', hl', hfb', M'⟩ := hol5.setT h0 HPQ.out hzs
    have M := hide M'
    have HF2 := hide hfb'
    simp only [Nat.zero_mul, Nat.zero_add] at c0 c1 c2
    have HRD := hide (RD.set_ hrd5 (p := ⟨g', 2, none⟩) (by show w.heap.size + 1 ≤ g'; omega) (.string z))
    have O6 := hide (on_set O5.out (p := ⟨g', 2, none⟩) (.inr (by show u0.heap.size ≤ g'; omega)) (.string z))
    clear hfz hon5 hol4 hol5 M' hfb' hrd5 O5 O4 hrd4 hzs
    (go_wp2_with fail; refine (pick_any _ _ _ _ _ HRD.out (by omega) (by omega) (by omega)).mono ?_; rintro e u6 ⟨s, hs0, hs1, rfl, hrd6, hon6⟩; have hol6 := (M.out).readP hon6 (by omega); have O6 := hide (on_call hon6 O6.out); have hz6 := hon6.size; (try simp at hz6); clear hon6; rcases (by omega : s = 0 ∨ s ≠ 0) with rfl | hs; (go_wp2_with fail; refine (one_any _ _ _ _ _ _ (fun z => 0 ≤ z ∧ z ≤ 61) (hrd6.alloc _) (by omega) (by exact heap_alloc_new _ _) (by omega) (by rfl) (by decide) (by intro v hv; simp at hv; rcases hv with rfl | rfl <;> exact ⟨_, rfl, by omega⟩)).mono ?_; rintro e u7 ⟨z, hz, rfl, hrd7, hon7⟩; have hol7 := hide (((hol6.alloc _).readP hon7 (by omega)).more (B' := w.heap.size) (by omega)); have O7 := hide (on_call hon7 (on_alloc O6.out _)); have HZ := hide hz; clear hz hol6 hon7; go_wp2; refine bodyPost_ret (results_tmp3 rfl _ _ _) rfl ?_; exact ⟨_, cc, L', z, 1 + y, (by first | rfl | simp [hl']), hol7.out, by omega, HF2.out, ⟨HZ.out, by omega⟩, on_new (on_call O7.out (on_below hb (on_refl _ _))) (Nat.le_refl _)⟩); (have hs' : (s == 0) = false := beq_eq_false_iff_ne.2 hs; have HM := hide (hol6.more (B' := w.heap.size) (by omega)); clear hol6; go_wp2; refine bodyPost_ret (results_tmp3 rfl _ _ _) rfl ?_; exact ⟨_, cc, L', 1 + x, 1 + y, (by first | rfl | simp [hl']), HM.out, by omega, HF2.out, ⟨by omega, by omega⟩, on_new (on_call O6.out (on_below hb (on_refl _ _))) (Nat.le_refl _)⟩))
  · obtain ⟨g', rfl, hBg, hgz, hfz⟩ := hol4.frozen h0
    obtain ⟨b, o, he, _, c0, c1, c2⟩ := hol4.reads.atp (i := 0) h0
    injection he with he
    cases he
    have f1 := hfz 1
    obtain ⟨L', hl', hfb', M'⟩ := hol4.setY h0 HPQ.out (1 + y)
    have M := hide M'
    have HF2 := hide hfb'
    simp only [Nat.zero_mul, Nat.zero_add] at c0 c1 c2
    have HRD := hide (RD.set_ hrd4 (p := ⟨g', 1, none⟩) (by show w.heap.size + 1 ≤ g'; omega) (.int .i64 (1 + y)))
    have O6 := hide (on_set O4.out (p := ⟨g', 1, none⟩) (.inr (by show u0.heap.size ≤ g'; omega)) (.int .i64 (1 + y)))
    clear hfz hol4 M' hfb' hrd4 O4
    (go_wp2_with fail; refine (pick_any _ _ _ _ _ HRD.out (by omega) (by omega) (by omega)).mono ?_; rintro e u6 ⟨s, hs0, hs1, rfl, hrd6, hon6⟩; have hol6 := (M.out).readP hon6 (by omega); have O6 := hide (on_call hon6 O6.out); have hz6 := hon6.size; (try simp at hz6); clear hon6; rcases (by omega : s = 0 ∨ s ≠ 0) with rfl | hs; (go_wp2_with fail; refine (one_any _ _ _ _ _ _ (fun z => 0 ≤ z ∧ z ≤ 61) (hrd6.alloc _) (by omega) (by exact heap_alloc_new _ _) (by omega) (by rfl) (by decide) (by intro v hv; simp at hv; rcases hv with rfl | rfl <;> exact ⟨_, rfl, by omega⟩)).mono ?_; rintro e u7 ⟨z, hz, rfl, hrd7, hon7⟩; have hol7 := hide (((hol6.alloc _).readP hon7 (by omega)).more (B' := w.heap.size) (by omega)); have O7 := hide (on_call hon7 (on_alloc O6.out _)); have HZ := hide hz; clear hz hol6 hon7; go_wp2; refine bodyPost_ret (results_tmp3 rfl _ _ _) rfl ?_; exact ⟨_, cc, L', z, 1 + y, (by first | rfl | simp [hl']), hol7.out, by omega, HF2.out, ⟨HZ.out, by omega⟩, on_new (on_call O7.out (on_below hb (on_refl _ _))) (Nat.le_refl _)⟩); (have hs' : (s == 0) = false := beq_eq_false_iff_ne.2 hs; have HM := hide (hol6.more (B' := w.heap.size) (by omega)); clear hol6; go_wp2; refine bodyPost_ret (results_tmp3 rfl _ _ _) rfl ?_; exact ⟨_, cc, L', 1 + x, 1 + y, (by first | rfl | simp [hl']), HM.out, by omega, HF2.out, ⟨by omega, by omega⟩, on_new (on_call O6.out (on_below hb (on_refl _ _))) (Nat.le_refl _)⟩))
  · have q0 : (r == 0) = false := beq_eq_false_iff_ne.2 (by omega)
    have q1 : (r == 1) = false := beq_eq_false_iff_ne.2 (by omega)
    have q2 : (r == 2) = false := beq_eq_false_iff_ne.2 (by omega)
    (go_wp2_with fail; refine (pick_any _ _ _ _ _ hrd4 (by omega) (by omega) (by omega)).mono ?_; rintro e u6 ⟨s, hs0, hs1, rfl, hrd6, hon6⟩; have hol6 := (hol4).readP hon6 (by omega); have O6 := hide (on_call hon6 O4.out); have hz6 := hon6.size; (try simp at hz6); clear hon6; rcases (by omega : s = 0 ∨ s ≠ 0) with rfl | hs; (go_wp2_with fail; refine (one_any _ _ _ _ _ _ (fun z => 0 ≤ z ∧ z ≤ 61) (hrd6.alloc _) (by omega) (by exact heap_alloc_new _ _) (by omega) (by rfl) (by decide) (by intro v hv; simp at hv; rcases hv with rfl | rfl <;> exact ⟨_, rfl, by omega⟩)).mono ?_; rintro e u7 ⟨z, hz, rfl, hrd7, hon7⟩; have hol7 := hide (((hol6.alloc _).readP hon7 (by omega)).more (B' := w.heap.size) (by omega)); have O7 := hide (on_call hon7 (on_alloc O6.out _)); have HZ := hide hz; clear hz hol6 hon7; go_wp2; refine bodyPost_ret (results_tmp3 rfl _ _ _) rfl ?_; exact ⟨_, cc, L, z, 1 + y, rfl, hol7.out, by omega, HPQ.out, ⟨HZ.out, by omega⟩, on_new (on_call O7.out (on_below hb (on_refl _ _))) (Nat.le_refl _)⟩); (have hs' : (s == 0) = false := beq_eq_false_iff_ne.2 hs; have HM := hide (hol6.more (B' := w.heap.size) (by omega)); clear hol6; go_wp2; refine bodyPost_ret (results_tmp3 rfl _ _ _) rfl ?_; exact ⟨_, cc, L, 1 + x, 1 + y, rfl, HM.out, by omega, HPQ.out, ⟨by omega, by omega⟩, on_new (on_call O6.out (on_below hb (on_refl _ _))) (Nat.le_refl _)⟩))
theorem DrawValidPlaced_any (w : World) (a : Option Addr) (n c : Nat) (zs : List Int) (h : IsRow .u8 w a n c zs) :
    Calls Try.prog 42 #[.slice a n c] w (PicRet w) := by
  go_enter Try.func42, Try.ntmps42
  go_wp2_with fail
  (with_reducible refine (somePlaced_any _ _ _ _ _ h).mono ?_)
  rintro e u0 ⟨A, cc, L, x, y, rfl, hol, hll, hpq, hxy, hb⟩
  go_wp2
  refine bodyPost_ret (results_tmp3 rfl _ _ _) rfl ?_
  exact ⟨A, cc, L, x, y, rfl, hol, hll, hpq, hxy, hb⟩
theorem DrawOverlaps_any (w : World) (a : Option Addr) (n c : Nat) (zs : List Int) (h : IsRow .u8 w a n c zs) :
    Calls Try.prog 45 #[.slice a n c] w (PicRet w) := by
  go_enter Try.func45, Try.ntmps45
  go_wp2_with fail
  (with_reducible refine (somePlaced_any _ _ _ _ _ h).mono ?_)
  rintro e u0 ⟨A, cc, L, x, y, rfl, hol, hll, hpq, hxy, hb⟩
  go_wp2
  refine bodyPost_ret (results_tmp3 rfl _ _ _) rfl ?_
  exact ⟨A, cc, L, x, y, rfl, hol, hll, hpq, hxy, hb⟩
end Go.Proofs.Ytpgcpmfnidjhnaa
