/- Drawn lines of a text. -/
import Derived.Test.YtkclecfjpabplaaRecD
namespace Go.Proofs.Ytkclecfjpabplaa
open Go.ChangeShapes Go.WideShapes Go.ChangeAt Go.RowKit
set_option linter.unusedVariables false
set_option maxRecDepth 4000

set_option maxHeartbeats 4000000 in
theorem randomLines_any (w : World) (B g N : Nat) (h : RD w B g N) (hN : N ≤ 100000000) (hB : B ≤ w.heap.size) :
    Calls Try.prog 108 #[.pointer (some ⟨g, 0, none⟩)] w fun e w' => ∃ (A : Option Addr) (c : Nat) (L : List Gp), e = .returned (.slice A L.length c) ∧ TO w' 84 w.heap.size A c L ∧ (1 ≤ L.length ∧ L.length ≤ 12) ∧ RD w' B g (N + 60) ∧ w.grownBy w' (some g) := by
  obtain ⟨i0, hi0, jz0, jz1, jz2⟩ := info_parts Line_info
  have hg := h.lt
  go_enter Try.func108, Try.ntmps108
  have H0 : Hid (TO (w.alloc (.cells #[] 84)) 84 w.heap.size (some ⟨w.heap.size, 0, none⟩) 0 ([] : List Gp)) := hide (TO.lit0 (Nat.le_refl _))
  go_wp2_with fail
  refine (pick_any _ B g _ _ (RD.alloc h _) (by omega) (by omega) (by omega)).mono ?_
  rintro e u0 ⟨r, hr0, hr1, rfl, hrd, hon⟩
  have H1 := hide (H0.out.read hon hg)
  have O1 := hide (on_call hon (on_alloc (on_refl w (some g)) _))
  have hz := hon.size
  simp at hz
  clear hon h H0
  go_wp2
  go_loopw [3, 4] (fun v i u => ∃ (q m : Nat) (A : Option Addr) (cc : Nat) (L : List Gp), q + m ≤ 12 ∧ 1 ≤ q + m ∧ i = .int .i64 m ∧ v = .slice A q cc ∧ q = L.length ∧ TO u 84 w.heap.size A cc L ∧ RD u B g (N + 1 + 4 * q) ∧ w.grownBy u (some g)) (fun _ i _ => (intOf i).toNat)
  case atStart => exact ⟨0, (1 + r).toNat, _, _, [], by omega, by omega, by go_num, rfl, rfl, H1.out, hrd, O1.out⟩
  case round =>
    obtain ⟨q, m, A, cc, L, hqm, hqm1, rfl, rfl, hpl, hol, hrd, hon⟩ := hrel
    have HPL := hide hpl
    have OWN := hide hol.own_lt
    rw [← hpl] at OWN
    clear hpl
    have hzr := hon.size
    rcases Nat.eq_zero_or_pos m with hm | hm
    · subst hm
      go_wp2
      go_ret
      exact ⟨A, cc, L, by rw [← HPL.out]; rfl, hol, by rw [← HPL.out]; omega, hrd.more (by omega) (Nat.le_refl _) (by omega), hon⟩
    · go_wp2_with fail
      refine (pick_any _ B g _ _ hrd (by omega) (by omega) (by omega)).mono ?_
      rintro e u1 ⟨r, hr0, hr1, rfl, hrd1, hon1⟩
      have hol1 := hol.read hon1 hg
      have O2 := hide (on_call hon1 hon)
      have hz1 := hon1.size
      clear hol hon hon1 hrd
      go_wp2_with fail
      refine (one_any _ B g _ _ _ (fun z => 0 ≤ z ∧ z ≤ 100) (hrd1.alloc _) (by omega) (by exact heap_alloc_new _ _) (by omega) (by rfl) (by decide) (by simp)).mono ?_
      rintro e u2 ⟨z, ⟨hq0, hq1⟩, rfl, hrd2, hon2⟩
      have hol2 := (hol1.alloc _).read hon2 hg
      have O3 := hide (on_call hon2 (on_alloc O2.out _))
      have hz2 := hon2.size
      simp at hz2
      have hgz : g < u2.heap.size := by omega
      clear hol1 hon2 hrd1 O2
      go_wp2_with fail
      refine (pick_any _ B g _ _ (hrd2.alloc _) (by omega) (by omega) (by omega)).mono ?_
      rintro e u3 ⟨s, hs0, hs1, rfl, hrd3, hon3⟩
      have hol3 := (hol2.alloc _).read hon3 hg
      have O4 := hide (on_call hon3 (on_alloc O3.out _))
      have HX3 := hide ((B3.new u2 (3 + r) 0 z _).on hon3 (by omega))
      have hz3 := hon3.size
      simp at hz3
      have hzw : w.heap.size ≤ u2.heap.size := by omega
      clear hol2 hon3 hrd2 O3
      rcases (by omega : s = 0 ∨ 0 < s) with rfl | hs
      · go_wp2_with fail
        refine (pick_any _ B g _ _ hrd3 (by omega) (by omega) (by omega)).mono ?_
        rintro e u4 ⟨t, ht0, ht1, rfl, hrd4, hon4⟩
        have hol4 := hol3.read hon4 hg
        have O5 := hide (on_call hon4 O4.out)
        obtain ⟨⟨m0, m1, m2⟩, f0, f1, f2⟩ := HX3.out.on hon4 (by omega)
        have hz4 := hon4.size
        have hol5 := hol4.setFar (p := ⟨u2.heap.size, 1, none⟩) (fun k hk => by
          rw [← HPL.out] at hk
          have := (OWN.out k hk).2
          show k ≠ u2.heap.size
          omega) (.int .i64 (1 + t))
        have hrd5 := hrd4.set_ (p := ⟨u2.heap.size, 1, none⟩) (show B ≤ u2.heap.size by omega) (.int .i64 (1 + t))
        have O6 := hide (on_set O5.out (p := ⟨u2.heap.size, 1, none⟩) (.inr hzw) (.int .i64 (1 + t)))
        have hz5 : w.heap.size ≤ u4.heap.size := by omega
        clear hol3 hol4 hon4 hrd3 hrd4 O4 HX3 O5
        go_wp2_with (at_builtin; go_loud (refine wpList_append_rec rfl (.tmp 28) (.tmp 30) _ rfl 84 i0 _ 24 Try.underlying51 hi0 jz0 jz1 jz2 rfl (by decide) w.heap.size A cc q L rfl (HPL.out) (hol5.alloc _) u4.heap.size ⟨3 + r, 1 + t, z⟩ rfl (ones3 _) (cells3_at (by simp)) (by omega) (by simp; omega) ?_); intro A' c' w' hol' hb' hg')
        go_roundw
        case rel =>
          exact ⟨q + 1, m - 1, A', c', L ++ [⟨3 + r, 1 + t, z⟩], by omega, by omega, by go_num, rfl, by simp [HPL.out], hol', ((hrd5.alloc _).belowR hb' (by omega)).more (by omega) (Nat.le_refl _) (by have := hb'.size; simp at this; omega), on_belowR hb' (Nat.le_refl _) (on_alloc O6.out _)⟩
        case measure => simp [intOf]; omega
      · have hs' : (s == 0) = false := beq_eq_false_iff_ne.2 (by omega)
        obtain ⟨⟨m0, m1, m2⟩, f0, f1, f2⟩ := HX3.out
        have hz5 : w.heap.size ≤ u3.heap.size := by omega
        go_wp2_with (at_builtin; refine wpList_append_rec rfl (.tmp 28) (.tmp 30) _ rfl 84 i0 _ 24 Try.underlying51 hi0 jz0 jz1 jz2 rfl (by decide) w.heap.size A cc q L rfl (HPL.out) (hol3.alloc _) u3.heap.size ⟨3 + r, 0, z⟩ rfl (ones3 _) (cells3 _ _ _ _ _) (by omega) (by simp; omega) ?_; intro A' c' w' hol' hb' hg')
        go_roundw
        case rel =>
          exact ⟨q + 1, m - 1, A', c', L ++ [⟨3 + r, 0, z⟩], by omega, by omega, by go_num, rfl, by simp [HPL.out], hol', ((hrd3.alloc _).belowR hb' (by omega)).more (by omega) (Nat.le_refl _) (by have := hb'.size; simp at this; omega), on_belowR hb' (Nat.le_refl _) (on_alloc O4.out _)⟩
        case measure => simp [intOf]; omega

set_option maxHeartbeats 4000000 in
theorem anyLines_any (w : World) (B g N : Nat) (h : RD w B g N) (hN : N ≤ 100000000) (hB : B ≤ w.heap.size) :
    Calls Try.prog 86 #[.pointer (some ⟨g, 0, none⟩)] w fun e w' => ∃ (A : Option Addr) (c : Nat) (L : List Gp), e = .returned (.slice A L.length c) ∧ TO w' 84 w.heap.size A c L ∧ L.length ≤ 12 ∧ RD w' B g (N + 70) ∧ w.grownBy w' (some g) := by
  have hg := h.lt
  go_enter Try.func86, Try.ntmps86
  go_wp2_with fail
  refine (randomLines_any _ B g _ h (by omega) hB).mono ?_
  rintro e u0 ⟨A, cc, L, rfl, hol, ⟨hl1, hl2⟩, hrd, hon⟩
  have hz := hon.size
  go_wp2_with fail
  refine (pick_any _ B g _ _ hrd (by omega) (by omega) (by omega)).mono ?_
  rintro e u1 ⟨r, hr0, hr1, rfl, hrd1, hon1⟩
  have hol1 := hol.read hon1 hg
  have O1 := hide (on_call hon1 hon)
  have hz1 := hon1.size
  clear hol hon hon1 hrd
  rcases (by omega : r = 0 ∨ r = 1 ∨ r = 2 ∨ 2 < r) with rfl | rfl | rfl | hr
  · go_wp2_with fail
    refine (one_any _ B g _ _ _ (fun z => True) (hrd1.alloc _) (by omega) (by exact heap_alloc_new _ _) (by omega) (by rfl) (by decide) (by simp)).mono ?_
    rintro e u2 ⟨z, _, rfl, hrd2, hon2⟩
    have hol2 := (hol1.alloc _).read hon2 hg
    have O2 := hide (on_call hon2 (on_alloc O1.out _))
    have hz2 := hon2.size
    simp at hz2
    obtain ⟨g', rfl, hBg, hgz, hfz⟩ := hol2.frozen (by omega)
    obtain ⟨b, o, he, _, c0, c1, c2⟩ := hol2.reads.at3 (i := 0) (by omega)
    injection he with he
    cases he
    have f0 := hfz 0
    obtain ⟨L', hl', M'⟩ := hol2.setF (by omega) z
    have M := hide M'
    simp only [Nat.zero_mul, Nat.zero_add] at c0 c1 c2
    clear hfz hon2 hol1 hol2 M'
    go_wp2
    go_ret
    exact ⟨some ⟨g', 0, none⟩, cc, L', by rw [hl']; rfl, M.out, by omega, (RD.set_ hrd2 (Nat.le_trans hB hBg) _).more (by omega) (Nat.le_refl _) (by simp; omega), on_set O2.out (.inr hBg) _⟩
  · go_wp2_with fail
    refine (one_any _ B g _ _ _ (fun z => True) (hrd1.alloc _) (by omega) (by exact heap_alloc_new _ _) (by omega) (by rfl) (by decide) (by simp)).mono ?_
    rintro e u2 ⟨z, _, rfl, hrd2, hon2⟩
    have hol2 := (hol1.alloc _).read hon2 hg
    have O2 := hide (on_call hon2 (on_alloc O1.out _))
    have hz2 := hon2.size
    simp at hz2
    obtain ⟨g', rfl, hBg, hgz, hfz⟩ := hol2.frozen (by omega)
    obtain ⟨b, o, he, _, c0, c1, c2⟩ := hol2.reads.at3 (i := 0) (by omega)
    injection he with he
    cases he
    have f2 := hfz 2
    obtain ⟨L', hl', M'⟩ := hol2.setV (by omega) z
    have M := hide M'
    simp only [Nat.zero_mul, Nat.zero_add] at c0 c1 c2
    clear hfz hon2 hol1 hol2 M'
    go_wp2
    go_ret
    exact ⟨some ⟨g', 0, none⟩, cc, L', by rw [hl']; rfl, M.out, by omega, (RD.set_ hrd2 (Nat.le_trans hB hBg) _).more (by omega) (Nat.le_refl _) (by simp; omega), on_set O2.out (.inr hBg) _⟩
  · have H3 : Hid (TO (u1.alloc (.cells #[] 84)) 84 w.heap.size (some ⟨u1.heap.size, 0, none⟩) 0 ([] : List Gp)) := hide (TO.lit0 (by omega))
    go_wp2
    go_ret
    exact ⟨_, _, [], rfl, H3.out, by simp, (hrd1.alloc _).more (by omega) (Nat.le_refl _) (by simp; omega), on_alloc O1.out _⟩
  · have g0 : (r == 0) = false := beq_eq_false_iff_ne.2 (by omega)
    have g1 : (r == 1) = false := beq_eq_false_iff_ne.2 (by omega)
    have g2 : (r == 2) = false := beq_eq_false_iff_ne.2 (by omega)
    go_wp2
    go_ret
    exact ⟨A, cc, L, rfl, hol1, by omega, hrd1.more (by omega) (Nat.le_refl _) (by omega), O1.out⟩

end Go.Proofs.Ytkclecfjpabplaa
