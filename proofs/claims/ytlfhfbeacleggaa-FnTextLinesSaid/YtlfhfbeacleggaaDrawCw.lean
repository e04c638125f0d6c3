/- Drawn numbers of lines of paragraphs, and ends. -/
import Derived.Test.YtlfhfbeacleggaaDrawI
import Derived.Test.YtlfhfbeacleggaaDrawE
import Derived.Test.YtlfhfbeacleggaaFil
namespace Go.Proofs.Ytlfhfbeacleggaa
open Go.ChangeShapes Go.WideShapes Go.ChangeAt Go.RowKit
set_option linter.unusedVariables false

set_option maxRecDepth 4000 in
set_option maxHeartbeats 1000000 in
theorem someSizes_any (w : World) (B g N : Nat) (h : RD w B g N) (hN : N ≤ 1000000000) (hB : B ≤ w.heap.size) :
    Calls Try.prog 94 #[.pointer (some ⟨g, 0, none⟩)] w fun e w' => ∃ (A : Option Addr) (c : Nat) (l : List Int), e = .returned (.slice A l.length c) ∧ OL w' 3 w.heap.size A c l ∧ l.length ≤ 10 ∧ (∀ j, j < l.length → -1 ≤ ng l j ∧ ng l j ≤ 41) ∧ RD w' B g (N + 20) ∧ w.grownBy w' (some g) := by
  obtain ⟨i0, hi0, jz0, jz1, jz2⟩ := info_parts int_info
  have hg := h.lt
  go_enter Try.func94, Try.ntmps94
  go_wp2_with fail
  refine (pick_any _ B g _ _ (h.alloc _) (by omega) (by omega) (by omega)).mono ?_
  rintro e u0 ⟨r, hr0, hr1, rfl, hrd, hon⟩
  have H0 : Hid (OL (w.alloc (.cells #[] 3)) 3 w.heap.size (some ⟨w.heap.size, 0, none⟩) 0 []) := hide (by
      have := OL.lit (w := w) (e := 3) (B := w.heap.size) (Nat.le_refl _) [] (by simp)
      simpa using this)
  have H1 := hide (H0.out.read hon hg)
  have O1 := hide (on_call hon (on_alloc (on_refl w (some g)) _))
  have hz := hon.size
  simp at hz
  clear hon h
  go_wp2
  go_loopw [3, 4] (fun v i u => ∃ (p m : Nat) (A : Option Addr) (cc : Nat) (l : List Int), p + m ≤ 10 ∧ i = .int .i64 m ∧ v = .slice A p cc ∧ p = l.length ∧ OL u 3 w.heap.size A cc l ∧ (∀ j, j < l.length → -1 ≤ ng l j ∧ ng l j ≤ 41) ∧ RD u B g (N + 1 + p) ∧ w.grownBy u (some g)) (fun _ i _ => (intOf i).toNat)
  case atStart => exact ⟨0, r.toNat, _, _, [], by omega, by go_num, rfl, rfl, H1.out, fun j hj => by simp at hj, hrd, O1.out⟩
  case round =>
    obtain ⟨p, m, A, cc, l, hpm, rfl, rfl, hpl, hol, hel, hrd, hon⟩ := hrel
    have HPL := hide hpl
    clear hpl
    have hzr := hon.size
    rcases Nat.eq_zero_or_pos m with hm | hm
    · subst hm
      rcases Nat.eq_zero_or_pos p with hp | hp
      · have p0 : decide ((0 : Int) < (p : Int)) = false := decide_eq_false (by omega)
        subst hp
        go_wp2
        go_ret
        exact ⟨A, cc, l, by rw [← HPL.out]; rfl, hol, by rw [← HPL.out]; omega, hel, hrd.more (by omega) (Nat.le_refl _) (by omega), hon⟩
      go_wp2_with fail
      refine (pick_any _ B g _ _ hrd (by omega) (by omega) (by omega)).mono ?_
      rintro e u0 ⟨r, hr0, hr1, rfl, hrd1, hon1⟩
      have O2 := hide (on_call hon1 hon)
      have hol1 := hol.read hon1 hg
      have hz1 := hon1.size
      rcases (by omega : r = 0 ∨ 0 < r) with rfl | hr
      · go_wp2_with fail
        refine (one_any _ B g _ _ _ (fun z => -1 ≤ z ∧ z ≤ 41) (hrd1.alloc _) (by omega) (by exact heap_alloc_new _ _) (by omega) (by rfl) (by decide) (by simp)).mono ?_
        rintro e u1 ⟨z, hz, rfl, hrd2, hon2⟩
        have hol2 := (hol1.alloc _).read hon2 hg
        have O3 := hide (on_call hon2 (on_alloc O2.out _))
        obtain ⟨g', rfl, hBg, hgz, hfz⟩ := hol2.frozen (by rw [← HPL.out]; omega)
        obtain ⟨b, o, he, _, hc⟩ := hol2.reads.at_ (i := 0) (by rw [← HPL.out]; omega)
        injection he with he
        cases he
        have fz := hfz 0
        have M := hide (hol2.set_ 0 z).1
        have HZ := hide hz
        rw [Nat.zero_add] at hc
        clear hfz hz hon2 hon1 hol hol1 hol2
        go_wp2
        go_ret
        refine ⟨some ⟨g', 0, none⟩, cc, l.set 0 z, by rw [List.length_set, ← HPL.out]; rfl, M.out, by rw [List.length_set, ← HPL.out]; omega, fun j hj => ?_, (hrd2.set_ (Nat.le_trans hB hBg) _).more (by omega) (Nat.le_refl _) (by simp; omega), on_set O3.out (.inr hBg) _⟩
        rw [List.length_set] at hj
        rw [ng_set hj]
        split
        · exact HZ.out
        · exact hel j hj
      · have r0 : (r == 0) = false := beq_eq_false_iff_ne.2 (by omega)
        go_wp2
        go_ret
        exact ⟨A, cc, l, by rw [HPL.out]; rfl, hol1, by rw [← HPL.out]; omega, hel, hrd1.more (by omega) (Nat.le_refl _) (by omega), O2.out⟩
    · go_wp2_with fail
      refine (pick_any _ B g _ _ hrd (by omega) (by omega) (by omega)).mono ?_
      rintro e u1 ⟨r, hr0, hr1, rfl, hrd1, hon1⟩
      have hol1 := hol.read hon1 hg
      have O2 := hide (on_call hon1 hon)
      have hz1 := hon1.size
      clear hon1 hon hol hrd
      go_wp2_with (at_builtin; refine wpList_append_int rfl (.tmp 12) (.tmp 16) _ rfl 3 i0 Try.underlying32 hi0 jz0 jz1 jz2 w.heap.size A cc p l rfl (HPL.out) (hol1.alloc _) u1.heap.size (1 + r) rfl (by simp) (by omega) (by simp; omega) ?_; intro A' c' w' hol' hb' hg')
      go_roundw
      case rel =>
        refine ⟨p + 1, m - 1, A', c', l ++ [1 + r], by omega, by go_num, rfl, by simp [HPL.out], hol', ?_, ?_, ?_⟩
        · intro j hj
          exact ng_snoc (P := fun x => -1 ≤ x ∧ x ≤ 41) (by omega) hel j hj
        · exact ((hrd1.alloc _).below' hb' (by omega)).more (by omega) (Nat.le_refl _) (by have := hb'.size; simp at this; omega)
        · exact on_below' hb' (Nat.le_refl _) (on_alloc O2.out _)
      case measure => simp [intOf]; omega

theorem pfx_bd2 {l : List Int} (h : ∀ j, j < l.length → -1 ≤ ng l j ∧ ng l j ≤ 41) : ∀ {k : Nat}, k ≤ l.length → -(k : Int) ≤ pfx l k ∧ pfx l k ≤ 41 * (k : Int)
  | 0, _ => by simp [pfx]
  | k + 1, hk => by
    have a := pfx_bd2 h (k := k) (by omega)
    have b := h k (by omega)
    have c : pfx l (k + 1) = pfx l k + ng l k := rfl
    omega
set_option maxRecDepth 4000 in
set_option maxHeartbeats 2000000 in
theorem DrawCountWidows_any (w : World) (a : Option Addr) (n c : Nat) (zs : List Int) (h : IsRow .u8 w a n c zs) :
    Calls Try.prog 42 #[.slice a n c] w fun e w' => ∃ (A : Option Addr) (c : Nat) (l : List Int) (B : Option Addr) (d : Nat) (E : List Int), e = .returned (.tuple #[.slice A l.length c, .slice B E.length d]) ∧ OL w' 3 w.heap.size A c l ∧ l.length ≤ 10 ∧ OL w' 3 w.heap.size B d E ∧ E.length ≤ 60 ∧ Below w.heap.size w w' := by
  go_enter Try.func42, Try.ntmps42
  go_wp2_with fail
  (with_reducible refine (newReader_any _ _ _ _ _ h).mono ?_)
  rintro e u0 ⟨rfl, hrd, hb⟩
  have hgl : w.heap.size < u0.heap.size := hrd.lt
  go_wp2_with fail
  (with_reducible refine (someSizes_any _ _ _ _ hrd (by omega) (by omega)).mono ?_)
  rintro e u1 ⟨A, c1, l, rfl, hol, hll, hel, hrd1, hon1⟩
  have hz1 := hon1.size
  have HO := hide hol
  have HEL := hide hel
  have HRD := hide hrd1
  have O1 := hide (on_call hon1 (on_below hb (on_refl w (some w.heap.size))))
  clear hon1 hb h hol hel hrd1 hrd
  go_wp2
  go_loop [6, 7] (fun v i => ∃ (k : Nat) (y : Int), k ≤ l.length ∧ v = .int .i64 y ∧ y = pfx l k ∧ i = .int .i64 k) (fun _ i => l.length - (intOf i).toNat)
  case atStart => exact ⟨0, 0, by omega, rfl, rfl, rfl⟩
  case round =>
    obtain ⟨k, y, hk, rfl, hy, rfl⟩ := hrel
    have yb := pfx_bd2 HEL.out hk
    rw [← hy] at yb
    by_cases hlt : k < l.length
    · obtain ⟨b, o, rfl, _, hc⟩ := HO.out.reads.at_ hlt
      have zb := HEL.out k hlt
      have N := hide (show pfx l (k + 1) = pfx l k + ng l k from rfl)
      rw [← hy] at N
      obtain ⟨z, hz⟩ : ∃ z, z = ng l k := ⟨_, rfl⟩
      rw [← hz] at hc zb N
      clear hy hz
      go_wp2
      go_round
      case rel => exact ⟨k + 1, y + z, by omega, rfl, N.out.symm, by go_num⟩
      case measure => simp [intOf]; omega
    · clear hy
      rcases (by omega : y < 0 ∨ 0 ≤ y ∧ 60 < y ∨ 0 ≤ y ∧ y ≤ 60) with q | ⟨q, q2⟩ | ⟨q, q2⟩
      · have SE0 := someEnds_any u1 _ _ _ 0 HRD.out (by omega) (by omega) (by omega)
        rw [show ((0 : Nat) : Int) = 0 from rfl] at SE0
        have SE := hide SE0
        clear SE0
        go_wp2_with fail
        ((with_reducible refine SE.out.mono ?_); rintro e u4 ⟨A5, c5, E, rfl, ho4, hel4, hin, hrd4, hon4⟩; have HO4 := hide (HO.out.read hon4 hgl); have O4 := hide (on_call hon4 O1.out); have HE := hide ho4; clear ho4 hon4 hin; go_wp2; go_ret2; exact ⟨A, c1, l, A5, c5, E, rfl, HO4.out.more (by omega), hll, HE.out.more (by omega), by omega, on_new O4.out (Nat.le_refl _)⟩)
      · have SE0 := someEnds_any u1 _ _ _ 60 HRD.out (by omega) (by omega) (by omega)
        rw [show ((60 : Nat) : Int) = 60 from rfl] at SE0
        have SE := hide SE0
        clear SE0
        go_wp2_with fail
        ((with_reducible refine SE.out.mono ?_); rintro e u4 ⟨A5, c5, E, rfl, ho4, hel4, hin, hrd4, hon4⟩; have HO4 := hide (HO.out.read hon4 hgl); have O4 := hide (on_call hon4 O1.out); have HE := hide ho4; clear ho4 hon4 hin; go_wp2; go_ret2; exact ⟨A, c1, l, A5, c5, E, rfl, HO4.out.more (by omega), hll, HE.out.more (by omega), by omega, on_new O4.out (Nat.le_refl _)⟩)
      · obtain ⟨m, rfl⟩ : ∃ m : Nat, y = m := ⟨y.toNat, by omega⟩
        have SE := hide (someEnds_any u1 _ _ _ m HRD.out (by omega) (by omega) (by omega))
        go_wp2_with fail
        ((with_reducible refine SE.out.mono ?_); rintro e u4 ⟨A5, c5, E, rfl, ho4, hel4, hin, hrd4, hon4⟩; have HO4 := hide (HO.out.read hon4 hgl); have O4 := hide (on_call hon4 O1.out); have HE := hide ho4; clear ho4 hon4 hin; go_wp2; go_ret2; exact ⟨A, c1, l, A5, c5, E, rfl, HO4.out.more (by omega), hll, HE.out.more (by omega), by omega, on_new O4.out (Nat.le_refl _)⟩)
end Go.Proofs.Ytlfhfbeacleggaa
