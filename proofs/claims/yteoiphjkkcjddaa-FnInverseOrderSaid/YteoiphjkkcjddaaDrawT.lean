/- Drawn texts and levels. -/
import Derived.Test.YteoiphjkkcjddaaDrawS
import Derived.Test.YteoiphjkkcjddaaLvT
namespace Go.Proofs.Yteoiphjkkcjddaa
open Go.ChangeShapes Go.WideShapes Go.ChangeAt Go.RowKit
set_option linter.unusedVariables false

set_option maxHeartbeats 1000000 in
theorem someText_any (w : World) (B g N : Nat) (h : RD w B g N) (hN : N ≤ 100000000) :
    Calls Try.prog 48 #[.pointer (some ⟨g, 0, none⟩)] w fun e w' => ∃ s : ByteArray, s.size ≤ 20 ∧ e = .returned (.string s) ∧ RD w' B g (N + 30) ∧ w.grownBy w' (some g) := by
  have hcv := conv_new
  have hos := one_size
  have hg := h.lt
  go_enter Try.func48, Try.ntmps48
  go_wp2_with fail
  (refine (pick_any _ B g _ _ h (by omega) (by omega) (by omega)).mono ?_)
  rintro e u0 ⟨r, hr0, hr1, rfl, hrd, hon⟩
  go_wp2
  go_loopw [3, 4] (fun v i u => ∃ (p m : Nat) (acc : ByteArray), p + m ≤ 13 ∧ i = .int .i64 m ∧ v = .string acc ∧ acc.size ≤ p ∧ RD u B g (N + 1 + p) ∧ w.grownBy u (some g)) (fun _ i _ => (intOf i).toNat)
  case atStart => exact ⟨0, r.toNat, ⟨#[]⟩, by omega, by go_num, rfl, by simp [ByteArray.size], hrd, hon⟩
  case round =>
    obtain ⟨p, m, acc, hpm, rfl, rfl, hp, hrd, hon⟩ := hrel
    have hgr := hrd.lt
    rcases Nat.eq_zero_or_pos m with hm | hm
    · subst hm
      go_wp2_with fail
      (refine (pick_any _ B g _ _ hrd (by omega) (by omega) (by omega)).mono ?_)
      rintro e u1 ⟨q, hq0, hq1, rfl, hrd1, hon1⟩
      have O1 := hide (on_call hon1 hon)
      have hg1 := hrd1.lt
      rcases (by omega : q = 0 ∨ 1 ≤ q) with rfl | hq
      · go_wp2_with fail
        refine (one_any _ B g _ _ _ (fun z => 0 ≤ z ∧ z ≤ 255) (hrd1.alloc _) (by omega) (by exact heap_alloc_new _ _) (by omega) (by rfl) (by decide) (by simp)).mono ?_
        rintro e u2 ⟨z, ⟨z0, z1⟩, rfl, hrd2, hon2⟩
        have O2 := hide (on_call hon2 (on_alloc O1.out _))
        have wz : IntKind.u8.wrap z = z := by rw [IntKind.wrap_u8]; omega
        have hh : (acc ++ one z).size ≤ 20 := by rw [ByteArray.size_append, one_size]; omega
        have hh := hide hh
        go_wp2
        go_ret
        exact ⟨_, hh.out, rfl, (hrd2.alloc _).more (by omega) (Nat.le_refl _) (hrd2.alloc _).2.1, on_alloc O2.out _⟩
      · go_wp2
        go_ret
        exact ⟨acc, by omega, rfl, hrd1.more (by omega) (Nat.le_refl _) hrd1.2.1, O1.out⟩
    · go_wp2_with fail
      refine (of_any _ B g _ _ _ (fun z => z.size ≤ 1) (RD.alloc hrd _) (by omega) (by exact heap_alloc_new _ _) (by omega) (by rfl) (by decide) (strs_le (by rfl))).mono ?_
      rintro e u1 ⟨z, hz, rfl, hrd1, hon1⟩
      have O1 := hide (on_call hon1 (on_alloc hon _))
      have hh : (acc ++ z).size ≤ p + 1 := by rw [ByteArray.size_append]; omega
      have hh := hide hh
      go_wp2
      go_roundw
      case rel => exact ⟨p + 1, m - 1, acc ++ z, by omega, by go_num, rfl, hh.out, hrd1, O1.out⟩
      case measure => simp [intOf]; omega

set_option maxHeartbeats 1000000 in
theorem DrawLevelsOf_any (w : World) (a : Option Addr) (n c : Nat) (zs : List Int) (h : IsRow .u8 w a n c zs) :
    Calls Try.prog 31 #[.slice a n c] w fun e w' => ∃ (s : ByteArray) (b : Int), s.size ≤ 20 ∧ (-1 ≤ b ∧ b ≤ 2) ∧ e = .returned (.tuple #[.string s, .int .i64 b]) ∧ Below w.heap.size w w' := by
  go_enter Try.func31, Try.ntmps31
  go_wp2_with fail
  refine (newReader_any _ _ _ _ _ h).mono ?_
  rintro e u0 ⟨rfl, hrd, hb⟩
  go_wp2_with fail
  refine (someText_any _ _ _ _ hrd (by omega)).mono ?_
  rintro e u1 ⟨s, hs, rfl, hrd1, hon1⟩
  have hz1 := hrd1.lt
  have O1 := hide (on_call hon1 (on_below hb (on_refl _ _)))
  go_wp2_with fail
  refine (one_any _ _ _ _ _ _ (fun z => -1 ≤ z ∧ z ≤ 2) (hrd1.alloc _) (by omega) (by exact heap_alloc_new _ _) (by omega) (by rfl) (by decide) (by simp)).mono ?_
  rintro e u2 ⟨z, hz, rfl, hrd2, hon2⟩
  have hb4 : Below w.heap.size w u2 := on_new (on_call hon2 (on_alloc O1.out _)) (Nat.le_refl _)
  go_wp2
  go_ret2
  exact ⟨s, z, hs, hz, rfl, hb4⟩
theorem DrawShowText_any (w : World) (a : Option Addr) (n c : Nat) (zs : List Int) (h : IsRow .u8 w a n c zs) :
    Calls Try.prog 34 #[.slice a n c] w fun e w' => ∃ (s : ByteArray) (b : Int), s.size ≤ 20 ∧ (-1 ≤ b ∧ b ≤ 2) ∧ e = .returned (.tuple #[.string s, .int .i64 b]) ∧ Below w.heap.size w w' := by
  go_enter Try.func34, Try.ntmps34
  go_wp2_with fail
  refine (DrawLevelsOf_any _ _ _ _ _ h).mono ?_
  rintro e u0 ⟨s, z, hs, hz, rfl, hb⟩
  go_wp2
  go_ret2
  exact ⟨s, z, hs, hz, rfl, hb⟩

set_option maxHeartbeats 1000000 in
theorem DrawOrderOf_any (w : World) (a : Option Addr) (n c : Nat) (zs : List Int) (h : IsRow .u8 w a n c zs) :
    Calls Try.prog 33 #[.slice a n c] w fun e w' => ∃ (A : Option Addr) (c : Nat) (l : List Int), e = .returned (.slice A l.length c) ∧ OL w' 3 w.heap.size A c l ∧ l.length ≤ 9 ∧ Below w.heap.size w w' := by
  obtain ⟨i0, hi0, jz0, jz1, jz2⟩ := info_parts int_info
  go_enter Try.func33, Try.ntmps33
  go_wp2_with fail
  refine (newReader_any _ _ _ _ _ h).mono ?_
  rintro e u0 ⟨rfl, hrd, hb⟩
  have hgl : w.heap.size < u0.heap.size := hrd.lt
  have H0 : Hid (OL (u0.alloc (.cells #[] 3)) 3 u0.heap.size (some ⟨u0.heap.size, 0, none⟩) 0 []) := hide (by
      have := OL.lit (w := u0) (e := 3) (B := u0.heap.size) (Nat.le_refl _) [] (by simp)
      simpa using this)
  go_wp2_with fail
  refine (pick_any _ _ _ _ _ (hrd.alloc (.cells #[] 3)) (by omega) (by omega) (by omega)).mono ?_
  rintro e u1 ⟨r, hr0, hr1, rfl, hrd1, hon1⟩
  have H1 := hide (H0.out.read hon1 hgl)
  have O1 := hide (on_call hon1 (on_alloc (on_refl u0 (some w.heap.size)) (.cells #[] 3)))
  have HB := hide hb
  have z1 := hon1.size
  simp at z1
  clear hon1 hrd hb h
  go_wp2
  go_loopw [4, 5] (fun v i u => ∃ (m k : Nat) (A : Option Addr) (cc : Nat) (l : List Int), k = l.length ∧ k + m ≤ 9 ∧ v = .slice A k cc ∧ i = .int .i64 m ∧ OL u 3 u0.heap.size A cc l ∧ RD u (w.heap.size + 1) w.heap.size (1 + k) ∧ u0.grownBy u (some w.heap.size)) (fun _ i _ => (intOf i).toNat)
  case atStart => exact ⟨r.toNat, 0, _, _, [], rfl, by omega, rfl, by go_num, H1.out, hrd1, O1.out⟩
  case round =>
    clear hrd1
    obtain ⟨m, k, A, cc, l, hk, hkm, rfl, rfl, hol, hrd, hon⟩ := hrel
    have HK := hide hk
    have hzr := hon.size
    have hgr := hrd.lt
    clear hk
    rcases Nat.eq_zero_or_pos m with hm | hm
    · subst hm
      rcases Nat.eq_zero_or_pos k with hk0 | hk0
      · subst hk0
        go_wp2
        go_ret
        exact ⟨A, cc, l, by rw [← HK.out]; rfl, hol.more HB.out.size, by rw [← HK.out]; omega, on_new (on_call hon (on_below HB.out (on_refl _ _))) (Nat.le_refl _)⟩
      · go_wp2_with fail
        refine (pick_any _ _ _ _ _ hrd (by omega) (by omega) (by omega)).mono ?_
        rintro e u2 ⟨q, hq0, hq1, rfl, hrd2, hon2⟩
        have O2 := hide (on_call hon2 hon)
        have hol1 := hol.read hon2 hgl
        have hz1 := hon2.size
        have hg2 := hrd2.lt
        clear hol hon2 hon
        rcases (by omega : q = 0 ∨ 1 ≤ q) with rfl | hq
        · go_wp2_with fail
          refine (one_any _ _ _ _ _ _ (fun _ => True) (hrd2.alloc _) (by omega) (by exact heap_alloc_new _ _) (by omega) (by rfl) (by decide) (by simp)).mono ?_
          rintro e u3 ⟨z, hz, rfl, hrd3, hon3⟩
          have hol2 := (hol1.alloc (.cells #[.int .i64 (-1), .int .i64 7, .int .i64 6] 3)).read hon3 hgl
          have O3 := hide (on_call hon3 (on_alloc O2.out _))
          obtain ⟨g', rfl, hBg, hgz, hfz⟩ := hol2.frozen (by rw [← HK.out]; omega)
          obtain ⟨b, o, he, _, hc⟩ := hol2.reads.at_ (i := 0) (by rw [← HK.out]; omega)
          injection he with he
          cases he
          have fz := hfz 0
          have M := hide (hol2.set_ 0 z).1
          rw [Nat.zero_add] at hc
          clear hfz hon3 hol1 hol2
          go_wp2
          go_ret
          refine ⟨some ⟨g', 0, none⟩, cc, l.set 0 z, by rw [List.length_set, ← HK.out]; rfl, M.out.more HB.out.size, by rw [List.length_set, ← HK.out]; omega, ?_⟩
          exact on_new (on_call (on_set O3.out (.inr hBg) _) (on_below HB.out (on_refl _ _))) (Nat.le_refl _)
        · go_wp2
          go_ret
          exact ⟨A, cc, l, by rw [← HK.out]; rfl, hol1.more HB.out.size, by rw [← HK.out]; omega, on_new (on_call O2.out (on_below HB.out (on_refl _ _))) (Nat.le_refl _)⟩
    · go_wp2_with fail
      refine (pick_any _ _ _ _ _ hrd (by omega) (by omega) (by omega)).mono ?_
      rintro e u2 ⟨q, hq0, hq1, rfl, hrd2, hon2⟩
      have O2 := hide (on_call hon2 hon)
      have hol1 := hol.read hon2 hgl
      have hz1 := hon2.size
      have hk2 : k ≤ 9 := by omega
      clear hol hon2 hon
      go_wp2_with (at_builtin; refine wpList_append_int rfl (.tmp 15) (.tmp 18) _ rfl 3 i0 Try.underlying22 hi0 jz0 jz1 jz2 (u0.heap.size) A cc k l rfl (HK.out) (hol1.alloc _) u2.heap.size q rfl (by simp) (by omega) (by simp; omega) ?_; intro A' c' w' hol' hb' hg')
      go_roundw
      case rel =>
        have hr := (hrd2.alloc (.cells #[.int .i64 q] 3)).below' hb' (by omega)
        exact ⟨m - 1, k + 1, A', c', l ++ [q], by simp [HK.out], by omega, rfl, by go_num, hol', hr.more (by omega) (Nat.le_refl _) hr.2.1, on_below' hb' (Nat.le_refl _) (on_alloc O2.out _)⟩
      case measure => simp [intOf]; omega
end Go.Proofs.Yteoiphjkkcjddaa
