/- Breaks and lines in the model. -/
import Derived.Test.YtafddofajfcffaaParM
namespace Go.Proofs.Ytafddofajfcffaa
open Go.ChangeShapes Go.WideShapes Go.ChangeAt Go.RowKit
set_option linter.unusedVariables false

set_option maxHeartbeats 1000000 in
theorem isBreak_s (w : World) (A : Option Addr) (c : Nat) (L : List It) (h : TL w A L.length L) (i : Nat) (hi : i < L.length) (hl : L.length ≤ 1048576) :
    Calls Try.prog 87 #[.slice A L.length c, .int .i64 i] w fun e w' => e = .returned (.bool (mayE L i)) ∧ w = w' := by
  obtain ⟨b, o, rfl, hb0, c0, c1, c2, c3, c4, c5⟩ := h.at6 hi
  obtain ⟨x, hx⟩ : ∃ x, x = (tg L i).k := ⟨_, rfl⟩
  obtain ⟨y, hy⟩ : ∃ y, y = (tg L i).p := ⟨_, rfl⟩
  have E0 : mayE L i = if x = 2 then decide (0 < i) && isB (tg L (i - 1)) else if x = 3 then decide (y < 1000) else false := by rw [hx, hy]; rfl
  rw [← hx] at c0
  rw [← hy] at c4
  clear hx hy c1 c2 c3 c5
  rcases (by omega : x = 2 ∨ x = 3 ∨ (x ≠ 2 ∧ x ≠ 3)) with rfl | rfl | ⟨h2, h3⟩
  · rcases Nat.eq_zero_or_pos i with hi0 | hi0
    · have E : Hid (mayE L i = false) := hide (by rw [E0, hi0]; rfl)
      have q1 : ¬ 0 < i := by omega
      clear E0 hi0
      go_enter Try.func87, Try.ntmps87
      go_wp2
      go_ret
      exact ⟨bool_ret E.out.symm, rfl⟩
    · obtain ⟨m, hm⟩ : ∃ m, i = m + 1 := ⟨i - 1, by omega⟩
      have em : (i : Int) - 1 = (m : Int) := by omega
      have hml : m < L.length := by omega
      obtain ⟨b', o', he, _, d0, d1, d2, d3, d4, d5⟩ := h.at6 hml
      injection he with he
      cases he
      obtain ⟨z, hz⟩ : ∃ z, z = (tg L m).k := ⟨_, rfl⟩
      have E1 : mayE L i = decide (z = 1) := by rw [E0, if_pos rfl, hm, Nat.add_sub_cancel, hz]; simp [isB]
      rw [← hz] at d0
      have HE := hide E1
      clear E0 E1 hz d1 d2 d3 d4 d5 hm
      rcases (by omega : z = 1 ∨ z ≠ 1) with rfl | hz1
      · go_enter Try.func87, Try.ntmps87
        go_wp2
        go_ret
        exact ⟨bool_ret (by rw [HE.out]; rfl), rfl⟩
      · have g : (z == 1) = false := beq_eq_false_iff_ne.2 hz1
        have HE2 : Hid (mayE L i = false) := hide (by rw [HE.out]; simpa using hz1)
        clear hz1
        go_enter Try.func87, Try.ntmps87
        go_wp2
        go_ret
        exact ⟨bool_ret HE2.out.symm, rfl⟩
  · have E : Hid (mayE L i = decide (y < 1000)) := hide (by rw [E0]; rfl)
    clear E0
    rcases (by omega : y < 1000 ∨ 1000 ≤ y) with hy | hy
    · go_enter Try.func87, Try.ntmps87
      go_wp2
      go_ret
      exact ⟨bool_ret (by rw [E.out]; try simp; try omega), rfl⟩
    · go_enter Try.func87, Try.ntmps87
      go_wp2
      go_ret
      exact ⟨bool_ret (by rw [E.out]; try simp; try omega), rfl⟩
  · have E : Hid (mayE L i = false) := hide (by rw [E0, if_neg h2, if_neg h3])
    have g2 : (x == 2) = false := beq_eq_false_iff_ne.2 h2
    have g3 : (x == 3) = false := beq_eq_false_iff_ne.2 h3
    clear E0 h2 h3
    go_enter Try.func87, Try.ntmps87
    go_wp2
    go_ret
    exact ⟨bool_ret E.out.symm, rfl⟩

set_option maxHeartbeats 2000000 in
theorem BreaksOf_s (w : World) (A : Option Addr) (n c : Nat) (L : List It) (h : TL w A n L) (hn : n ≤ 1048576) :
    Calls Try.prog 151 #[.slice A n c] w (RetL w (brO L)) := by
  obtain rfl : n = L.length := h.1
  have HI := hide h
  clear h
  obtain ⟨ok, hok⟩ : ∃ ok, ok = isOk L := ⟨_, rfl⟩
  have VI := fun (u : World) (h : TL u A L.length L) => validItems_s u A L.length c L h (by omega)
  rw [← hok] at VI
  have HVI := hide VI
  have HOK := hide hok
  clear VI hok
  obtain ⟨i0, hi0, jz0, jz1, jz2⟩ := info_parts int_info
  cases ok
  · have E := hide (brO_no HOK.out.symm)
    go_enter Try.func151, Try.ntmps151
    go_wp2_with fail
    (with_reducible refine (HVI.out _ (HI.out.alloc _)).mono ?_)
    rintro e u1 ⟨rfl, hb⟩
    go_wp2
    go_ret
    exact ⟨none, 0, by rw [E.out]; rfl, by rw [E.out]; exact OL.nil _ _ _, bl_call hb (bl_alloc (bl_refl _) _)⟩
  · have E := hide (brO_yes HOK.out.symm)
    have hl60 := (isOk_iff.1 HOK.out.symm).2.1
    have H0 : Hid (OL (w.alloc (.cells #[] 3)) 3 w.heap.size (some ⟨w.heap.size, 0, none⟩) 0 []) := hide (by
      have := OL.lit (w := w) (e := 3) (B := w.heap.size) (Nat.le_refl _) [] (by simp)
      simpa using this)
    go_enter Try.func151, Try.ntmps151
    go_wp2_with fail
    (with_reducible refine (HVI.out _ (HI.out.alloc _)).mono ?_)
    rintro e u1 ⟨rfl, hb⟩
    have H1 := hide (H0.out.below hb)
    have HB1 := hide (bl_call hb (bl_alloc (bl_refl w) _))
    clear hb
    go_wp2
    go_loopw [3, 4] (fun t i u => ∃ (k : Nat) (A2 : Option Addr) (m cc : Nat), k ≤ L.length ∧ t = .slice A2 m cc ∧ i = .int .i64 k ∧ m = (brTo L k).length ∧ OL u 3 w.heap.size A2 cc (brTo L k) ∧ Below w.heap.size w u) (fun _ i _ => L.length - (intOf i).toNat)
    case atStart => exact ⟨0, _, 0, _, by omega, rfl, rfl, rfl, H1.out, HB1.out⟩
    case round =>
      obtain ⟨k, A2, m, cc, hk, rfl, rfl, hm, hol, hbl⟩ := hrel
      have hmk : m ≤ k := by rw [hm]; exact brTo_len L k
      have HM := hide hm
      have HB := hide hbl
      have hzr := hbl.size
      clear hm
      by_cases hlt : k < L.length
      · have IB := fun (u : World) (h : TL u A L.length L) => isBreak_s u A c L h k hlt (by omega)
        obtain ⟨fb, hfb⟩ : ∃ fb, fb = mayE L k := ⟨_, rfl⟩
        rw [← hfb] at IB
        have HIB := hide IB
        have HTL := hide (HI.out.below hbl)
        have ST := hide (show brTo L (k + 1) = if fb then brTo L k ++ [(k : Int)] else brTo L k by rw [hfb]; rfl)
        clear IB hfb hbl
        go_wp2_with fail
        (with_reducible refine (HIB.out _ HTL.out).mono ?_)
        rintro e w' ⟨rfl, rfl⟩
        cases fb
        · have M := hide (show brTo L (k + 1) = brTo L k by rw [ST.out]; rfl)
          go_wp2
          go_roundw
          case rel => exact ⟨k + 1, A2, m, cc, by omega, rfl, by go_num, by rw [M.out]; exact HM.out, by rw [M.out]; exact hol, HB.out⟩
          case measure => simp [intOf]; omega
        · have M := hide (show brTo L (k + 1) = brTo L k ++ [(k : Int)] by rw [ST.out]; rfl)
          go_wp2_with (at_builtin; refine wpList_append_int rfl (.tmp 18) (.tmp 20) _ rfl 3 i0 Try.underlying24 hi0 jz0 jz1 jz2 (w.heap.size) A2 cc m (brTo L k) rfl (HM.out) (hol.alloc _) wr.heap.size (k : Int) rfl (by simp) (by omega) (by simp; omega) ?_; intro A' c' w' hol' hb' hg')
          go_roundw
          case rel => exact ⟨k + 1, A', m + 1, c', by omega, rfl, by go_num, by rw [M.out, List.length_append, ← HM.out]; rfl, by rw [M.out]; exact hol', (bl_alloc HB.out _).trans hb'⟩
          case measure => simp [intOf]; omega
      · have hke : k = L.length := by omega
        have HE := hide hke
        clear hke
        go_wp2
        go_ret
        refine ⟨A2, cc, by rw [E.out, HM.out, HE.out]; rfl, ?_, HB.out⟩
        rw [E.out, ← HE.out]
        exact hol
end Go.Proofs.Ytafddofajfcffaa
