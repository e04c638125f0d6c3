/- LineGlue and BoxesOf of the model. -/
import Derived.Test.YtmolkppdfbldnaaLgT
import Derived.Test.YtmolkppdfbldnaaBx
namespace Go.Proofs.Ytmolkppdfbldnaa
open Go.ChangeShapes Go.WideShapes Go.ChangeAt Go.RowKit
set_option linter.unusedVariables false

set_option maxHeartbeats 2000000 in
theorem boxesOf_s (w : World) (A : Option Addr) (c : Nat) (L : List It) (h : TL w A L.length L) (hl : L.length ≤ 1048576) (a : Int) (p q : Nat) (hp : a + 1 = (p : Int)) (hpl : p ≤ q) (hq : q < L.length) :
    Calls Try.prog 67 #[.slice A L.length c, .int .i64 a, .int .i64 q] w (RetL w (bxN L p (q - p))) := by
  have HI := hide h
  have wp : IntKind.i64.wrap (a + 1) = (p : Int) := by rw [hp]; exact IntWalk.i64_in _ (by omega)
  clear h hp
  obtain ⟨i0, hi0, jz0, jz1, jz2⟩ := info_parts int_info
  have H0 : Hid (OL (w.alloc (.cells #[] 3)) 3 w.heap.size (some ⟨w.heap.size, 0, none⟩) 0 []) := hide (by
    have := OL.lit (w := w) (e := 3) (B := w.heap.size) (Nat.le_refl _) [] (by simp)
    simpa using this)
  go_enter Try.func67, Try.ntmps67
  go_wp2
  go_loopw [7, 8] (fun t i u => ∃ (k : Nat) (A2 : Option Addr) (m cc : Nat), p ≤ k ∧ k ≤ q ∧ t = .slice A2 m cc ∧ i = .int .i64 k ∧ m = (bxN L p (k - p)).length ∧ OL u 3 w.heap.size A2 cc (bxN L p (k - p)) ∧ Below w.heap.size w u) (fun _ i _ => q - (intOf i).toNat)
  case atStart => exact ⟨p, _, 0, _, by omega, hpl, rfl, rfl, by rw [Nat.sub_self]; rfl, by rw [Nat.sub_self]; exact H0.out, bl_alloc (bl_refl w) _⟩
  case round =>
    obtain ⟨k, A2, m, cc, hpk, hk, rfl, rfl, hm, hol, hbl⟩ := hrel
    have hmk : m ≤ k - p := by rw [hm]; exact bxN_len L p (k - p)
    have HM := hide hm
    have HB := hide hbl
    have hzr := hbl.size
    clear hm
    by_cases hlt : k < q
    · have hkl : k < L.length := by omega
      have hkl2 : (k : Int) < (L.length : Int) := by omega
      obtain ⟨b, o, rfl, hb0, c0, c1, c2, c3, c4, c5⟩ := HI.out.at6 hkl
      have c0 := (hbl.cell (p := ⟨b, o + k * 6, none⟩) hb0).trans c0
      obtain ⟨x, hx⟩ : ∃ x, x = (tg L k).k := ⟨_, rfl⟩
      have ST := hide (show bxN L p (k + 1 - p) = if x = 1 then bxN L p (k - p) ++ [(k : Int)] else bxN L p (k - p) by rw [bxN_step hpk, hx]; simp [isB])
      rw [← hx] at c0
      clear hx c1 c2 c3 c4 c5 hbl
      rcases (by omega : x = 1 ∨ x ≠ 1) with rfl | h1
      · have M := hide (show bxN L p (k + 1 - p) = bxN L p (k - p) ++ [(k : Int)] by rw [ST.out]; rfl)
        go_wp2_with (at_builtin; refine wpList_append_int rfl (.tmp 23) (.tmp 25) _ rfl 3 i0 Try.underlying24 hi0 jz0 jz1 jz2 (w.heap.size) A2 cc m (bxN L p (k - p)) rfl (HM.out) (hol.alloc _) wr.heap.size (k : Int) rfl (by simp) (by omega) (by simp; omega) ?_; intro A' c' w' hol' hb' hg')
        go_roundw
        case rel => exact ⟨k + 1, A', m + 1, c', by omega, by omega, rfl, by go_num, by rw [M.out, List.length_append, ← HM.out]; rfl, by rw [M.out]; exact hol', (bl_alloc HB.out _).trans hb'⟩
        case measure => simp [intOf]; omega
      · have g1 : (x == 1) = false := beq_eq_false_iff_ne.2 h1
        have M := hide (show bxN L p (k + 1 - p) = bxN L p (k - p) by rw [ST.out, if_neg h1])
        clear h1
        go_wp2
        go_roundw
        case rel => exact ⟨k + 1, A2, m, cc, by omega, by omega, rfl, by go_num, by rw [M.out]; exact HM.out, by rw [M.out]; exact hol, HB.out⟩
        case measure => simp [intOf]; omega
    · have HE := hide (show k = q by omega)
      go_wp2
      go_ret
      refine ⟨A2, cc, by rw [HM.out, HE.out]; rfl, ?_, HB.out⟩
      rw [← HE.out]
      exact hol
set_option maxHeartbeats 2000000 in
theorem BoxesOf_s (w : World) (A : Option Addr) (n c : Nat) (L : List It) (h : TL w A n L) (hn : n ≤ 1048576) (a b : Int) (wa : -9223372036854775808 ≤ a ∧ a ≤ 9223372036854775807) (wb : -9223372036854775808 ≤ b ∧ b ≤ 9223372036854775807) :
    Calls Try.prog 31 #[.slice A n c, .int .i64 a, .int .i64 b] w (RetL w (bxO L a b)) := by
  have VL := hide (validLine_s w A n c L h hn a b wa wb)
  obtain rfl : n = L.length := h.1
  have HI := hide h
  clear h wa wb
  cases hok : okL L a b
  · have E := hide (bxO_no hok)
    rw [hok] at VL
    clear hok
    go_enter Try.func31, Try.ntmps31
    go_wp2_with fail
    (with_reducible refine VL.out.mono ?_)
    rintro e u1 ⟨rfl, hb⟩
    go_wp2
    go_ret
    exact ⟨none, 0, by rw [E.out]; rfl, by rw [E.out]; exact OL.nil _ _ _, hb⟩
  · have hh := hok
    simp only [okL, Bool.and_eq_true] at hh
    obtain ⟨p, q, hp, rfl, hpq, hq, _⟩ := hasL_of hh.2
    have E := hide (bxO_yes hok hp rfl)
    have HBX := hide (fun (u : World) (hu : TL u A L.length L) => boxesOf_s u A c L hu hn a p q hp hpq hq)
    rw [hok] at VL
    clear hok hh hp
    go_enter Try.func31, Try.ntmps31
    go_wp2_with fail
    (with_reducible refine VL.out.mono ?_)
    rintro e u1 ⟨rfl, hb⟩
    have HB1 := hide hb
    have HI1 := hide (HI.out.below hb)
    clear hb
    go_wp2_with fail
    (with_reducible refine (HBX.out _ HI1.out).mono ?_)
    rintro e u3 ⟨A3, c3, rfl, ho, hb⟩
    have HB3 := hide (bl_call hb HB1.out)
    have HO := hide (World.ownsRow.mono ho HB1.out.size)
    clear hb ho
    go_wp2
    go_ret
    exact ⟨A3, c3, by rw [E.out]; first | done | rfl, by rw [E.out]; exact HO.out, HB3.out⟩
set_option maxHeartbeats 2000000 in
theorem LineGlue_s (w : World) (A : Option Addr) (n c : Nat) (L : List It) (h : TL w A n L) (hn : n ≤ 1048576) (a b : Int) (wa : -9223372036854775808 ≤ a ∧ a ≤ 9223372036854775807) (wb : -9223372036854775808 ≤ b ∧ b ≤ 9223372036854775807) :
    Calls Try.prog 28 #[.slice A n c, .int .i64 a, .int .i64 b] w fun e w' => e = .returned (lgO L a b) ∧ Below w.heap.size w w' := by
  have VL := hide (validLine_s (w.alloc (.cells #[.int .i64 0, .int .i64 0, .int .i64 0] 34)) A n c L (h.alloc _) hn a b wa wb)
  obtain rfl : n = L.length := h.1
  have HI := hide (h.alloc (.cells #[.int .i64 0, .int .i64 0, .int .i64 0] 34))
  have r0 : (w.alloc (.cells #[.int .i64 0, .int .i64 0, .int .i64 0] 34)).cell? ⟨w.heap.size, 0, none⟩ = some (.int .i64 0) := by simp [go_sem]
  have r1 : (w.alloc (.cells #[.int .i64 0, .int .i64 0, .int .i64 0] 34)).cell? ⟨w.heap.size, 1, none⟩ = some (.int .i64 0) := by simp [go_sem]
  have r2 : (w.alloc (.cells #[.int .i64 0, .int .i64 0, .int .i64 0] 34)).cell? ⟨w.heap.size, 2, none⟩ = some (.int .i64 0) := by simp [go_sem]
  have f0 : (w.alloc (.cells #[.int .i64 0, .int .i64 0, .int .i64 0] 34)).frozen? ⟨w.heap.size, 0, none⟩ = false := by simp [go_sem]
  have f1 : (w.alloc (.cells #[.int .i64 0, .int .i64 0, .int .i64 0] 34)).frozen? ⟨w.heap.size, 1, none⟩ = false := by simp [go_sem]
  have f2 : (w.alloc (.cells #[.int .i64 0, .int .i64 0, .int .i64 0] 34)).frozen? ⟨w.heap.size, 2, none⟩ = false := by simp [go_sem]
  have lx : w.heap.size < (w.alloc (.cells #[.int .i64 0, .int .i64 0, .int .i64 0] 34)).heap.size := by simp
  have HB0 := hide (bl_alloc (bl_refl w) (.cells #[.int .i64 0, .int .i64 0, .int .i64 0] 34))
  clear h wa wb
  cases hok : okL L a b
  · have E := hide (lgO_no hok)
    rw [hok] at VL
    clear hok
    go_enter Try.func28, Try.ntmps28
    go_wp2_with fail
    (with_reducible refine VL.out.mono ?_)
    rintro e u1 ⟨rfl, hb⟩
    have r0 := keep_cell hb r0; have r1 := keep_cell hb r1; have r2 := keep_cell hb r2; have f0 := (hb.frozen (p := ⟨w.heap.size, 0, none⟩) lx).trans f0; have f1 := (hb.frozen (p := ⟨w.heap.size, 1, none⟩) lx).trans f1; have f2 := (hb.frozen (p := ⟨w.heap.size, 2, none⟩) lx).trans f2; have lx := Nat.lt_of_lt_of_le lx hb.size
    have hb9 := bl_call hb HB0.out
    clear hb
    go_wp2
    refine bodyPost_ret (v := .tuple #[gv 0 0 0, .bool false]) (by simp [results, Try.results28, go_sem, *]) rfl ⟨by rw [E.out], ?_⟩
    (repeat' (first | with_reducible exact bl_refl _ | with_reducible assumption | with_reducible refine bl_alloc ?_ _ | with_reducible refine bl_set ?_ ?_ _ | with_reducible refine bl_drewN ?_ _ | with_reducible refine bl_drew ?_ | with_reducible refine bl_call (by assumption) ?_))
    (all_goals (first | omega | (simp; done) | (simp; omega)))
  · have hh := hok
    simp only [okL, Bool.and_eq_true] at hh
    obtain ⟨p, q, hp, rfl, hpq, hq, _, _, hnf⟩ := hasL_of hh.2
    have OK := isOk_iff.1 hh.1
    have E := hide (lgO_yes hok hp rfl)
    rw [← stS_min hpq (by omega) hnf] at E
    have HLG := hide (fun (u : World) (hu : TL u A L.length L) => lineGlue_s u A c L hu OK.1 OK.2.1.2 a p q hp hpq hq)
    rw [hok] at VL
    clear hok hh hp OK hnf
    go_enter Try.func28, Try.ntmps28
    go_wp2_with fail
    (with_reducible refine VL.out.mono ?_)
    rintro e u1 ⟨rfl, hb⟩
    have r0 := keep_cell hb r0; have r1 := keep_cell hb r1; have r2 := keep_cell hb r2; have f0 := (hb.frozen (p := ⟨w.heap.size, 0, none⟩) lx).trans f0; have f1 := (hb.frozen (p := ⟨w.heap.size, 1, none⟩) lx).trans f1; have f2 := (hb.frozen (p := ⟨w.heap.size, 2, none⟩) lx).trans f2; have lx := Nat.lt_of_lt_of_le lx hb.size
    have HB1 := hide (bl_call hb HB0.out)
    have HI1 := hide (HI.out.below hb)
    clear hb
    go_wp2_with fail
    (with_reducible refine (HLG.out _ HI1.out).mono ?_)
    rintro e u3 ⟨rfl, hb⟩
    have r0 := keep_cell hb r0; have r1 := keep_cell hb r1; have r2 := keep_cell hb r2; have f0 := (hb.frozen (p := ⟨w.heap.size, 0, none⟩) lx).trans f0; have f1 := (hb.frozen (p := ⟨w.heap.size, 1, none⟩) lx).trans f1; have f2 := (hb.frozen (p := ⟨w.heap.size, 2, none⟩) lx).trans f2; have lx := Nat.lt_of_lt_of_le lx hb.size
    have hb9 := bl_call hb HB1.out
    clear hb
    obtain ⟨z0, hz0⟩ : ∃ z, z = sW L q - sW L (min (stS L p) q) + atW (tg L q) := ⟨_, rfl⟩
    obtain ⟨z1, hz1⟩ : ∃ z, z = sT L q - sT L (min (stS L p) q) := ⟨_, rfl⟩
    obtain ⟨z2, hz2⟩ : ∃ z, z = sS L q - sS L (min (stS L p) q) := ⟨_, rfl⟩
    rw [← hz0, ← hz1, ← hz2] at E ⊢
    clear hz0 hz1 hz2
    go_wp2
    refine bodyPost_ret (v := .tuple #[gv z0 z1 z2, .bool true]) (by simp [results, Try.results28, go_sem, *]) rfl ⟨by rw [E.out], ?_⟩
    (repeat' (first | with_reducible exact bl_refl _ | with_reducible assumption | with_reducible refine bl_alloc ?_ _ | with_reducible refine bl_set ?_ ?_ _ | with_reducible refine bl_drewN ?_ _ | with_reducible refine bl_drew ?_ | with_reducible refine bl_call (by assumption) ?_))
    (all_goals (first | omega | (simp; done) | (simp; omega)))
end Go.Proofs.Ytmolkppdfbldnaa
