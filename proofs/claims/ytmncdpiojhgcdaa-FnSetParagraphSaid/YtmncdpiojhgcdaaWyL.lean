/- The search for the least way: all ways are extended to a break of a paragraph. -/
import Derived.Test.YtmncdpiojhgcdaaSb
namespace Go.Proofs.Ytmncdpiojhgcdaa
open Go.ChangeShapes Go.WideShapes Go.ChangeAt Go.RowKit
set_option linter.unusedVariables false
set_option maxRecDepth 4000

set_option maxHeartbeats 4000000 in
theorem extend_lines (w : World) (B S : Nat) (hd : List Wy) (act : Nat) (cnt : Bool) (tt : Int) (C : Int → Int → Int → Int × Bool) (q1 q2 q3 : Value) (hs : WSt w B S hd act cnt) (h0 : 0 < hd.length) (hl : hd.length ≤ 100000) (ha : act ≤ hd.length)
    (hb : ∀ i, i < hd.length → (0 ≤ (tg hd i).p ∧ (tg hd i).p ≤ 1000000) ∧ (-1000000000000000 ≤ (tg hd i).c ∧ (tg hd i).c ≤ 1000000000000000)) (hM : ∀ i a b, -1000000000000 ≤ (C i a b).1 ∧ (C i a b).1 ≤ 1000000000000)
    (HC : ∀ u, Below B w u → ∀ i, act ≤ i → i < hd.length → Calls Try.prog 130 #[.int .i64 (tg hd i).p, .int .i64 (tg hd i).a, .int .i64 tt, q1, q2, q3] u fun e u' => e = .returned (.tuple #[.int .i64 (C (tg hd i).p (tg hd i).a tt).1, .bool (C (tg hd i).p (tg hd i).a tt).2]) ∧ Below u.heap.size u u') :
    Calls Try.prog 116 #[.pointer (some ⟨S, 0, none⟩), .int .i64 tt, .func (.func 130) #[] #[q1, q2, q3]] w fun e w' => (∃ v, e = .returned v) ∧ WSt w' B S (hd ++ extR C cnt tt hd act) act cnt ∧ Below B w w' ∧ KeepsOthers w w' := by
  have HHC := hide HC
  have HB := hide hb
  have HS0 := hide hs
  have hBS := hs.hB
  have c1 := hs.c1
  obtain ⟨g, c, c0, _, _⟩ := hs.own
  have W0 := hide (show WSt w B S (hd ++ []) act cnt by rw [List.append_nil]; exact hs)
  clear HC hb hs
  go_enter Try.func116, Try.ntmps116
  go_wp2
  clear c0 c1
  go_loopw [7] (fun i u => ∃ (k m : Nat) (tl : List Wy), act ≤ k ∧ k + m = hd.length ∧ i = .int .i64 k ∧ extR C cnt tt hd act = extT C cnt tt hd m k tl ∧ tl.length ≤ k ∧ WSt u B S (hd ++ tl) act cnt ∧ Below B w u ∧ KeepsOthers w u) (fun i _ => hd.length - (intOf i).toNat)
  case atStart => exact ⟨act, hd.length - act, [], Nat.le_refl _, by omega, rfl, rfl, by simp, W0.out, Below.refl _ _, ko_refl _⟩
  case round =>
    obtain ⟨k, m, tl, hak, hkm, rfl, hex, htl, hws, hbl, hko⟩ := hrel
    have HKO := hide hko
    have HE := hide hex
    have HW := hide hws
    have HBL := hide hbl
    have hSz := hws.hS
    have hlen := hide (show (hd ++ tl).length = hd.length + tl.length by simp)
    obtain ⟨g, c, c0, hgS, hto⟩ := hws.own
    clear hex hws hbl hko
    rcases Nat.eq_zero_or_pos m with hm | hm
    · subst hm
      obtain rfl : k = hd.length := by omega
      go_wp2
      go_end0
      exact ⟨⟨_, rfl⟩, by rw [HE.out]; exact HW.out, HBL.out, HKO.out⟩
    · have hlt : k < hd.length := by omega
      obtain ⟨m', rfl⟩ : ∃ m', m = m' + 1 := ⟨m - 1, by omega⟩
      obtain ⟨b, o, he, hbl, d0, d1, d2, d3⟩ := hto.reads.at4 (i := k) (by simp; omega)
      injection he with he
      cases he
      rw [tg_left hlt] at d0 d1 d2 d3
      have HCk := hide (fun (u : World) (h : Below B w u) => HHC.out u h k hak hlt)
      obtain ⟨⟨p0, p1⟩, ⟨b0, b1⟩⟩ := HB.out k hlt
      have YES := hide (fun (h : (C (tg hd k).p (tg hd k).a tt).2 = true) => show stW C cnt tt hd k tl = offT cnt (nxW C tt hd k) tl from if_pos h)
      have NO := hide (fun (h : (C (tg hd k).p (tg hd k).a tt).2 = false) => show stW C cnt tt hd k tl = tl from if_neg (by rw [h]; simp))
      have hMk := hM (tg hd k).p (tg hd k).a tt
      have NX := hide (show nxW C tt hd k = ⟨tt, (tg hd k).p + 1, (tg hd k).c + (C (tg hd k).p (tg hd k).a tt).1, k⟩ from rfl)
      rw [NX.out] at YES
      obtain ⟨y, hy⟩ : ∃ y, y = tg hd k := ⟨_, rfl⟩
      rw [← hy] at d0 d1 d2 d3 HCk p0 p1 b0 b1 YES NO hMk
      clear hy NX
      obtain ⟨ya, yp, yc, yb⟩ := y
      rw [Nat.zero_add] at d0 d1 d2 d3
      have ex : extT C cnt tt hd (m' + 1) k tl = extT C cnt tt hd m' (k + 1) (stW C cnt tt hd k tl) := rfl
      have EX := hide ex
      clear ex hto
      obtain ⟨v, hv⟩ : ∃ v, v = (C yp ya tt).1 := ⟨_, rfl⟩
      obtain ⟨fl, hfl⟩ : ∃ v, v = (C yp ya tt).2 := ⟨_, rfl⟩
      simp only at HCk YES NO p0 p1 b0 b1 hMk
      rw [← hv, ← hfl] at HCk
      rw [← hv, ← hfl] at YES
      rw [← hfl] at NO
      rw [← hv] at hMk
      clear hv hfl
      have hBw : B ≤ wr.heap.size := by omega
      go_wp2_with fail
      (with_reducible refine (HCk.out _ (HBL.out.alloc hBw _)).mono ?_)
      rintro e u1 ⟨rfl, hb1⟩
      have W1 := hide ((HW.out.alloc _).below hb1 (Nat.le_refl _))
      have KO1 := hide (HKO.out.trans ((ko_alloc (ko_refl wr) _).trans (ko_below hb1)))
      have BL1 := hide ((HBL.out.alloc hBw _).trans (hb1.mono (show B ≤ _ by simp; omega)))
      have e0 := keep_cell hb1 (show (wr.alloc (.cells #[.int .i64 ya, .int .i64 yp, .int .i64 yc, .int .i64 yb] 137)).cell? ⟨wr.heap.size, 0, none⟩ = some (.int .i64 ya) by simp [go_sem])
      have e1 := keep_cell hb1 (show (wr.alloc (.cells #[.int .i64 ya, .int .i64 yp, .int .i64 yc, .int .i64 yb] 137)).cell? ⟨wr.heap.size, 1, none⟩ = some (.int .i64 yp) by simp [go_sem])
      have e2 := keep_cell hb1 (show (wr.alloc (.cells #[.int .i64 ya, .int .i64 yp, .int .i64 yc, .int .i64 yb] 137)).cell? ⟨wr.heap.size, 2, none⟩ = some (.int .i64 yc) by simp [go_sem])
      have e3 := keep_cell hb1 (show (wr.alloc (.cells #[.int .i64 ya, .int .i64 yp, .int .i64 yc, .int .i64 yb] 137)).cell? ⟨wr.heap.size, 3, none⟩ = some (.int .i64 yb) by simp [go_sem])
      have hz1 := hb1.size
      simp at hz1
      clear hb1 c0 d0 d1 d2 d3 HCk
      cases fl
      · have N1 := hide (NO.out rfl)
        clear YES NO
        go_wp2
        go_roundw
        case rel => exact ⟨k + 1, m', tl, by omega, by omega, by go_num, by rw [HE.out, EX.out, N1.out], by omega, W1.out, BL1.out, KO1.out⟩
        case measure => simp [intOf]; omega
      · have Y1 := hide (YES.out rfl)
        have hol := offT_len (cnt := cnt) (x := ⟨tt, yp + 1, yc + v, k⟩) (l := tl)
        clear YES NO
        go_wp2_with (go_at_call 148; (with_reducible refine (offer_i _ B S hd tl act cnt ⟨tt, yp + 1, yc + v, k⟩ W1.out h0 (by have := hlen.out; omega)).mono ?_); rintro e u2 ⟨⟨v0, rfl⟩, hw2, hb2, hk2⟩; have W2 := hide hw2; have BL2 := hide (BL1.out.trans hb2); have KO2 := hide (KO1.out.trans hk2); clear hw2 hb2 hk2)
        go_roundw
        case rel => exact ⟨k + 1, m', _, by omega, by omega, by go_num, by rw [HE.out, EX.out, Y1.out], by omega, W2.out, BL2.out, KO2.out⟩
        case measure => simp [intOf]; omega
set_option maxHeartbeats 4000000 in
theorem extend_counts (w : World) (B S : Nat) (hd : List Wy) (act : Nat) (cnt : Bool) (tt : Int) (C : Int → Int → Int → Int × Bool) (q1 q2 q3 : Value) (hs : WSt w B S hd act cnt) (h0 : 0 < hd.length) (hl : hd.length ≤ 100000) (ha : act ≤ hd.length)
    (hb : ∀ i, i < hd.length → (0 ≤ (tg hd i).p ∧ (tg hd i).p ≤ 1000000) ∧ (-1000000000000000 ≤ (tg hd i).c ∧ (tg hd i).c ≤ 1000000000000000)) (hM : ∀ i a b, -1000000000000 ≤ (C i a b).1 ∧ (C i a b).1 ≤ 1000000000000)
    (HC : ∀ u, Below B w u → ∀ i, act ≤ i → i < hd.length → Calls Try.prog 68 #[.int .i64 (tg hd i).p, .int .i64 (tg hd i).a, .int .i64 tt, q1, q2, q3] u fun e u' => e = .returned (.tuple #[.int .i64 (C (tg hd i).p (tg hd i).a tt).1, .bool (C (tg hd i).p (tg hd i).a tt).2]) ∧ Below u.heap.size u u') :
    Calls Try.prog 116 #[.pointer (some ⟨S, 0, none⟩), .int .i64 tt, .func (.func 68) #[] #[q1, q2, q3]] w fun e w' => (∃ v, e = .returned v) ∧ WSt w' B S (hd ++ extR C cnt tt hd act) act cnt ∧ Below B w w' ∧ KeepsOthers w w' := by
  have HHC := hide HC
  have HB := hide hb
  have HS0 := hide hs
  have hBS := hs.hB
  have c1 := hs.c1
  obtain ⟨g, c, c0, _, _⟩ := hs.own
  have W0 := hide (show WSt w B S (hd ++ []) act cnt by rw [List.append_nil]; exact hs)
  clear HC hb hs
  go_enter Try.func116, Try.ntmps116
  go_wp2
  clear c0 c1
  go_loopw [7] (fun i u => ∃ (k m : Nat) (tl : List Wy), act ≤ k ∧ k + m = hd.length ∧ i = .int .i64 k ∧ extR C cnt tt hd act = extT C cnt tt hd m k tl ∧ tl.length ≤ k ∧ WSt u B S (hd ++ tl) act cnt ∧ Below B w u ∧ KeepsOthers w u) (fun i _ => hd.length - (intOf i).toNat)
  case atStart => exact ⟨act, hd.length - act, [], Nat.le_refl _, by omega, rfl, rfl, by simp, W0.out, Below.refl _ _, ko_refl _⟩
  case round =>
    obtain ⟨k, m, tl, hak, hkm, rfl, hex, htl, hws, hbl, hko⟩ := hrel
    have HKO := hide hko
    have HE := hide hex
    have HW := hide hws
    have HBL := hide hbl
    have hSz := hws.hS
    have hlen := hide (show (hd ++ tl).length = hd.length + tl.length by simp)
    obtain ⟨g, c, c0, hgS, hto⟩ := hws.own
    clear hex hws hbl hko
    rcases Nat.eq_zero_or_pos m with hm | hm
    · subst hm
      obtain rfl : k = hd.length := by omega
      go_wp2
      go_end0
      exact ⟨⟨_, rfl⟩, by rw [HE.out]; exact HW.out, HBL.out, HKO.out⟩
    · have hlt : k < hd.length := by omega
      obtain ⟨m', rfl⟩ : ∃ m', m = m' + 1 := ⟨m - 1, by omega⟩
      obtain ⟨b, o, he, hbl, d0, d1, d2, d3⟩ := hto.reads.at4 (i := k) (by simp; omega)
      injection he with he
      cases he
      rw [tg_left hlt] at d0 d1 d2 d3
      have HCk := hide (fun (u : World) (h : Below B w u) => HHC.out u h k hak hlt)
      obtain ⟨⟨p0, p1⟩, ⟨b0, b1⟩⟩ := HB.out k hlt
      have YES := hide (fun (h : (C (tg hd k).p (tg hd k).a tt).2 = true) => show stW C cnt tt hd k tl = offT cnt (nxW C tt hd k) tl from if_pos h)
      have NO := hide (fun (h : (C (tg hd k).p (tg hd k).a tt).2 = false) => show stW C cnt tt hd k tl = tl from if_neg (by rw [h]; simp))
      have hMk := hM (tg hd k).p (tg hd k).a tt
      have NX := hide (show nxW C tt hd k = ⟨tt, (tg hd k).p + 1, (tg hd k).c + (C (tg hd k).p (tg hd k).a tt).1, k⟩ from rfl)
      rw [NX.out] at YES
      obtain ⟨y, hy⟩ : ∃ y, y = tg hd k := ⟨_, rfl⟩
      rw [← hy] at d0 d1 d2 d3 HCk p0 p1 b0 b1 YES NO hMk
      clear hy NX
      obtain ⟨ya, yp, yc, yb⟩ := y
      rw [Nat.zero_add] at d0 d1 d2 d3
      have ex : extT C cnt tt hd (m' + 1) k tl = extT C cnt tt hd m' (k + 1) (stW C cnt tt hd k tl) := rfl
      have EX := hide ex
      clear ex hto
      obtain ⟨v, hv⟩ : ∃ v, v = (C yp ya tt).1 := ⟨_, rfl⟩
      obtain ⟨fl, hfl⟩ : ∃ v, v = (C yp ya tt).2 := ⟨_, rfl⟩
      simp only at HCk YES NO p0 p1 b0 b1 hMk
      rw [← hv, ← hfl] at HCk
      rw [← hv, ← hfl] at YES
      rw [← hfl] at NO
      rw [← hv] at hMk
      clear hv hfl
      have hBw : B ≤ wr.heap.size := by omega
      go_wp2_with fail
      (with_reducible refine (HCk.out _ (HBL.out.alloc hBw _)).mono ?_)
      rintro e u1 ⟨rfl, hb1⟩
      have W1 := hide ((HW.out.alloc _).below hb1 (Nat.le_refl _))
      have KO1 := hide (HKO.out.trans ((ko_alloc (ko_refl wr) _).trans (ko_below hb1)))
      have BL1 := hide ((HBL.out.alloc hBw _).trans (hb1.mono (show B ≤ _ by simp; omega)))
      have e0 := keep_cell hb1 (show (wr.alloc (.cells #[.int .i64 ya, .int .i64 yp, .int .i64 yc, .int .i64 yb] 137)).cell? ⟨wr.heap.size, 0, none⟩ = some (.int .i64 ya) by simp [go_sem])
      have e1 := keep_cell hb1 (show (wr.alloc (.cells #[.int .i64 ya, .int .i64 yp, .int .i64 yc, .int .i64 yb] 137)).cell? ⟨wr.heap.size, 1, none⟩ = some (.int .i64 yp) by simp [go_sem])
      have e2 := keep_cell hb1 (show (wr.alloc (.cells #[.int .i64 ya, .int .i64 yp, .int .i64 yc, .int .i64 yb] 137)).cell? ⟨wr.heap.size, 2, none⟩ = some (.int .i64 yc) by simp [go_sem])
      have e3 := keep_cell hb1 (show (wr.alloc (.cells #[.int .i64 ya, .int .i64 yp, .int .i64 yc, .int .i64 yb] 137)).cell? ⟨wr.heap.size, 3, none⟩ = some (.int .i64 yb) by simp [go_sem])
      have hz1 := hb1.size
      simp at hz1
      clear hb1 c0 d0 d1 d2 d3 HCk
      cases fl
      · have N1 := hide (NO.out rfl)
        clear YES NO
        go_wp2
        go_roundw
        case rel => exact ⟨k + 1, m', tl, by omega, by omega, by go_num, by rw [HE.out, EX.out, N1.out], by omega, W1.out, BL1.out, KO1.out⟩
        case measure => simp [intOf]; omega
      · have Y1 := hide (YES.out rfl)
        have hol := offT_len (cnt := cnt) (x := ⟨tt, yp + 1, yc + v, k⟩) (l := tl)
        clear YES NO
        go_wp2_with (go_at_call 148; (with_reducible refine (offer_i _ B S hd tl act cnt ⟨tt, yp + 1, yc + v, k⟩ W1.out h0 (by have := hlen.out; omega)).mono ?_); rintro e u2 ⟨⟨v0, rfl⟩, hw2, hb2, hk2⟩; have W2 := hide hw2; have BL2 := hide (BL1.out.trans hb2); have KO2 := hide (KO1.out.trans hk2); clear hw2 hb2 hk2)
        go_roundw
        case rel => exact ⟨k + 1, m', _, by omega, by omega, by go_num, by rw [HE.out, EX.out, Y1.out], by omega, W2.out, BL2.out, KO2.out⟩
        case measure => simp [intOf]; omega
end Go.Proofs.Ytmncdpiojhgcdaa
