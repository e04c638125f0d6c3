/- The boxes of lines, in the program. -/
import Derived.Test.YtafddofajfcffaaLgI
namespace Go.Proofs.Ytafddofajfcffaa
open Go.ChangeShapes Go.WideShapes Go.ChangeAt Go.RowKit
set_option linter.unusedVariables false

theorem bxN_step {L : List It} {s k : Nat} (h : s ≤ k) : bxN L s (k + 1 - s) = if isB (tg L k) then bxN L s (k - s) ++ [(k : Int)] else bxN L s (k - s) := by
  rw [show k + 1 - s = (k - s) + 1 by omega]
  simp only [bxN]
  rw [show s + (k - s) = k by omega]
set_option maxRecDepth 8000 in
set_option maxHeartbeats 4000000 in
theorem boxesIn_i (w : World) {B gp g c1 gs gf gb : Nat} (L : List It) (hps : PS w B gp g c1 gs gf gb L) (hall : ∀ i, i < L.length → itOk (tg L i) = true) (h1 : 1 ≤ L.length ∧ L.length ≤ 60) (a : Int) (p q : Nat) (hp : a + 1 = (p : Int)) (hpl : p ≤ q) (hq : q < L.length) :
    Calls Try.prog 113 #[.agg #[.slice (some ⟨g, 0, none⟩) L.length c1, .slice (some ⟨gs, 0, none⟩) (L.length + 1) (L.length + 1), .slice (some ⟨gf, 0, none⟩) (L.length + 1) (L.length + 1), .slice (some ⟨gb, 0, none⟩) (L.length + 1) (L.length + 1)], .int .i64 a, .int .i64 q] w (RetL w (bxN L p (q - p))) := by
  have HPS := hide (ps_made hps.row hps.pr)
  have HST := hide (HPS.out.start h1 a p q hp (by omega) (by omega))
  have HBL := hide (bxN_line (L := L) hpl (by omega))
  have hsq : min (fBx L p) q ≤ q := Nat.min_le_right _ _
  obtain ⟨s, hs⟩ : ∃ s, s = min (fBx L p) q := ⟨_, rfl⟩
  rw [← hs] at HST HBL hsq
  have HALL := hide hall
  have hl60 := h1.2
  have HB0 := hide (bl_alloc (bl_refl w) (.cells #[.slice (some ⟨g, 0, none⟩) L.length c1, .slice (some ⟨gs, 0, none⟩) (L.length + 1) (L.length + 1), .slice (some ⟨gf, 0, none⟩) (L.length + 1) (L.length + 1), .slice (some ⟨gb, 0, none⟩) (L.length + 1) (L.length + 1)] 92))
  have k0 := HPS.out.k0
  have k1 := HPS.out.k1
  have k2 := HPS.out.k2
  have k3 := HPS.out.k3
  obtain ⟨i0, hi0, jz0, jz1, jz2⟩ := info_parts int_info
  clear hs hps hall hp h1
  go_enter Try.func113, Try.ntmps113
  go_wp2_with fail
  (with_reducible refine HST.out.mono ?_)
  rintro e u1 ⟨rfl, hb⟩
  have HP1 := hide (HPS.out.below hb)
  have HB1 := hide (bl_call hb HB0.out)
  clear hb k0 k1 k2 k3 HST HPS HB0
  go_wp2
  go_loopw [7, 8] (fun t i u => ∃ (u2 : World) (k : Nat) (A2 : Option Addr) (m cc : Nat), s ≤ k ∧ k ≤ q ∧ t = .slice A2 m cc ∧ i = .int .i64 k ∧ m = (bxN L s (k - s)).length ∧ PS u2 B w.heap.size g c1 gs gf gb L ∧ Below w.heap.size w u2 ∧ OL u 3 u2.heap.size A2 cc (bxN L s (k - s)) ∧ Below u2.heap.size u2 u) (fun _ i _ => q - (intOf i).toNat)
  case atStart => exact ⟨_, s, none, 0, 0, by omega, hsq, rfl, rfl, by rw [Nat.sub_self]; rfl, HP1.out, HB1.out, by rw [Nat.sub_self]; exact OL.nil _ _ _, bl_refl _⟩
  case round =>
    obtain ⟨u2, k, A2, m, cc, hsk, hk, rfl, rfl, hm, hps, hb2, hol, hbl⟩ := hrel
    have hmk : m ≤ k - s := by rw [hm]; exact bxN_len L s (k - s)
    have HM := hide hm
    have HB2 := hide hb2
    have HBLu := hide hbl
    have hzr := hbl.size
    have HP2 := hide hps
    have HPW := hide (hps.below hbl)
    clear hm hb2 hps hbl
    by_cases hlt : k < q
    · have hkl : k < L.length := by omega
      have hkl2 : (k : Int) < (L.length : Int) := by omega
      have d0 := HPW.out.k0
      have d1 := World.ownsRow.cellAt HPW.out.row k (by omega)
      rw [List.getElem?_map, tg_get hkl, Option.map_some] at d1
      have IB := fun (u : World) => isBox_i (tg L k) (KOk.of (HALL.out k hkl)) u
      obtain ⟨pt, py, hpv⟩ := part_iface (tg L k)
      rw [hpv] at d1 IB
      obtain ⟨fb, hfb⟩ : ∃ fb, fb = isB (tg L k) := ⟨_, rfl⟩
      rw [← hfb] at IB
      have HIB := hide IB
      have ST := hide (bxN_step (L := L) hsk)
      rw [← hfb] at ST
      clear IB hfb hpv
      go_wp2_with fail
      (with_reducible refine (HIB.out _).mono ?_)
      rintro e u4 ⟨rfl, hb⟩
      have hol := hol.below hb
      have hzr := Nat.le_trans hzr hb.size
      have HB4 := hide (bl_call hb HBLu.out)
      clear hb d0 d1
      cases fb
      · have M := hide (show bxN L s (k + 1 - s) = bxN L s (k - s) by rw [ST.out]; rfl)
        go_wp2
        go_roundw
        case rel => exact ⟨u2, k + 1, A2, m, cc, by omega, by omega, rfl, by go_num, by rw [M.out]; exact HM.out, HP2.out, HB2.out, by rw [M.out]; exact hol, HB4.out⟩
        case measure => simp [intOf]; omega
      · have M := hide (show bxN L s (k + 1 - s) = bxN L s (k - s) ++ [(k : Int)] by rw [ST.out]; rfl)
        go_wp2_with (at_builtin; refine wpList_append_int rfl (.tmp 24) (.tmp 26) _ rfl 3 i0 Try.underlying24 hi0 jz0 jz1 jz2 (u2.heap.size) A2 cc m (bxN L s (k - s)) rfl (HM.out) (hol.alloc _) u4.heap.size (k : Int) rfl (by simp) (by omega) (by simp; omega) ?_; intro A' c' w' hol' hb' hg')
        go_roundw
        case rel => exact ⟨u2, k + 1, A', m + 1, c', by omega, by omega, rfl, by go_num, by rw [M.out, List.length_append, ← HM.out]; rfl, HP2.out, HB2.out, by rw [M.out]; exact hol', (bl_alloc HB4.out _).trans hb'⟩
        case measure => simp [intOf]; omega
    · have HE := hide (show k = q by omega)
      go_wp2
      go_ret
      refine ⟨A2, cc, by rw [HBL.out, HM.out, HE.out]; rfl, ?_, bl_call HBLu.out HB2.out⟩
      rw [HBL.out, ← HE.out]
      exact World.ownsRow.mono hol HB2.out.size
set_option maxRecDepth 8000 in
set_option maxHeartbeats 4000000 in
theorem BoxesOf_i (w : World) (A : Option Addr) (n c : Nat) (L : List It) (h : TL w A n L) (hn : n ≤ 1048576) (a b : Int) (wa : -9223372036854775808 ≤ a ∧ a ≤ 9223372036854775807) (wb : -9223372036854775808 ≤ b ∧ b ≤ 9223372036854775807) :
    Calls Try.prog 63 #[.slice A n c, .int .i64 a, .int .i64 b] w (RetL w (bxO L a b)) := by
  have ME := hide (measure_i w A n c L h (by omega))
  obtain rfl : n = L.length := h.1
  clear h
  cases hok : isOk L
  · have E := hide (bxO_no (L := L) (a := a) (b := b) (by simp [okL, hok]))
    rw [hok] at ME
    clear hok wa wb
    go_enter Try.func63, Try.ntmps63
    go_wp2_with fail
    (with_reducible refine ME.out.mono ?_)
    rintro e u1 ⟨v, rfl, hv, hv0, hb⟩
    obtain rfl := hv0 (by trivial)
    have HB1 := hide hb
    clear hv hv0 hb
    go_wp2
    go_ret
    exact ⟨none, 0, by rw [E.out]; rfl, by rw [E.out]; exact OL.nil _ _ _, bl_alloc HB1.out _⟩
  · have HK := isOk_iff.1 hok
    have HALL := hide HK.1
    have hl60 := HK.2.1
    rw [hok] at ME
    clear HK
    cases hh : hasL L a b
    · have E := hide (bxO_no (L := L) (a := a) (b := b) (by simp [okL, hh]))
      clear hok
      go_enter Try.func63, Try.ntmps63
      go_wp2_with fail
      (with_reducible refine ME.out.mono ?_)
      rintro e u1 ⟨v, rfl, hv, hv0, hb⟩
      obtain ⟨g, c1, gs, gf, gb, rfl, hrow, hpr⟩ := hv (by trivial)
      have HPS := hide (ps_made hrow hpr)
      have HB1 := hide (bl_alloc hb (.cells #[.slice (some ⟨g, 0, none⟩) L.length c1, .slice (some ⟨gs, 0, none⟩) (L.length + 1) (L.length + 1), .slice (some ⟨gf, 0, none⟩) (L.length + 1) (L.length + 1), .slice (some ⟨gb, 0, none⟩) (L.length + 1) (L.length + 1)] 92))
      have PH := HPS.out.hasLine HALL.out hl60 a b wa wb
      rw [hh] at PH
      have HPH := hide PH
      clear hv hv0 hb hrow hpr hh PH wa wb
      have k0 := HPS.out.k0
      have k1 := HPS.out.k1
      have k2 := HPS.out.k2
      have k3 := HPS.out.k3
      go_wp2_with fail
      (with_reducible refine HPH.out.mono ?_)
      rintro e u2 ⟨rfl, hb⟩
      have HB2 := hide (bl_call hb HB1.out)
      clear hb k0 k1 k2 k3
      go_wp2
      go_ret
      exact ⟨none, 0, by rw [E.out]; rfl, by rw [E.out]; exact OL.nil _ _ _, HB2.out⟩
    · have hol : okL L a b = true := by simp [okL, hok, hh]
      obtain ⟨p, q, hp, rfl, hpq, hq, _⟩ := hasL_of hh
      have E := hide (bxO_yes hol hp rfl)
      clear hok hol
      go_enter Try.func63, Try.ntmps63
      go_wp2_with fail
      (with_reducible refine ME.out.mono ?_)
      rintro e u1 ⟨v, rfl, hv, hv0, hb⟩
      obtain ⟨g, c1, gs, gf, gb, rfl, hrow, hpr⟩ := hv (by trivial)
      have HPS := hide (ps_made hrow hpr)
      have HB1 := hide (bl_alloc hb (.cells #[.slice (some ⟨g, 0, none⟩) L.length c1, .slice (some ⟨gs, 0, none⟩) (L.length + 1) (L.length + 1), .slice (some ⟨gf, 0, none⟩) (L.length + 1) (L.length + 1), .slice (some ⟨gb, 0, none⟩) (L.length + 1) (L.length + 1)] 92))
      have PH := HPS.out.hasLine HALL.out hl60 a q wa wb
      rw [hh] at PH
      have HPH := hide PH
      have HBX := hide (fun (u : World) (hu : PS u w.heap.size u1.heap.size g c1 gs gf gb L) => boxesIn_i u L hu HALL.out hl60 a p q hp hpq hq)
      clear hv hv0 hb hrow hpr hh PH wa wb hp
      have k0 := HPS.out.k0
      have k1 := HPS.out.k1
      have k2 := HPS.out.k2
      have k3 := HPS.out.k3
      go_wp2_with fail
      (with_reducible refine HPH.out.mono ?_)
      rintro e u2 ⟨rfl, hb⟩
      have HB2 := hide (bl_call hb HB1.out)
      have k0 := keep_cell hb k0
      have k1 := keep_cell hb k1
      have k2 := keep_cell hb k2
      have k3 := keep_cell hb k3
      have HPS2 := hide (HPS.out.below hb)
      clear hb
      go_wp2_with fail
      (with_reducible refine (HBX.out _ HPS2.out).mono ?_)
      rintro e u3 ⟨A3, c3, rfl, ho, hb⟩
      have HB3 := hide (bl_call hb HB2.out)
      have HO := hide (World.ownsRow.mono ho HB2.out.size)
      clear hb k0 k1 k2 k3 ho
      go_wp2
      go_ret
      exact ⟨A3, c3, by rw [E.out]; first | done | rfl, by rw [E.out]; exact HO.out, HB3.out⟩
end Go.Proofs.Ytafddofajfcffaa
