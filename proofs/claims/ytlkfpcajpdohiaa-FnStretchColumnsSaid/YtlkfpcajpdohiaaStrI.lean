/- StretchColumns, in the program. -/
import Derived.Test.YtlkfpcajpdohiaaStrW
namespace Go.Proofs.Ytlkfpcajpdohiaa
open Go.ChangeShapes Go.WideShapes Go.ChangeAt Go.RowKit
set_option linter.unusedVariables false
set_option linter.unusedSimpArgs false
set_option maxRecDepth 4000

set_option maxHeartbeats 4000000 in
theorem StretchColumns_i (w : World) (A : Option Addr) (n c : Nat) (l : List Int) (m : Int) (ha : IL w A n l) (hn : n ≤ 4611686018427387904) :
    Calls Try.prog 45 #[.slice A n c, .int .i64 m] w (RetL w (scV l m)) := by
  obtain rfl : n = l.length := ha.1
  have HA := hide ha
  clear ha
  cases q : okLen l 1 8 0 10000
  · have E := hide (scV_bad (m := m) q)
    go_enter Try.func45, Try.ntmps45
    go_wp2_with (go_at_call 82; refine (validColumns_i _ _ _ _ _ HA.out hn).mono ?_; rintro e w' ⟨rfl, rfl⟩)
    go_ret
    exact RetL.no E.out (bl_refl _)
  · obtain ⟨⟨k1, k2⟩, hel⟩ := okLen_iff.1 q
    have k8 : l.length ≤ 8 := by omega
    have hl1 : 1 ≤ l.length := by omega
    have hb := sl_bd hel k8
    have SU := hide (fun (u : World) (hu : IL u A l.length l) => sumOf_i u A l.length c l hu (by omega) (fun j hj => by have := hel j hj; omega))
    cases q2 : inB m (sl l) 10000
    · have E := hide (scV_off (l := l) q2)
      clear hel
      go_enter Try.func45, Try.ntmps45
      go_wp2_with (first | (go_at_call 82; refine (validColumns_i _ _ _ _ _ HA.out hn).mono ?_; rintro e w' ⟨rfl, rfl⟩) | (go_at_call 83; (with_reducible refine (SU.out _ HA.out).mono ?_); rintro e w' ⟨rfl, hw⟩; (have hw2 := hw.symm); clear hw; subst hw2) | (go_at_call 65; refine (within_any _ _ _ _).mono ?_; rintro e w' ⟨rfl, rfl⟩))
      go_ret
      exact RetL.no E.out (bl_refl _)
    · obtain ⟨m00, m1⟩ := inB_iff.1 q2
      obtain ⟨hb0, hb1⟩ := hb
      have m0 : 0 ≤ m := by omega
      have E := hide (scV_yes q q2)
      obtain ⟨i0, hi0, hz0, hz1, hz2⟩ := info_parts int_info
      have HSP0 := (prt_pos (fun j hj => (hel j hj).1) hl1).1
      have HBD := hide (fun k (hk : k ≤ l.length) => brd_bd (t := m) hel hl1 k8 m0 m1 hk)
      have SP := hide (fun (u : World) (B : Option Addr) (d : Nat) (hu : IL u B l.length (prt l)) => sumOf_i u B l.length d (prt l) hu (by rw [prt_len]; omega) (fun j hj => by have := prt_bd hel j hj; omega))
      obtain ⟨S, hS⟩ : ∃ S, S = sl (prt l) := ⟨_, rfl⟩
      rw [← hS] at SP HSP0
      have HSP := hide HSP0
      have HS1 := hide hS.symm
      rcases (by omega : sl l = 0 ∨ ¬ sl l = 0) with h0 | h0
      · have HPR := hide (show prt l = List.replicate l.length 1 by simp [prt, h0])
        rw [h0] at SU q2
        have hc1 : ∀ u : World, (u.alloc (.cells #[.int .i64 1] 3)).cell? ⟨u.heap.size, 0, none⟩ = some (.int .i64 1) := fun u => World.cell?_alloc_at _ _ _ _ rfl
        clear hS h0 hel HSP0
        go_enter Try.func45, Try.ntmps45
        go_wp2_with (first | (go_at_call 82; refine (validColumns_i _ _ _ _ _ HA.out hn).mono ?_; rintro e w' ⟨rfl, rfl⟩) | (go_at_call 83; (with_reducible refine (SU.out _ HA.out).mono ?_); rintro e w' ⟨rfl, hw⟩; (have hw2 := hw.symm); clear hw; subst hw2) | (go_at_call 65; refine (within_any _ _ _ _).mono ?_; rintro e w' ⟨rfl, rfl⟩) | fail)
        (with_reducible refine (Repeat_one _ _ l.length hl1 k8 (hc1 _)).mono ?_)
        rintro e PW ⟨g, rfl, ho1, hb1⟩
        have HPP : Hid (IL PW (some ⟨g, 0, none⟩) l.length (prt l)) := hide (by rw [HPR.out]; have h8 := ho1.reads; rwa [List.length_replicate] at h8)
        have HBP := hide (bl_call hb1 (bl_alloc (bl_refl _) (.cells #[.int .i64 1] 3)))
        have HPZ := hide (HBP.out.size)
        clear ho1 hb1 hc1
        go_wp2_with (first | (go_at_call 83; (with_reducible refine (SP.out _ _ _ HPP.out).mono ?_); rintro e w' ⟨rfl, hw⟩; (have hw2 := hw.symm); clear hw; subst hw2) | (refine wpList_make_full _ rfl _ _ _ rfl PW.heap.size 3 i0 _ 1 Try.underlying32 hi0 hz0 hz1 .i64 .i64 _ _ l.length rfl rfl rfl rfl (by rw [hz2]; omega) (by unfold maxLen; omega) (Nat.le_refl _) ?_; intro w1 hown hgr; have HO0 : Hid (OL w1 3 PW.heap.size (some ⟨PW.heap.size, 0, none⟩) l.length (mix (stl l m) (List.replicate l.length 0) 0)) := hide (by rw [mix_zero]; unfold OL; have e1 : (madeCells (Value.int .i64 0).cells l.length).toList = List.replicate l.length (.int .i64 0) := (toList_madeCells_one _ _); simp only [Nat.mul_one, e1] at hown; simpa using hown); have HBW := hide (below_new hgr); clear hown hgr))
        go_loopw [8, 9, 38] (fun pa le ix u => ∃ p : Nat, p ≤ l.length ∧ pa = .int .i64 (pfx (prt l) p) ∧ le = .int .i64 (brd l m p) ∧ ix = .int .i64 p ∧ OL u 3 PW.heap.size (some ⟨PW.heap.size, 0, none⟩) l.length (mix (stl l m) (List.replicate l.length 0) p) ∧ Below PW.heap.size PW u) (fun _ _ ix _ => l.length - (intOf ix).toNat)
        case atStart => exact ⟨0, Nat.zero_le _, rfl, by rw [brd_zero], rfl, HO0.out, HBW.out⟩
        case round =>
          obtain ⟨p, hp, rfl, rfl, rfl, hol, hbl⟩ := hrel
          have hml : (mix (stl l m) (List.replicate l.length 0) p).length = l.length := by rw [mix_len (by simp [stl_len]), stl_len]
          obtain ⟨⟨xa0, xa1⟩, xb0, xb1⟩ := HBD.out p hp
          by_cases hlt : p < l.length
          · obtain ⟨⟨ya0, ya1⟩, yb0, yb1⟩ := HBD.out (p + 1) (by omega)
            have M := hide (hol.set_ p (ng (stl l m) p)).1
            have MS := hide (show (mix (stl l m) (List.replicate l.length 0) p).set p (ng (stl l m) p) = mix (stl l m) (List.replicate l.length 0) (p + 1) from mix_step (by simp [stl_len]) (by rw [stl_len]; exact hlt))
            have hc := hol.reads.at_ (i := p) (by omega)
            obtain ⟨b, o, he, hg, hc⟩ := hc
            obtain ⟨g', he', _, _, hfz⟩ := hol.frozen (by omega)
            injection he with he; injection he' with he'
            cases he; cases he'
            have fz := hfz p
            rw [Nat.zero_add] at hc
            obtain ⟨b, o, hbo, hb0, hci⟩ := HPP.out.at_ hlt
            first | subst hbo | (injection hbo with hbo; cases hbo; rw [Nat.zero_add] at hci)
            have hci := keep_cell hbl hci
            have AN := hide (show pfx (prt l) (p + 1) = pfx (prt l) p + ng (prt l) p from rfl)
            have BN := hide (show brd l m (p + 1) = m * pfx (prt l) (p + 1) / sl (prt l) from rfl)
            have SG := hide (stl_get (t := m) hlt)
            obtain ⟨a, ha⟩ : ∃ a, a = pfx (prt l) p := ⟨_, rfl⟩
            obtain ⟨a', ha'⟩ : ∃ a, a = pfx (prt l) (p + 1) := ⟨_, rfl⟩
            obtain ⟨x, hx⟩ : ∃ a, a = ng (prt l) p := ⟨_, rfl⟩
            obtain ⟨e, he⟩ : ∃ a, a = brd l m p := ⟨_, rfl⟩
            obtain ⟨e', he'⟩ : ∃ a, a = brd l m (p + 1) := ⟨_, rfl⟩
            obtain ⟨y, hy⟩ : ∃ a, a = ng (stl l m) p := ⟨_, rfl⟩
            rw [← ha, ← ha', ← hx] at AN
            rw [← ha', ← he', HS1.out] at BN
            rw [← he, ← he', ← hy] at SG
            rw [← hy] at M MS
            rw [← hx] at hci
            rw [← ha] at xa0 xa1 ⊢
            rw [← he] at xb0 xb1 ⊢
            rw [← ha'] at ya0 ya1
            rw [← he'] at yb0 yb1
            have HA' := hide ha'
            have HE' := hide he'
            have HBL := hide hbl
            have an := AN.out
            have SH := share_i m (a + x) S
            have es : m * (a + x) / S = e' := by rw [← an]; exact BN.out.symm
            rw [es] at SH
            have HSH := hide SH
            have wa : IntKind.i64.wrap (a + x) = a + x := IntWalk.i64_in _ (by omega)
            have we : IntKind.i64.wrap (e' - e) = e' - e := IntWalk.i64_in _ (by omega)
            have ax0 : 0 ≤ a + x := by omega
            have ax1 : a + x ≤ 80000 := by omega
            have ey := hide (show e' - e = y from SG.out.symm)
            clear hml hfz hol ha ha' hx he he' hy SH es an hbl
            go_wp2_with (go_at_call 85; (with_reducible refine (HSH.out _ m0 m1 ax0 ax1 HSP.out).mono ?_); rintro e w' ⟨rfl, rfl⟩)
            go_roundw
            case rel =>
              refine ⟨p + 1, by omega, by rw [← HA'.out, AN.out], by rw [← HE'.out], by go_num, ?_, bl_set HBL.out (Nat.le_refl _) _⟩
              have h7 := M.out
              rw [MS.out, ← ey.out] at h7
              exact h7
            case measure => simp [intOf]; omega
          · have hpe : p = l.length := by omega
            have M : Hid (OL wr 3 PW.heap.size (some ⟨PW.heap.size, 0, none⟩) l.length (stl l m)) := hide (by
              rw [hpe] at hol
              rwa [show mix (stl l m) (List.replicate l.length 0) l.length = stl l m from by have := mix_all (l := stl l m) (m := List.replicate l.length 0) (by simp [stl_len]); rwa [stl_len] at this] at hol)
            have HBL := hide hbl
            clear hml hol hbl
            go_wp2
            go_ret
            rw [E.out]
            exact ⟨some ⟨PW.heap.size, 0, none⟩, l.length, by (rw [stl_len]; first | done | rfl), M.out.more HPZ.out, HBP.out.trans (HBL.out.mono HPZ.out)⟩
      · have HPR := hide (show prt l = l by simp [prt, h0])
        clear hS HS1
        have HS1 := hide (show sl (prt l) = sl l by rw [HPR.out])
        clear HSP HSP0 SP S
        obtain ⟨S, hs0⟩ : ∃ s, s = sl l := ⟨_, rfl⟩
        have HSP := hide (show 0 < S by have := (prt_pos (fun j hj => (hel j hj).1) hl1).1; rw [HS1.out] at this; omega)
        rw [← hs0] at SU q2 h0 hb0 hb1 m00 HS1
        have z0 : (S == 0) = false := beq_eq_false_iff_ne.2 h0
        have HPP : Hid (IL w A l.length (prt l)) := hide (by rw [HPR.out]; exact HA.out)
        have HBP := hide (bl_refl w)
        have HPZ := hide (Nat.le_refl w.heap.size)
        clear hel hs0
        go_enter Try.func45, Try.ntmps45
        go_wp2_with (first | (go_at_call 82; refine (validColumns_i _ _ _ _ _ HA.out hn).mono ?_; rintro e w' ⟨rfl, rfl⟩) | (go_at_call 83; (with_reducible refine (SU.out _ HA.out).mono ?_); rintro e w' ⟨rfl, hw⟩; (have hw2 := hw.symm); clear hw; subst hw2) | (go_at_call 65; refine (within_any _ _ _ _).mono ?_; rintro e w' ⟨rfl, rfl⟩) | (refine wpList_make_full _ rfl _ _ _ rfl w.heap.size 3 i0 _ 1 Try.underlying32 hi0 hz0 hz1 .i64 .i64 _ _ l.length rfl rfl rfl rfl (by rw [hz2]; omega) (by unfold maxLen; omega) (Nat.le_refl _) ?_; intro w1 hown hgr; have HO0 : Hid (OL w1 3 w.heap.size (some ⟨w.heap.size, 0, none⟩) l.length (mix (stl l m) (List.replicate l.length 0) 0)) := hide (by rw [mix_zero]; unfold OL; have e1 : (madeCells (Value.int .i64 0).cells l.length).toList = List.replicate l.length (.int .i64 0) := (toList_madeCells_one _ _); simp only [Nat.mul_one, e1] at hown; simpa using hown); have HBW := hide (below_new hgr); clear hown hgr))
        go_loopw [8, 9, 38] (fun pa le ix u => ∃ p : Nat, p ≤ l.length ∧ pa = .int .i64 (pfx (prt l) p) ∧ le = .int .i64 (brd l m p) ∧ ix = .int .i64 p ∧ OL u 3 w.heap.size (some ⟨w.heap.size, 0, none⟩) l.length (mix (stl l m) (List.replicate l.length 0) p) ∧ Below w.heap.size w u) (fun _ _ ix _ => l.length - (intOf ix).toNat)
        case atStart => exact ⟨0, Nat.zero_le _, rfl, by rw [brd_zero], rfl, HO0.out, HBW.out⟩
        case round =>
          obtain ⟨p, hp, rfl, rfl, rfl, hol, hbl⟩ := hrel
          have hml : (mix (stl l m) (List.replicate l.length 0) p).length = l.length := by rw [mix_len (by simp [stl_len]), stl_len]
          obtain ⟨⟨xa0, xa1⟩, xb0, xb1⟩ := HBD.out p hp
          by_cases hlt : p < l.length
          · obtain ⟨⟨ya0, ya1⟩, yb0, yb1⟩ := HBD.out (p + 1) (by omega)
            have M := hide (hol.set_ p (ng (stl l m) p)).1
            have MS := hide (show (mix (stl l m) (List.replicate l.length 0) p).set p (ng (stl l m) p) = mix (stl l m) (List.replicate l.length 0) (p + 1) from mix_step (by simp [stl_len]) (by rw [stl_len]; exact hlt))
            have hc := hol.reads.at_ (i := p) (by omega)
            obtain ⟨b, o, he, hg, hc⟩ := hc
            obtain ⟨g', he', _, _, hfz⟩ := hol.frozen (by omega)
            injection he with he; injection he' with he'
            cases he; cases he'
            have fz := hfz p
            rw [Nat.zero_add] at hc
            obtain ⟨b, o, hbo, hb0, hci⟩ := HPP.out.at_ hlt
            first | subst hbo | (injection hbo with hbo; cases hbo; rw [Nat.zero_add] at hci)
            have hci := keep_cell hbl hci
            have AN := hide (show pfx (prt l) (p + 1) = pfx (prt l) p + ng (prt l) p from rfl)
            have BN := hide (show brd l m (p + 1) = m * pfx (prt l) (p + 1) / sl (prt l) from rfl)
            have SG := hide (stl_get (t := m) hlt)
            obtain ⟨a, ha⟩ : ∃ a, a = pfx (prt l) p := ⟨_, rfl⟩
            obtain ⟨a', ha'⟩ : ∃ a, a = pfx (prt l) (p + 1) := ⟨_, rfl⟩
            obtain ⟨x, hx⟩ : ∃ a, a = ng (prt l) p := ⟨_, rfl⟩
            obtain ⟨e, he⟩ : ∃ a, a = brd l m p := ⟨_, rfl⟩
            obtain ⟨e', he'⟩ : ∃ a, a = brd l m (p + 1) := ⟨_, rfl⟩
            obtain ⟨y, hy⟩ : ∃ a, a = ng (stl l m) p := ⟨_, rfl⟩
            rw [← ha, ← ha', ← hx] at AN
            rw [← ha', ← he', HS1.out] at BN
            rw [← he, ← he', ← hy] at SG
            rw [← hy] at M MS
            rw [← hx] at hci
            rw [← ha] at xa0 xa1 ⊢
            rw [← he] at xb0 xb1 ⊢
            rw [← ha'] at ya0 ya1
            rw [← he'] at yb0 yb1
            have HA' := hide ha'
            have HE' := hide he'
            have HBL := hide hbl
            have an := AN.out
            have SH := share_i m (a + x) S
            have es : m * (a + x) / S = e' := by rw [← an]; exact BN.out.symm
            rw [es] at SH
            have HSH := hide SH
            have wa : IntKind.i64.wrap (a + x) = a + x := IntWalk.i64_in _ (by omega)
            have we : IntKind.i64.wrap (e' - e) = e' - e := IntWalk.i64_in _ (by omega)
            have ax0 : 0 ≤ a + x := by omega
            have ax1 : a + x ≤ 80000 := by omega
            have ey := hide (show e' - e = y from SG.out.symm)
            clear hml hfz hol ha ha' hx he he' hy SH es an hbl
            go_wp2_with (go_at_call 85; (with_reducible refine (HSH.out _ m0 m1 ax0 ax1 HSP.out).mono ?_); rintro e w' ⟨rfl, rfl⟩)
            go_roundw
            case rel =>
              refine ⟨p + 1, by omega, by rw [← HA'.out, AN.out], by rw [← HE'.out], by go_num, ?_, bl_set HBL.out (Nat.le_refl _) _⟩
              have h7 := M.out
              rw [MS.out, ← ey.out] at h7
              exact h7
            case measure => simp [intOf]; omega
          · have hpe : p = l.length := by omega
            have M : Hid (OL wr 3 w.heap.size (some ⟨w.heap.size, 0, none⟩) l.length (stl l m)) := hide (by
              rw [hpe] at hol
              rwa [show mix (stl l m) (List.replicate l.length 0) l.length = stl l m from by have := mix_all (l := stl l m) (m := List.replicate l.length 0) (by simp [stl_len]); rwa [stl_len] at this] at hol)
            have HBL := hide hbl
            clear hml hol hbl
            go_wp2
            go_ret
            rw [E.out]
            exact ⟨some ⟨w.heap.size, 0, none⟩, l.length, by (rw [stl_len]; first | done | rfl), M.out.more HPZ.out, HBP.out.trans (HBL.out.mono HPZ.out)⟩
end Go.Proofs.Ytlkfpcajpdohiaa
