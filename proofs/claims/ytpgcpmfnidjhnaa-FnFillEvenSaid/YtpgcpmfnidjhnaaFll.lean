/- Words as one line of a width, in the program and in its model. -/
import Derived.Test.YtpgcpmfnidjhnaaSpr
namespace Go.Proofs.Ytpgcpmfnidjhnaa
open Go.ChangeShapes Go.WideShapes Go.ChangeAt Go.RowKit
set_option linter.unusedVariables false
open Classical

set_option maxRecDepth 8000 in
set_option maxHeartbeats 4000000 in
theorem fillLine_s (w : World) (A : Option Addr) (n c r : Nat) (wd : Int) (l : List ByteArray) (ha : SL w A n l) (hs : WTo l l.length) (hl : l.length ≤ 40) (h0 : 1 ≤ l.length) (hr : r ≤ 61) (er : wd - ((l.length - 1 + sm l l.length : Nat) : Int) = (r : Int)) (hwd : 0 ≤ wd ∧ wd ≤ 100000) :
    Calls Try.prog 86 #[.slice A n c, .int .i64 wd] w fun e w' => e = .returned (.string (mkb (fb l r l.length))) ∧ ∃ j, w.drewN j = w' := by
  obtain rfl : n = l.length := ha.1
  have HA := hide ha
  have HS := hide hs
  obtain ⟨hwd0, hwd1⟩ := hwd
  have hg : ∀ k, k ≤ l.length → (fb l r k).length ≤ 1000000 := fun k hk => by
    rcases Nat.lt_or_ge l.length 2 with h2 | h2
    · have := fb_len1 (l := l) (r := r) (k := k) (fun j hj => HS.out j (by omega)) (by omega)
      omega
    · have := fb_len (l := l) (r := r) (k := k) (fun j hj => HS.out j (by omega)) h2 hr (by omega)
      omega
  have HJ := hide (joined_s w A l.length c l ha hs hl)
  obtain ⟨J, hJ⟩ : ∃ J, J = l.length - 1 + sm l l.length := ⟨_, rfl⟩
  rw [← hJ] at HJ er
  obtain ⟨b, o, rfl, hb0, c0⟩ := HA.out.at_ (i := 0) (by omega)
  rw [Nat.add_zero] at c0
  obtain ⟨g, hgd⟩ : ∃ g, g = l.length - 1 := ⟨_, rfl⟩
  have gi : (l.length : Int) - 1 = (g : Int) := by omega
  have hg40 : g ≤ 40 := by omega
  have HGD := hide hgd
  have S0 := hide (show sg l 0 = mkb (fb l r 1) by simp only [fb, if_true]; rw [List.nil_append, List.nil_append, mkb_data])
  have hi0 : (0 : Int) < (l.length : Int) := by omega
  clear ha hs hgd hJ
  go_enter Try.func86, Try.ntmps86
  go_wp2_with fail
  (with_reducible refine (HJ.out).mono ?_)
  rintro e w' ⟨rfl, rfl⟩
  go_wp2
  rw [S0.out]
  go_loopw [5, 8] (fun v i u => ∃ p j : Nat, 1 ≤ p ∧ p ≤ l.length ∧ i = .int .i64 p ∧ v = .string (mkb (fb l r p)) ∧ u = w.drewN j) (fun _ i _ => l.length - (intOf i).toNat)
  case atStart => exact ⟨1, 0, by omega, by omega, by go_num, rfl, rfl⟩
  case round =>
    obtain ⟨p, j, hp1, hp, rfl, rfl, rfl⟩ := hrel
    by_cases hlt : p < l.length
    · obtain ⟨b', o', he, hb', c1⟩ := HA.out.at_ hlt
      injection he with he
      cases he
      have hsz := (okWord_iff.1 (HS.out p hlt)).1.2
      obtain ⟨s, hsd⟩ : ∃ s, s = sg l p := ⟨_, rfl⟩
      rw [← hsd] at c1 hsz
      have HSD := hide hsd
      have hgd := HGD.out
      obtain ⟨X, Y, QX, QY, hX, hY, eX, eY, eQX, eQY, hQ, hQX, egp, hQ61⟩ := gp_facts (r := r) (g := g) (k := p) (by omega) hp1 hr (by omega)
      have k1 : (p : Int) - 1 = ((p - 1 : Nat) : Int) := by omega
      obtain ⟨q, hq⟩ : ∃ q, q = p - 1 := ⟨_, rfl⟩
      rw [← hq] at k1 eY
      have m1 : (r : Int) * (p : Int) = (X : Int) := by rw [eX]; exact (Int.natCast_mul r p).symm
      have m2 : (r : Int) * (q : Int) = (Y : Int) := by rw [eY]; exact (Int.natCast_mul r q).symm
      have d1 : (X : Int) / (g : Int) = (QX : Int) := by rw [eQX]; rfl
      have d2 : (Y : Int) / (g : Int) = (QY : Int) := by rw [eQY]; rfl
      have g1 : 1 ≤ g := by omega
      have EG := hide (show gp r (l.length - 1) p = QX - QY by rw [← hgd]; exact egp)
      have hq40 : q ≤ 40 := by omega
      obtain ⟨N, hN⟩ : ∃ N, N = 1 + (QX - QY) := ⟨_, rfl⟩
      have eN : (1 : Int) + ((QX : Int) - (QY : Int)) = (N : Int) := by omega
      have hN62 : N ≤ 62 := by omega
      have HN := hide hN
      have hfl := hg p (by omega)
      have F := hide (show mkb (fb l r p) ++ spc N ++ s = mkb (fb l r (p + 1)) by
        have e0 : ¬ p = 0 := by omega
        rw [mkb_app]
        simp only [fb, if_neg e0]
        rw [EG.out, ← HN.out, ← HSD.out])
      obtain ⟨T, hT⟩ : ∃ T, T = mkb (fb l r p) := ⟨_, rfl⟩
      have hTs : T.size ≤ 1000000 := by rw [hT, mkb_size]; exact hfl
      rw [← hT] at F ⊢
      have hss := spc_size N
      clear eX eY eQX eQY egp hq hgd hsd hN hT hfl
      go_wp2_with fail
      go_quiet (fail)
      go_wp2_with fail
      go_quiet (first | (go_at_call 111; (with_reducible refine (spaces_s N _ (by omega)).mono ?_); exact fun _ _ h => ⟨h.1, _, h.2.symm⟩))
      go_wp2
      go_roundw
      case rel => exact ⟨p + 1, _, by omega, by omega, by go_num, by rw [F.out], by first | rfl | (rw [World.drewN_drewN, World.drewN_drewN]) | (rw [World.drewN_drewN])⟩
      case measure => simp [intOf]; omega
    · have E := hide (show p = l.length by omega)
      go_wp2
      go_ret
      exact ⟨str_ret (by rw [E.out]), _, rfl⟩

/-- What FillLine answers. -/
def flO (l : List ByteArray) (wd : Int) : Prop := wok l = true ∧ inB wd 20 60 = true ∧ 1 ≤ l.length ∧ ((l.length - 1 + sm l l.length : Nat) : Int) ≤ wd
noncomputable def fll (l : List ByteArray) (wd : Int) : ByteArray := if flO l wd then mkb (fb l (wd - ((l.length - 1 + sm l l.length : Nat) : Int)).toNat l.length) else ByteArray.empty
theorem fll_yes {l : List ByteArray} {wd : Int} (h : flO l wd) : fll l wd = mkb (fb l (wd - ((l.length - 1 + sm l l.length : Nat) : Int)).toNat l.length) := if_pos h
theorem fll_no {l : List ByteArray} {wd : Int} (h : ¬ flO l wd) : fll l wd = ByteArray.empty := if_neg h
set_option maxHeartbeats 2000000 in
theorem FillLine_i (w : World) (A : Option Addr) (n c : Nat) (wd : Int) (l : List ByteArray) (ha : SL w A n l) (hs : ∀ k, k < l.length → (sg l k).size ≤ 1048576) (hn : n ≤ 4611686018427387904) :
    Calls Try.prog 49 #[.slice A n c, .int .i64 wd] w fun e w' => e = .returned (.string (fll l wd)) ∧ Below w.heap.size w w' := by
  have CW := hide (canWrap_i w A n c l wd ha hs hn)
  obtain rfl : n = l.length := ha.1
  cases q : wok l && inB wd 20 60
  · have E := hide (fll_no (l := l) (wd := wd) (fun x => by rw [x.1, x.2.1] at q; cases q))
    rw [q] at CW
    clear q
    go_enter Try.func49, Try.ntmps49
    go_wp2_with fail
    (with_reducible refine CW.out.mono ?_)
    rintro e w' ⟨rfl, rfl⟩
    go_wp2
    go_ret
    exact ⟨str_ret E.out.symm, bl_refl _⟩
  have q' := q
  rw [Bool.and_eq_true] at q'
  obtain ⟨q1, q2⟩ := q'
  obtain ⟨W1, W2⟩ := wok_iff.1 q1
  obtain ⟨d0, d1⟩ := inB_iff.1 q2
  have hsm := sm_le W1
  have CR := hide (restOf_i w A l.length c l wd ha W1 W2 (by omega))
  rw [q] at CW
  rcases (by omega : wd + 1 - (sm l l.length : Int) - (l.length : Int) < 0 ∨ 0 ≤ wd + 1 - (sm l l.length : Int) - (l.length : Int)) with h | h
  · have E := hide (fll_no (l := l) (wd := wd) (fun x => by have := x.2.2.2; omega))
    obtain ⟨z, hz⟩ : ∃ z, z = wd + 1 - (sm l l.length : Int) - (l.length : Int) := ⟨_, rfl⟩
    rw [← hz] at CR h
    clear q q1 q2 W1 hz
    go_enter Try.func49, Try.ntmps49
    go_wp2_with fail
    (with_reducible refine CW.out.mono ?_)
    rintro e w' ⟨rfl, rfl⟩
    go_wp2_with fail
    (with_reducible refine CR.out.mono ?_)
    rintro e w' ⟨rfl, rfl⟩
    go_wp2
    go_ret
    exact ⟨str_ret E.out.symm, bl_refl _⟩
  · obtain ⟨r, hr⟩ : ∃ r : Nat, wd + 1 - (sm l l.length : Int) - (l.length : Int) = (r : Int) := ⟨(wd + 1 - (sm l l.length : Int) - (l.length : Int)).toNat, by omega⟩
    have CS := hide (spread_i w A l.length c r l ha W1 W2 (by omega))
    have E : Hid (fll l wd = mkb (fb l r l.length)) := hide (by
      rcases Nat.eq_zero_or_pos l.length with z | z
      · rw [fll_no (fun x => by have := x.2.2.1; omega), z]
        rfl
      · rw [fll_yes ⟨q1, q2, z, by omega⟩, show (wd - ((l.length - 1 + sm l l.length : Nat) : Int)).toNat = r by omega])
    rw [hr] at CR
    have h' : ¬ (r : Int) < 0 := by omega
    clear q q1 q2 W1 hr h hsm
    go_enter Try.func49, Try.ntmps49
    go_wp2_with fail
    (with_reducible refine CW.out.mono ?_)
    rintro e w' ⟨rfl, rfl⟩
    go_wp2_with fail
    (with_reducible refine CR.out.mono ?_)
    rintro e w' ⟨rfl, rfl⟩
    go_wp2_with fail
    (with_reducible refine CS.out.mono ?_)
    rintro e u1 ⟨rfl, hb⟩
    go_wp2
    go_ret
    exact ⟨str_ret E.out.symm, hb⟩
set_option maxHeartbeats 2000000 in
theorem FillLine_s (w : World) (A : Option Addr) (n c : Nat) (wd : Int) (l : List ByteArray) (ha : SL w A n l) (hs : ∀ k, k < l.length → (sg l k).size ≤ 1048576) (hn : n ≤ 4611686018427387904) :
    Calls Try.prog 47 #[.slice A n c, .int .i64 wd] w fun e w' => e = .returned (.string (fll l wd)) ∧ ∃ j, w.drewN j = w' := by
  have CV := hide (validWords_s w A n c l ha hs hn)
  obtain rfl : n = l.length := ha.1
  cases q1 : wok l
  · have E := hide (fll_no (l := l) (wd := wd) (fun x => by rw [x.1] at q1; cases q1))
    rw [q1] at CV
    clear q1
    go_enter Try.func47, Try.ntmps47
    go_wp2_with fail
    (with_reducible refine CV.out.mono ?_)
    rintro e w' ⟨rfl, rfl⟩
    go_wp2
    go_ret
    exact ⟨str_ret E.out.symm, 0, rfl⟩
  rw [q1] at CV
  cases q2 : inB wd 20 60
  · have E := hide (fll_no (l := l) (wd := wd) (fun x => by rw [x.2.1] at q2; cases q2))
    clear q1
    go_enter Try.func47, Try.ntmps47
    go_wp2_with fail
    (with_reducible refine CV.out.mono ?_)
    rintro e w' ⟨rfl, rfl⟩
    go_wp2_with (go_at_call 84; refine (inRange_any _ _ _ _).mono ?_; rintro e w' ⟨rfl, rfl⟩)
    go_ret
    exact ⟨str_ret E.out.symm, 0, rfl⟩
  obtain ⟨W1, W2⟩ := wok_iff.1 q1
  obtain ⟨d0, d1⟩ := inB_iff.1 q2
  have hsm := sm_le W1
  rcases Nat.eq_zero_or_pos l.length with h0 | h0
  · have E := hide (fll_no (l := l) (wd := wd) (fun x => by have := x.2.2.1; omega))
    have z0 : ((l.length : Int) == 0) = true := by simp [h0]
    clear q1 W1 hsm h0
    go_enter Try.func47, Try.ntmps47
    go_wp2_with fail
    (with_reducible refine CV.out.mono ?_)
    rintro e w' ⟨rfl, rfl⟩
    go_wp2_with (go_at_call 84; refine (inRange_any _ _ _ _).mono ?_; rintro e w' ⟨rfl, rfl⟩)
    go_ret
    exact ⟨str_ret E.out.symm, 0, rfl⟩
  have z0 : ((l.length : Int) == 0) = false := beq_eq_false_iff_ne.2 (by omega)
  have CJ := hide (joined_s w A l.length c l ha W1 W2)
  obtain ⟨J, hJ⟩ : ∃ J, J = l.length - 1 + sm l l.length := ⟨_, rfl⟩
  rcases (by omega : wd < (J : Int) ∨ (J : Int) ≤ wd) with h | h
  · have E := hide (fll_no (l := l) (wd := wd) (fun x => by have := x.2.2.2; rw [← hJ] at this; omega))
    rw [← hJ] at CJ
    clear q1 W1 hJ hsm
    go_enter Try.func47, Try.ntmps47
    go_wp2_with fail
    (with_reducible refine CV.out.mono ?_)
    rintro e w' ⟨rfl, rfl⟩
    go_wp2_with (first | (go_at_call 85; (with_reducible refine CJ.out.mono ?_); rintro e w' ⟨rfl, rfl⟩) | (go_at_call 84; refine (inRange_any _ _ _ _).mono ?_; rintro e w' ⟨rfl, rfl⟩))
    go_ret
    exact ⟨str_ret E.out.symm, 0, rfl⟩
  · obtain ⟨r, hr⟩ : ∃ r : Nat, wd - (J : Int) = (r : Int) := ⟨(wd - (J : Int)).toNat, by omega⟩
    have CF := hide (fillLine_s w A l.length c r wd l ha W1 W2 h0 (by omega) (by rw [← hJ]; exact hr) (by omega))
    have E : Hid (fll l wd = mkb (fb l r l.length)) := hide (by
      rw [fll_yes ⟨q1, q2, h0, by rw [← hJ]; exact h⟩, ← hJ, show (wd - (J : Int)).toNat = r by omega])
    rw [← hJ] at CJ
    clear q1 W1 hJ hr hsm
    go_enter Try.func47, Try.ntmps47
    go_wp2_with fail
    (with_reducible refine CV.out.mono ?_)
    rintro e w' ⟨rfl, rfl⟩
    go_wp2_with (first | (go_at_call 85; (with_reducible refine CJ.out.mono ?_); rintro e w' ⟨rfl, rfl⟩) | (go_at_call 84; refine (inRange_any _ _ _ _).mono ?_; rintro e w' ⟨rfl, rfl⟩))
    (with_reducible refine CF.out.mono ?_)
    rintro e w' ⟨rfl, j, rfl⟩
    go_wp2
    go_ret
    exact ⟨str_ret E.out.symm, j, rfl⟩
end Go.Proofs.Ytpgcpmfnidjhnaa
