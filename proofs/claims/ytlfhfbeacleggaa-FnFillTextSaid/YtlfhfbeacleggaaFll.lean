/- Words as one line of a width, in the program and in its model. -/
import Derived.Test.YtlfhfbeacleggaaSpr
namespace Go.Proofs.Ytlfhfbeacleggaa
open Go.ChangeShapes Go.WideShapes Go.ChangeAt Go.RowKit
set_option linter.unusedVariables false
open Classical

set_option maxRecDepth 8000 in
set_option maxHeartbeats 4000000 in
theorem fillLine_s (w : World) (A : Option Addr) (n c r : Nat) (wd : Int) (l : List ByteArray) (ha : SL w A n l) (hs : WTo l l.length) (hl : l.length ≤ 40) (h0 : 1 ≤ l.length) (hr : r ≤ 61) (er : wd - ((l.length - 1 + sm l l.length : Nat) : Int) = (r : Int)) (hwd : 0 ≤ wd ∧ wd ≤ 100000) :
    Calls Try.prog 78 #[.slice A n c, .int .i64 wd] w fun e w' => e = .returned (.string (mkb (fb l r l.length))) ∧ ∃ j, w.drewN j = w' := by
  obtain rfl : n = l.length := ha.1
  have HA := hide ha
  have HS := hide hs
  obtain ⟨hwd0, hwd1⟩ := hwd
  have hg : ∀ k, k ≤ l.length → (fb l r k).length ≤ 1000000 := fun k hk => by
    rcases Nat.lt_or_ge l.length 2 with h2 | h2
    · have := fb_len1 (l := l) (r := r) (k := k) (fun j hj => HS.out j (by omega)) (by omega)
      omega
    · have := fb_len (l := l) (r := r) (k := k) (fun j hj => HS.out j (by omega)) h2 hr (by omega)
      omega
  have HJ := hide (joined_s w A l.length c l ha hs hl)
  obtain ⟨J, hJ⟩ : ∃ J, J = l.length - 1 + sm l l.length := ⟨_, rfl⟩
  rw [← hJ] at HJ er
  obtain ⟨b, o, rfl, hb0, c0⟩ := HA.out.at_ (i := 0) (by omega)
  rw [Nat.add_zero] at c0
  obtain ⟨g, hgd⟩ : ∃ g, g = l.length - 1 := ⟨_, rfl⟩
  have gi : (l.length : Int) - 1 = (g : Int) := by omega
  have hg40 : g ≤ 40 := by omega
  have HGD := hide hgd
  have S0 := hide (show sg l 0 = mkb (fb l r 1) by simp only [fb, if_true]; rw [List.nil_append, List.nil_append, mkb_data])
  have hi0 : (0 : Int) < (l.length : Int) := by omega
  clear ha hs hgd hJ
  go_enter Try.func78, Try.ntmps78
  go_wp2_with fail
  (with_reducible refine (HJ.out).mono ?_)
  rintro e w' ⟨rfl, rfl⟩
  go_wp2
  rw [S0.out]
  go_loopw [5, 8] (fun v i u => ∃ p j : Nat, 1 ≤ p ∧ p ≤ l.length ∧ i = .int .i64 p ∧ v = .string (mkb (fb l r p)) ∧ u = w.drewN j) (fun _ i _ => l.length - (intOf i).toNat)
  case atStart => exact ⟨1, 0, by omega, by omega, by go_num, rfl, rfl⟩
  case round =>
    obtain ⟨p, j, hp1, hp, rfl, rfl, rfl⟩ := hrel
    by_cases hlt : p < l.length
    · obtain ⟨b', o', he, hb', c1⟩ := HA.out.at_ hlt
      injection he with he
      cases he
      have hsz := (okWord_iff.1 (HS.out p hlt)).1.2
      obtain ⟨s, hsd⟩ : ∃ s, s = sg l p := ⟨_, rfl⟩
      rw [← hsd] at c1 hsz
      have HSD := hide hsd
      have hgd := HGD.out
      obtain ⟨X, Y, QX, QY, hX, hY, eX, eY, eQX, eQY, hQ, hQX, egp, hQ61⟩ := gp_facts (r := r) (g := g) (k := p) (by omega) hp1 hr (by omega)
      have k1 : (p : Int) - 1 = ((p - 1 : Nat) : Int) := by omega
      obtain ⟨q, hq⟩ : ∃ q, q = p - 1 := ⟨_, rfl⟩
      rw [← hq] at k1 eY
      have m1 : (r : Int) * (p : Int) = (X : Int) := by rw [eX]; exact (Int.natCast_mul r p).symm
      have m2 : (r : Int) * (q : Int) = (Y : Int) := by rw [eY]; exact (Int.natCast_mul r q).symm
      have d1 : (X : Int) / (g : Int) = (QX : Int) := by rw [eQX]; rfl
      have d2 : (Y : Int) / (g : Int) = (QY : Int) := by rw [eQY]; rfl
      have g1 : 1 ≤ g := by omega
      have EG := hide (show gp r (l.length - 1) p = QX - QY by rw [← hgd]; exact egp)
      have hq40 : q ≤ 40 := by omega
      obtain ⟨N, hN⟩ : ∃ N, N = 1 + (QX - QY) := ⟨_, rfl⟩
      have eN : (1 : Int) + ((QX : Int) - (QY : Int)) = (N : Int) := by omega
      have hN62 : N ≤ 62 := by omega
      have HN := hide hN
      have hfl := hg p (by omega)
      have F := hide (show mkb (fb l r p) ++ spc N ++ s = mkb (fb l r (p + 1)) by
        have e0 : ¬ p = 0 := by omega
        rw [mkb_app]
        simp only [fb, if_neg e0]
        rw [EG.out, ← HN.out, ← HSD.out])
      obtain ⟨T, hT⟩ : ∃ T, T = mkb (fb l r p) := ⟨_, rfl⟩
      have hTs : T.size ≤ 1000000 := by rw [hT, mkb_size]; exact hfl
      rw [← hT] at F ⊢
      have hss := spc_size N
      clear eX eY eQX eQY egp hq hgd hsd hN hT hfl
      go_wp2_with fail
      go_quiet (fail)
      go_wp2_with fail
      go_quiet (first | (go_at_call 138; (with_reducible refine (spaces_s N _ (by omega)).mono ?_); exact fun _ _ h => ⟨h.1, _, h.2.symm⟩))
      go_wp2
      go_roundw
      case rel => exact ⟨p + 1, _, by omega, by omega, by go_num, by rw [F.out], by first | rfl | (rw [World.drewN_drewN, World.drewN_drewN]) | (rw [World.drewN_drewN])⟩
      case measure => simp [intOf]; omega
    · have E := hide (show p = l.length by omega)
      go_wp2
      go_ret
      exact ⟨str_ret (by rw [E.out]), _, rfl⟩

/-- What FillLine answers. -/
def flO (l : List ByteArray) (wd : Int) : Prop := wok l = true ∧ inB wd 20 60 = true ∧ 1 ≤ l.length ∧ ((l.length - 1 + sm l l.length : Nat) : Int) ≤ wd
noncomputable def fll (l : List ByteArray) (wd : Int) : ByteArray := if flO l wd then mkb (fb l (wd - ((l.length - 1 + sm l l.length : Nat) : Int)).toNat l.length) else ByteArray.empty
theorem fll_yes {l : List ByteArray} {wd : Int} (h : flO l wd) : fll l wd = mkb (fb l (wd - ((l.length - 1 + sm l l.length : Nat) : Int)).toNat l.length) := if_pos h
theorem fll_no {l : List ByteArray} {wd : Int} (h : ¬ flO l wd) : fll l wd = ByteArray.empty := if_neg h
end Go.Proofs.Ytlfhfbeacleggaa
