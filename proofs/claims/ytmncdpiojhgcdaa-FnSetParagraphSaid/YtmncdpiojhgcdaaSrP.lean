/- The law that a set paragraph is its set lines holds for every code. No condition. -/
import Derived.Test.YtmncdpiojhgcdaaSa
import Derived.Test.YtmncdpiojhgcdaaSrS
import Derived.Test.YtmncdpiojhgcdaaRrL
import Derived.Test.YtmncdpiojhgcdaaSrM
import Derived.Test.YtmncdpiojhgcdaaDrawSp
import Derived.Deep.RegionHeld3
import Derived.Test.YtmncdpiojhgcdaaSb
namespace Go.Proofs.Ytmncdpiojhgcdaa
open Go.ChangeShapes Go.WideShapes Go.ChangeAt Go.RowKit
set_option linter.unusedVariables false
set_option linter.unusedSimpArgs false

theorem frm_geP {L : List It} {E : List Int} (h : okT (-1) E (fun _ a b => (0, hasL L a b)) E.length) : ∀ k, k ≤ E.length → (k : Int) ≤ frm (-1) E k + 1 ∧ frm (-1) E k < L.length := fun k => by
  induction k with
  | zero => intro _; rw [frm_zero]; omega
  | succ k ih =>
    intro hk
    have IH := ih (by omega)
    obtain ⟨p, q, e1, e2, e3, e4, _⟩ := hasL_of (h k (by omega))
    rw [frm_succ, e2]
    omega
theorem spN_atP {L : List It} {d : Int} {E : List Int} : ∀ {k i : Nat}, i < k → lgR (spN L d E k) i = setL L (frm (-1) E i) d (ng E i).toNat
  | 0, i, h => by omega
  | k + 1, i, h => by
    simp only [spN]
    rcases (by omega : i < k ∨ i = k) with e | e
    · rw [lgR_app (by rw [spN_len]; exact e), spN_atP e]
    · rw [lgR_last (by rw [spN_len]; exact e), e]
theorem sp_all (L : List It) (d : Int) (E : List Int) : (spO L d E).length ≤ 60 ∧ (0 < (spO L d E).length → (spO L d E).length = E.length ∧ cB L (frm (-1) E E.length + 1).toNat = cB L L.length) ∧
    ∀ k, k < (spO L d E).length → k < E.length ∧ (lgR (spO L d E) k).length ≤ 61 ∧ setO L (frm (-1) E k) (ng E k) d = lgR (spO L d E) k ∧ ((lgR (spO L d E) k).length : Int) + cB L (frm (-1) E k + 1).toNat = cB L (frm (-1) E (k + 1) + 1).toNat + 1 := by
  cases h : (vbO L E && inB d 1 10000)
  · rw [spO_no h]; exact ⟨by simp, fun hi => by simp at hi, fun i hi => by simp at hi⟩
  · have hv : vbO L E = true ∧ inB d 1 10000 = true := by rw [Bool.and_eq_true] at h; exact h
    have hv1 := hv.1
    rw [vbO_eq] at hv1
    obtain ⟨ok, a, b, _⟩ := cbV_true hv1
    have h1 := frm_geP b E.length (Nat.le_refl _)
    have h2 := (isOk_iff.1 ok).2.1
    have h3 := of_decide_eq_true a
    rw [spO_yes h, spN_len]
    refine ⟨by omega, fun _ => ⟨rfl, by rw [h3, show ((L.length : Int) - 1 + 1).toNat = L.length by omega]⟩, fun k hk => ⟨hk, ?_⟩⟩
    have hl : hasL L (frm (-1) E k) (ng E k) = true := b k hk
    have e9 : setO L (frm (-1) E k) (ng E k) d = setL L (frm (-1) E k) d (ng E k).toNat := by
      obtain ⟨p, q, e1, e2, _⟩ := hasL_of hl
      rw [e2] at hl ⊢
      rw [setO_yes (by simp only [okL]; rw [ok, hl, hv.2]; rfl)]
      rfl
    rw [spN_atP hk]
    exact ⟨by have := setO_len L (frm (-1) E k) (ng E k) d; rwa [e9] at this, e9, cB_line hl⟩
theorem sp_cb (L : List It) (d : Int) (E : List Int) : ∀ k, k ≤ (spO L d E).length → cB L (frm (-1) E k + 1).toNat ≤ 60 := fun k hk => by
  cases h : (vbO L E && inB d 1 10000)
  · rw [spO_no h] at hk
    obtain rfl : k = 0 := by simpa using hk
    rw [frm_zero]
    exact Nat.zero_le _
  · have hv1 : vbO L E = true := by rw [Bool.and_eq_true] at h; exact h.1
    rw [vbO_eq] at hv1
    obtain ⟨ok, a, b, _⟩ := cbV_true hv1
    rw [spO_yes h, spN_len] at hk
    have h1 := frm_geP b k hk
    have h2 := (isOk_iff.1 ok).2.1
    have h3 := cB_le L (frm (-1) E k + 1).toNat
    omega
theorem RL.belowP {w w' : World} {A : Option Addr} {S : List (List Int)} (h : RL w A S) (hb : Below w.heap.size w w') : RL w' A S := fun i hi => by
  obtain ⟨b, o, A1, c1, e, hl, hc, h1⟩ := h i hi
  exact ⟨b, o, A1, c1, e, Nat.lt_of_lt_of_le hl hb.size, keep_cell hb hc, h1.below hb⟩
set_option maxRecDepth 8000 in
set_option maxHeartbeats 4000000 in
theorem walk_FnSetParagraph (a : Option Addr) (n c : Nat) (zs : List Int) (w : World) (hr : IsRow .u8 w a n c zs) :
    Calls Try.prog 10 #[.slice a n c] w fun e w' => e = .returned (.bool true) ∧ Below w.heap.size w w' := by
  have hm := small_row hr
  unfold maxLen at hm
  rcases (by omega : 1048576 < n ∨ n ≤ 1048576) with hn | hn
  · go_enter Try.func10, Try.ntmps10
    go_wp2
    go_ret
    exact ⟨rfl, bl_refl _⟩
  go_enter Try.func10, Try.ntmps10
  go_wp2_with fail
  (with_reducible refine (DrawSetParagraph_any _ _ _ _ _ hr).mono ?_)
  rintro e u0 ⟨A, B, c', c2, L, d, E, rfl, hTL, hll, hd, hIL, hEl, hEw, hb⟩
  clear hr
  have CI := fun (u : World) (h1 : TL u A L.length L) (h2 : IL u B E.length E) => SetParagraph_i u A B L.length c' E.length c2 L E d h1 (by omega) h2 (by omega) hEw
  have CS := fun (u : World) (h1 : TL u A L.length L) (h2 : IL u B E.length E) => SetParagraph_s u A B L.length c' E.length c2 L E d h1 (by omega) h2 (by omega) hEw
  have LI := fun (u : World) (h1 : TL u A L.length L) (k : Nat) (hk : k < E.length) => SetLine_i u A L.length c' L h1 (by omega) (frm (-1) E k) (ng E k) d (frm_wf hEw (by omega)) (hEw k hk)
  obtain ⟨al, ae, ak⟩ := sp_all L d E
  have CB := sp_cb L d E
  have HT := hide hTL
  have HE := hide hIL
  have HB := hide hb
  obtain ⟨R, hR⟩ : ∃ V, V = spO L d E := ⟨_, rfl⟩
  unfold RetRR at CI CS
  unfold RetL at LI
  rw [← hR] at CI CS al ae ak CB
  have HCI := hide CI
  have HCS := hide CS
  have HLI := hide LI
  have HAE := hide ae
  replace CB := hide CB
  have HAK := hide ak
  clear CI CS LI ae ak hR hTL hIL hb hEw
  go_wp2_with fail
  (with_reducible refine (HCI.out _ HT.out HE.out).mono ?_)
  rintro e u1 ⟨A1, c1, V1, rfl, ho1, hb1⟩
  have HT1 := hide (HT.out.below hb1)
  have HE1 := hide (HE.out.below hb1)
  have HB1 := hide (bl_call hb1 HB.out)
  have HO1 := hide ho1.reads
  clear hb1 HT HE HB ho1 HCI
  go_wp2_with fail
  (with_reducible refine (HCS.out _ HT1.out HE1.out).mono ?_)
  rintro e u2 ⟨A2, c3, V2, rfl, ho2, hb2⟩
  have HT2 := hide (HT1.out.below hb2)
  have HE2 := hide (HE1.out.below hb2)
  have HB2 := hide (bl_call hb2 HB1.out)
  have HO2 := hide (HO1.out.belowP hb2)
  have HP2 := hide ho2.reads
  have HBB := hide hb2
  clear hb2 HT1 HE1 HB1 ho2 HCS HO1
  go_wp2
  go_loopw [8, 9, 10] (fun f t i u => ∃ (k : Nat), k ≤ R.length ∧ f = .int .i64 (frm (-1) E k) ∧ t = .int .i64 (cB L (frm (-1) E k + 1).toNat) ∧ i = .int .i64 k ∧ Below u2.heap.size u2 u) (fun _ _ i _ => R.length - (intOf i).toNat)
  case atStart => exact ⟨0, Nat.zero_le _, by rw [frm_zero], by rw [frm_zero]; rfl, rfl, Below.refl _ _⟩
  case round =>
    obtain ⟨k, hk, rfl, rfl, rfl, hbl⟩ := hrel
    have HBL := hide hbl
    by_cases hlt : k < R.length
    · obtain ⟨b, o, B1, d1, rfl, hb0, x0, y0⟩ := (HO2.out.belowP hbl) k hlt
      obtain ⟨b', o', B2, d2, rfl, hb0', z0, y1⟩ := (HP2.out.belowP hbl) k hlt
      obtain ⟨hkE, s1, s2, s3⟩ := HAK.out k hlt
      obtain ⟨b'', o'', rfl, hb0'', e0⟩ := (HE2.out.below hbl).at_ hkE
      have HT3 := hide (HT2.out.below hbl)
      have SL := fun (u : World) (h1 : TL u A L.length L) => HLI.out u h1 k hkE
      rw [s2] at SL
      obtain ⟨Q, hQ⟩ : ∃ Q, Q = lgR R k := ⟨_, rfl⟩
      rw [← hQ] at x0 y0 z0 y1 s1 s3 SL
      have cb1 := CB.out k hk
      have NF := hide (show frm (-1) E (k + 1) = ng E k by rw [frm_succ])
      obtain ⟨t1, ht1⟩ : ∃ t, t = cB L (frm (-1) E k + 1).toNat := ⟨_, rfl⟩
      obtain ⟨t2, ht2⟩ : ∃ t, t = cB L (frm (-1) E (k + 1) + 1).toNat := ⟨_, rfl⟩
      rw [← ht1] at s3 cb1 ⊢
      rw [← ht2] at s3
      have HT22 := hide ht2
      obtain ⟨x, hx⟩ : ∃ r, r = frm (-1) E k := ⟨_, rfl⟩
      obtain ⟨y, hy⟩ : ∃ r, r = ng E k := ⟨_, rfl⟩
      rw [← hx] at SL ⊢
      rw [← hy] at SL e0 NF
      have X0 := hide y0
      have Y1 := hide y1
      have SLC := hide SL
      have EQ1 := hide (fun (u : World) (p : IL u B1 Q.length Q) (q : IL u B2 Q.length Q) => eqInts_l u B1 B2 _ _ d1 d2 Q Q p q (by omega) (by omega))
      have EQ2 := hide (fun (u : World) (A6 : Option Addr) (c6 : Nat) (p : IL u B1 Q.length Q) (q : IL u A6 Q.length Q) => eqInts_l u B1 A6 _ _ d1 c6 Q Q p q (by omega) (by omega))
      clear y0 y1 s2 SL hQ ht1 ht2 hx hy hbl
      have hi0 : (0 : Int) ≤ (k : Int) := by omega
      have hi1 : (k : Int) < (R.length : Int) := by omega
      have hi2 : (k : Int) < (E.length : Int) := by omega
      go_upto_region 13 with fail
      refine wp_region_held_drew (S := fun u : World => u.cell? ⟨b, o + k, none⟩ = some (.slice B1 Q.length d1) ∧ u.cell? ⟨b', o' + k, none⟩ = some (.slice B2 Q.length d2) ∧ u.cell? ⟨b'', o'' + k, none⟩ = some (.int .i64 y)) (by kernel_rfl) (⟨x0, z0, e0⟩) (fun hHeld => ?_)
      refine tky 0 (hy := by (intro w_ hSw; (try dsimp only at hSw); skip; go_simp; (try (with_reducible rfl)))) (h := ?_); (try simp only [Act.put, tkd, tke, tkf]); refine tky 1 (hy := by (intro w_ hSw; (try dsimp only at hSw); skip; go_simp; (try (with_reducible rfl)))) (h := ?_); (try simp only [Act.put, tkd, tke, tkf]); refine tky 2 (hy := by (intro w_ hSw; (try dsimp only at hSw); skip; go_simp; (try (with_reducible rfl)))) (h := ?_); (try simp only [Act.put, tkd, tke, tkf]); refine tky 3 (hy := by (intro w_ hSw; (try dsimp only at hSw); skip; go_simp; (try (with_reducible rfl)))) (h := ?_); (try simp only [Act.put, tkd, tke, tkf]); refine tky 4 (hy := by (intro w_ hSw; (try dsimp only at hSw); skip; go_simp; (try (with_reducible rfl)))) (h := ?_); (try simp only [Act.put, tkd, tke, tkf]); refine tky 5 (hy := by (intro w_ hSw; (try dsimp only at hSw); skip; go_simp; (try (with_reducible rfl)))) (h := ?_); (try simp only [Act.put, tkd, tke, tkf]); refine tky 6 (hy := by (intro w_ hSw; (try dsimp only at hSw); skip; go_simp; (try (with_reducible rfl)))) (h := ?_); (try simp only [Act.put, tkd, tke, tkf]); refine tky 7 (hy := by (intro w_ hSw; (try dsimp only at hSw); skip; go_simp; (try (with_reducible rfl)))) (h := ?_); (try simp only [Act.put, tkd, tke, tkf])
      refine wpAnyH_ready (rs := [8]) (by kernel_rfl) (by simp) ?_; refine AllReadyH.cons (o := ?_) ?_ (fun K hK => ?_) AllReadyH.nil; rotate_left 1; (next => simp only [List.getElem?_toArray, List.getElem?_cons_succ, List.getElem?_cons_zero]; rfl); go_simp
      go_at_call 43
      refine (EQ1.out _ (by exact X0.out) (by exact Y1.out)).mono ?_
      rintro e w' ⟨rfl, j1, rfl⟩
      simp only [decide_true]
      (try go_wp2_with fail); refine hK.out _ _ (⟨x0, z0, e0⟩) (fun hHeld => ?_); clear hK K; (try simp only [Act.put, List.setIfInBounds_toArray, List.set_cons_zero, List.set_cons_succ])
      refine tky 9 (hy := by (intro w_ hSw; (try dsimp only at hSw); skip; go_simp; (try (with_reducible rfl)))) (h := ?_); (try simp only [Act.put, tkd, tke, tkf]); refine tky 10 (hy := by (intro w_ hSw; (try dsimp only at hSw); skip; go_simp; (try (with_reducible rfl)))) (h := ?_); (try simp only [Act.put, tkd, tke, tkf]); refine tky 11 (hy := by (intro w_ hSw; (try dsimp only at hSw); skip; go_simp; (try (with_reducible rfl)))) (h := ?_); (try simp only [Act.put, tkd, tke, tkf]); refine tky 12 (hy := by (intro w_ hSw; (try dsimp only at hSw); skip; go_simp; (try (with_reducible rfl)))) (h := ?_); (try simp only [Act.put, tkd, tke, tkf]); refine tky 13 (hy := by (intro w_ hSw; (try dsimp only at hSw); skip; go_simp; (try (with_reducible rfl)))) (h := ?_); (try simp only [Act.put, tkd, tke, tkf]); refine tky 14 (hy := by (intro w_ hSw; (try dsimp only at hSw); skip; go_simp; (try (with_reducible rfl)))) (h := ?_); (try simp only [Act.put, tkd, tke, tkf]); refine tky 15 (hy := by (intro w_ hSw; (try dsimp only at hSw); skip; go_simp; (try (with_reducible rfl)))) (h := ?_); (try simp only [Act.put, tkd, tke, tkf]); refine tky 16 (hy := by (intro w_ hSw; (try dsimp only at hSw); skip; go_simp; (try (with_reducible rfl)))) (h := ?_); (try simp only [Act.put, tkd, tke, tkf]); refine tky 17 (hy := by (intro w_ hSw; (try dsimp only at hSw); skip; go_simp; (try (with_reducible rfl)))) (h := ?_); (try simp only [Act.put, tkd, tke, tkf]); refine tky 18 (hy := by (intro w_ hSw; (try dsimp only at hSw); skip; go_simp; (try (with_reducible rfl)))) (h := ?_); (try simp only [Act.put, tkd, tke, tkf]); refine tky 19 (hy := by (intro w_ hSw; (try dsimp only at hSw); skip; go_simp; (try (with_reducible rfl)))) (h := ?_); (try simp only [Act.put, tkd, tke, tkf]); refine tky 20 (hy := by (intro w_ hSw; (try dsimp only at hSw); skip; go_simp; (try (with_reducible rfl)))) (h := ?_); (try simp only [Act.put, tkd, tke, tkf]); refine tky 21 (hy := by (intro w_ hSw; (try dsimp only at hSw); skip; go_simp; (try (with_reducible rfl)))) (h := ?_); (try simp only [Act.put, tkd, tke, tkf])
      refine wpAnyH_ready (rs := [22]) (by kernel_rfl) (by simp) ?_; refine AllReadyH.cons (o := ?_) ?_ (fun K hK => ?_) AllReadyH.nil; rotate_left 1; (next => simp only [List.getElem?_toArray, List.getElem?_cons_succ, List.getElem?_cons_zero]; rfl); go_simp
      go_at_call 44
      refine (SLC.out _ (by exact HT3.out)).mono ?_
      rintro e u5 ⟨A6, c6, rfl, ho6, hb6⟩
      have I6 := hide ho6.reads
      have hb6 : Below wr.heap.size wr u5 := ⟨hb6.os, hb6.tape, hb6.output, hb6.size, hb6.block⟩
      have x0 := keep_cell hb6 x0
      have z0 := keep_cell hb6 z0
      have e0 := keep_cell hb6 e0
      have X6 := hide (X0.out.below hb6)
      have HB6 := hide (bl_call hb6 HBL.out)
      clear hb6 ho6
      (try go_wp2_with fail); refine hK.out _ _ (⟨x0, z0, e0⟩) (fun hHeld => ?_); clear hK K; (try simp only [Act.put, List.setIfInBounds_toArray, List.set_cons_zero, List.set_cons_succ])
      refine wpAnyH_ready (rs := [23]) (by kernel_rfl) (by simp) ?_; refine AllReadyH.cons (o := ?_) ?_ (fun K hK => ?_) AllReadyH.nil; rotate_left 1; (next => simp only [List.getElem?_toArray, List.getElem?_cons_succ, List.getElem?_cons_zero]; rfl); go_simp
      go_at_call 43
      refine (EQ2.out _ A6 c6 (by exact X6.out) (by exact I6.out)).mono ?_
      rintro e w' ⟨rfl, j2, rfl⟩
      simp only [decide_true]
      (try go_wp2_with fail); refine hK.out _ _ (⟨x0, z0, e0⟩) (fun hHeld => ?_); clear hK K; (try simp only [Act.put, List.setIfInBounds_toArray, List.set_cons_zero, List.set_cons_succ])
      refine tky 24 (hy := by (intro w_ hSw; (try dsimp only at hSw); skip; go_simp; (try (with_reducible rfl)))) (h := ?_); (try simp only [Act.put, tkd, tke, tkf])
      refine tky 25 (hy := by (intro w_ hSw; (try dsimp only at hSw); skip; go_simp; (try (with_reducible rfl)))) (h := ?_); (try simp only [Act.put, tkd, tke, tkf])
      refine wpAnyH_done (by kernel_rfl) ?_ _
      go_wp2
      go_roundw
      case rel => exact ⟨k + 1, by omega, by rw [NF.out], by rw [← HT22.out]; go_num, by go_num, bl_drewN HB6.out j2⟩
      case measure => simp [intOf]; omega
    · have hkR : k = R.length := by omega
      have HT3 := hide (HT2.out.below hbl)
      obtain ⟨t, ht⟩ : ∃ t, t = cB L (frm (-1) E k + 1).toNat := ⟨_, rfl⟩
      have HTE := hide (show 0 < R.length → t = cB L L.length from fun h => by
        obtain ⟨e1, e2⟩ := HAE.out h
        rw [ht, hkR, e1, e2])
      obtain ⟨x, hx⟩ : ∃ x, x = frm (-1) E k := ⟨_, rfl⟩
      rw [← ht, ← hx]
      have CBL := hide (cB_le L)
      clear ht hx hbl
      go_wp2
      go_loop [11, 12] (fun n i => ∃ (j : Nat), j ≤ L.length ∧ n = .int .i64 (cB L j) ∧ i = .int .i64 j) (fun _ i => L.length - (intOf i).toNat)
      case atStart => exact ⟨0, Nat.zero_le _, rfl, rfl⟩
      case round =>
        obtain ⟨j, hj, rfl, rfl⟩ := hrel
        have cj := CBL.out j
        by_cases hlt2 : j < L.length
        · obtain ⟨b, o, rfl, hb0, q0, _, _, _, _, _⟩ := HT3.out.at6 hlt2
          have SC := hide (show cB L (j + 1) = cB L j + if isB (tg L j) then 1 else 0 from rfl)
          have IB := hide (show isB (tg L j) = decide ((tg L j).k = 1) from rfl)
          obtain ⟨z, hz⟩ : ∃ z, z = (tg L j).k := ⟨_, rfl⟩
          obtain ⟨y, hy⟩ : ∃ y, y = cB L j := ⟨_, rfl⟩
          rw [← hz] at q0 IB
          rw [← hy] at SC cj ⊢
          rw [IB.out] at SC
          clear hz hy IB
          rcases (by omega : z = 1 ∨ z ≠ 1) with rfl | g
          · have HS := hide (show cB L (j + 1) = y + 1 by rw [SC.out]; rfl)
            clear SC
            go_wp2
            go_round
            case rel => exact ⟨j + 1, by omega, by rw [HS.out]; go_num, by go_num⟩
            case measure => simp [intOf]; omega
          · have HS := hide (show cB L (j + 1) = y by rw [SC.out, if_neg (by simpa using g)]; rfl)
            have g1 : (z == 1) = false := beq_eq_false_iff_ne.2 g
            clear SC g
            go_wp2
            go_round
            case rel => exact ⟨j + 1, by omega, by rw [HS.out], by go_num⟩
            case measure => simp [intOf]; omega
        · have hjL : j = L.length := by omega
          rcases (by omega : R.length = 0 ∨ 0 < R.length) with g | g
          · have g1 : ((R.length : Int) == 0) = true := beq_iff_eq.2 (by omega)
            clear HTE
            go_wp2
            go_ret
            exact ⟨rfl, bl_call HBL.out HB2.out⟩
          · have g1 : ((R.length : Int) == 0) = false := beq_eq_false_iff_ne.2 (by omega)
            have g2 := HTE.out g
            rw [← hjL] at g2
            clear HTE
            subst g2
            go_wp2
            go_ret
            exact ⟨by simp, bl_call HBL.out HB2.out⟩
set_option maxRecDepth 100000 in
theorem lifted_FnSetParagraph (os : Os) (started : os.Started) (H : Type) (enc : TypeId × Value → H) :
    ReturnsInHanded {} Try.checked os 10 .any (Rows.fnSetParagraphSpec.pre6 enc Try.prog Try.f10 Rows.fnSetParagraphRow.domain false) (Rows.fnSetParagraphSpec.post enc Try.prog Try.f10 false true false false) := by
  refine returnsInHanded_of_change (C := Try.checked) own_knob started (by kernel_rfl) Try.func10
    (ChangeSpec.witness6 (enc := enc) (C := Try.checked) false ⟨#[], #[.slice none 0 0], []⟩ 8 (by kernel_rfl) (by kernel_rfl) (by kernel_rfl) (by kernel_rfl)) ?_
  intro W base args ds gs before hval0 hW hcnd _
  have hval : ∀ (j : Nat) t v, Try.f10.params[j]? = some t → args[j]? = some v → Value.okWide Try.prog W .any base t v := hval0
  have hW' := hW
  obtain ⟨p, q, hA0, hV, rfl, hfz, hnd⟩ := hW
  have hA : DataW.TrodAll enc Try.prog W 0 (fun _ => true) true Try.f10.params.toList args.toList ds p := hA0
  rw [Try.params10] at hA hval
  obtain ⟨v0, vs0, d0, ds0, p0, q0, hargs, rfl, rfl, zh0, r0⟩ := trodAll_cons hA
  obtain ⟨rfl, rfl, rfl⟩ := trodAll_nil r0
  obtain rfl : args = #[v0] := by cases args; simp_all
  obtain ⟨rfl, rfl⟩ := trodVars_none hV
  have zk0 := zh0
  have zl0 : ∀ x ∈ p0, x.block < W.heap.size := by obtain ⟨m, hm⟩ := zk0; exact DataW.trod_lt m _ _ _ hm
  clear hA0 hval0
  obtain ⟨a_code, n_code, c_code, rfl⟩ := okWide_slice Try.underlying29 (hval 0 29 v0 rfl rfl)
  obtain ⟨code, w_code⟩ := isRow_of Try.underlying29 Try.underlying5 (by kernel_rfl) zh0
  refine (walk_FnSetParagraph a_code n_code c_code code W w_code).mono fun e W' ⟨he, bel⟩ => ?_
  subst he
  exact ⟨_, rfl, _, _, _, [], _, [], hW', trodAll_mk1 (shut_bool Try.underlying4 _), (trodAll_cons_mk (Below.trod laid_out (by kernel_rfl) (of_decide_eq_true (by kernel_rfl)) zk0 bel zl0) trodAll_mk0), rfl, bel.frame _, fun h => by cases h⟩

/-- The statement. -/
theorem FnSetParagraph_holds : Rows.FnSetParagraphSaid :=
  OpenClaim.holds_of_wide 10 Try.f10 rfl rfl rfl rfl rfl rfl rfl ⟨rfl, rfl, rfl, rfl, rfl⟩ rfl rfl rfl rfl rfl (by kernel_rfl) Try.func10 (by unfold joinedFacts; rw [may_enter, lifts_final, make_cut]; kernel_rfl)
    (of_decide_eq_true (by kernel_rfl)) (by unfold Func.isWrapper; first | (rw [if_pos (by decide +kernel)]; kernel_rfl) | (rw [if_neg (by decide +kernel)]; exact ⟨rfl, rfl⟩))
    (fun os started H enc _ => lifted_FnSetParagraph os started H enc)
end Go.Proofs.Ytmncdpiojhgcdaa
