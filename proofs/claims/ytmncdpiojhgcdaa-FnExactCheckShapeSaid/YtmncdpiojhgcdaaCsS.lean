/- CheckShape in the model. -/
import Derived.Test.YtmncdpiojhgcdaaCs
import Derived.Test.YtmncdpiojhgcdaaCbS
namespace Go.Proofs.Ytmncdpiojhgcdaa
open Go.ChangeShapes Go.WideShapes Go.ChangeAt Go.RowKit
set_option linter.unusedVariables false
set_option linter.unusedSimpArgs false
open Classical

theorem csO_eq {L : List It} {S : List Int} {t : Int} {E : List Int} (h : okShape S = true) : csO L S t E = cbV L E (fun i a b => coO L a b (wdt S i) t) := by
  rw [csO_ok h]
  exact cbV_congr fun hok i a b => (coO_yes hok).symm
set_option maxRecDepth 8000 in
set_option maxHeartbeats 4000000 in
theorem CheckShape_s (w : World) (A B D : Option Addr) (n c m c' sn cs : Nat) (L : List It) (E S : List Int) (t : Int) (h : TL w A n L) (hn : n ≤ 1048576) (hS : IL w D sn S) (hsn : sn ≤ 1048576) (hE : IL w B m E) (hm : m ≤ 1048576) (hwf : okW E) :
    Calls Try.prog 31 #[.slice A n c, .slice D sn cs, .int .i64 t, .slice B m c'] w fun e w' => e = .returned (.tuple #[.int .i64 (csO L S t E).1, .bool (csO L S t E).2]) ∧ Below w.heap.size w w' := by
  obtain rfl : n = L.length := h.1
  obtain rfl : m = E.length := hE.1
  obtain rfl : sn = S.length := hS.1
  have HI := hide h
  have HE := hide hE
  have HS := hide hS
  have HWF := hide hwf
  clear h hE hS hwf
  have VS := validShape_s w D S.length cs S HS.out (by omega)
  cases hsh : okShape S
  · have O := hide (csO_bad (L := L) (t := t) (E := E) hsh)
    rw [hsh] at VS
    have HVS := hide VS
    clear hsh VS
    go_enter Try.func31, Try.ntmps31
    go_wp2_with fail
    (with_reducible refine HVS.out.mono ?_)
    rintro e w' ⟨rfl, rfl⟩
    go_wp2
    go_ret2
    exact ⟨by rw [O.out]; rfl, bl_refl _⟩
  have hs12 := (okShape_iff.1 hsh).1.2
  have hs1 := (okShape_iff.1 hsh).1.1
  have LC := hide (fun (u : World) (hu : TL u A L.length L) (a b d : Int) wa wb => LineCost_s u A L.length c L hu hn a b d t wa wb)
  have WO := hide (fun (u : World) (hu : IL u D S.length S) (i : Nat) => widthOf_s u D S.length cs S i hu (by omega))
  have BAD := hide (fun k hk hx => cbV_bad (L := L) (E := E) (C := fun i a b => coO L a b (wdt S i) t) (k := k) hk (fun _ => hx))
  have ALL := hide (fun h1 h2 h3 => cbV_of (L := L) (E := E) (C := fun i a b => coO L a b (wdt S i) t) h1 h2 h3)
  have NO := hide (fun h1 => cbV_no (L := L) (E := E) (C := fun i a b => coO L a b (wdt S i) t) h1)
  have SB := hide (fun (k : Nat) => sto_bd (f := fun j => (coO L (frm (-1) E j) (ng E j) (wdt S j) t).1) (M := 200000000) (k := k) (fun j _ => coO_bd _ _ (wdt S j) t))
  obtain ⟨V, hV⟩ : ∃ V, V = csO L S t E := ⟨_, rfl⟩
  rw [← hV]
  rw [csO_eq hsh] at hV
  rw [hsh] at VS
  have HVS := hide VS
  have HV := hide hV
  clear hV hsh VS
  go_enter Try.func31, Try.ntmps31
  go_wp2_with fail
  (with_reducible refine HVS.out.mono ?_)
  rintro e w' ⟨rfl, rfl⟩
  go_wp2
  go_loopw [10, 11, 12] (fun su fr i u => ∃ (k : Nat) (f z : Int), k ≤ E.length ∧ i = .int .i64 k ∧ fr = .int .i64 f ∧ frm (-1) E k = f ∧ su = .int .i64 z ∧ z = sto (fun j => (coO L (frm (-1) E j) (ng E j) (wdt S j) t).1) k ∧ okT (-1) E (fun i a b => coO L a b (wdt S i) t) k ∧ Below w.heap.size w u) (fun _ _ i _ => E.length - (intOf i).toNat)
  case atStart => exact ⟨0, -1, 0, by omega, rfl, rfl, rfl, rfl, rfl, fun j hj => by omega, bl_refl _⟩
  case round =>
    obtain ⟨k, f, z, hk, rfl, rfl, hfr, rfl, hz, hok, hbl⟩ := hrel
    have sb := SB.out k
    rw [← hz] at sb
    have wa := frm_wf HWF.out hk
    rw [hfr] at wa
    have HOK := hide hok
    have HFR := hide hfr
    have HZ := hide hz
    have HB := hide hbl
    have HI1 := hide (HI.out.below hbl)
    clear hok hfr hz
    by_cases hlt : k < E.length
    · obtain ⟨b, o, rfl, hb0, c0⟩ := HE.out.at_ hlt
      have c0 := (hbl.cell (p := ⟨b, o + k, none⟩) hb0).trans c0
      have wb := HWF.out k hlt
      have FS := hide (frm_succ (-1) E k)
      have BK := hide (BAD.out k hlt)
      have OS := hide (fun hx => okT_step (s := -1) (E := E) (C := fun i a b => coO L a b (wdt S i) t) (k := k) HOK.out hx)
      have SS := hide (show sto (fun j => (coO L (frm (-1) E j) (ng E j) (wdt S j) t).1) (k + 1) = sto (fun j => (coO L (frm (-1) E j) (ng E j) (wdt S j) t).1) k + (coO L (frm (-1) E k) (ng E k) (wdt S k) t).1 from rfl)
      have vb := coO_bd (L := L) (frm (-1) E k) (ng E k) (wdt S k) t
      rw [HFR.out] at BK OS SS vb
      rw [← HZ.out] at SS
      have WK := WO.out wr.drew ((HS.out.below hbl).below (bl_drew (bl_refl _))) k
      change Calls _ _ _ _ (fun e w' => e = .returned (.int .i64 (wdt S k)) ∧ _) at WK
      obtain ⟨y, hy⟩ : ∃ y, y = ng E k := ⟨_, rfl⟩
      rw [← hy] at c0 wb FS BK OS SS vb
      obtain ⟨d, hd⟩ : ∃ d, d = wdt S k := ⟨_, rfl⟩
      rw [← hd] at WK BK OS SS vb
      have LK := LC.out wr.drew (HI1.out.below (bl_drew (bl_refl _))) f y d wa wb
      obtain ⟨v, hv⟩ : ∃ v, v = (coO L f y d t).1 := ⟨_, rfl⟩
      obtain ⟨fl, hfl⟩ : ∃ v, v = (coO L f y d t).2 := ⟨_, rfl⟩
      rw [← hv, ← hfl] at LK
      rw [← hv] at SS vb
      rw [← hfl] at BK OS
      have HLK := hide LK
      have HWK := hide WK
      clear hy hd hv hfl LK WK wa wb hbl
      have hkE : (k : Int) < (E.length : Int) := by omega
      go_upto_region 8 with fail
      have S0 := bl_drew (bl_refl wr)
      refine wp_region_held_drew (S := fun u : World => Below wr.heap.size wr u) (by kernel_rfl) (S0) (fun hHeld => ?_)
      (first | refine tky 0 (h := ?_) | refine tkn 0 (h := ?_)); (try simp only [Act.put, tkd, tke, tkf])
      (first | refine tky 1 (h := ?_) | refine tkn 1 (h := ?_)); (try simp only [Act.put, tkd, tke, tkf])
      (first | refine tky 2 (h := ?_) | refine tkn 2 (h := ?_)); (try simp only [Act.put, tkd, tke, tkf])
      (first | refine tky 3 (h := ?_) | refine tkn 3 (h := ?_)); (try simp only [Act.put, tkd, tke, tkf])
      (first | refine tky 4 (h := ?_) | refine tkn 4 (h := ?_)); (try simp only [Act.put, tkd, tke, tkf])
      refine tky 5 (hy := by (intro w_ hSw; (try dsimp only at hSw); have c0 := keep_cell hSw c0; go_simp; (try (with_reducible rfl)))) (h := ?_); (try simp only [Act.put, tkd, tke, tkf])
      (first | refine tky 6 (h := ?_) | refine tkn 6 (h := ?_)); (try simp only [Act.put, tkd, tke, tkf])
      (first | refine tky 7 (h := ?_) | refine tkn 7 (h := ?_)); (try simp only [Act.put, tkd, tke, tkf])
      (first | refine tky 9 (h := ?_) | refine tkn 9 (h := ?_)); (try simp only [Act.put, tkd, tke, tkf])
      refine wpAnyH_ready (rs := [8]) (by kernel_rfl) (by simp) ?_; refine AllReadyH.cons (o := ?_) ?_ (fun K hK => ?_) AllReadyH.nil; rotate_left 1; (next => simp only [List.getElem?_toArray, List.getElem?_cons_succ, List.getElem?_cons_zero]; rfl); go_simp
      go_at_call 86
      (with_reducible refine HWK.out.mono ?_)
      rintro e w' ⟨rfl, rfl⟩
      (try go_wp2_with fail); refine hK.out _ _ (S0) (fun hHeld => ?_); clear hK K; (try simp only [Act.put, List.setIfInBounds_toArray, List.set_cons_zero, List.set_cons_succ])
      refine wpAnyH_ready (rs := [10]) (by kernel_rfl) (by simp) ?_; refine AllReadyH.cons (o := ?_) ?_ (fun K hK => ?_) AllReadyH.nil; rotate_left 1; (next => simp only [List.getElem?_toArray, List.getElem?_cons_succ, List.getElem?_cons_zero]; rfl); go_simp
      go_at_call 81
      (with_reducible refine HLK.out.mono ?_)
      rintro e u1 ⟨rfl, hb⟩
      (try (with_reducible have hb := bl_undrew hb))
      (try go_wp2_with fail); refine hK.out _ _ (hb) (fun hHeld => ?_); clear hK K; (try simp only [Act.put, List.setIfInBounds_toArray, List.set_cons_zero, List.set_cons_succ])
      (first | refine tky 11 (h := ?_) | refine tkn 11 (h := ?_)); (try simp only [Act.put, tkd, tke, tkf])
      (first | refine tky 12 (h := ?_) | refine tkn 12 (h := ?_)); (try simp only [Act.put, tkd, tke, tkf])
      (first | refine tky 13 (h := ?_) | refine tkn 13 (h := ?_)); (try simp only [Act.put, tkd, tke, tkf])
      (first | refine tky 14 (h := ?_) | refine tkn 14 (h := ?_)); (try simp only [Act.put, tkd, tke, tkf])
      (first | refine tky 15 (h := ?_) | refine tkn 15 (h := ?_)); (try simp only [Act.put, tkd, tke, tkf])
      refine wpAnyH_done (by kernel_rfl) ?_ _
      have HB1 := hide (bl_call hb HB.out)
      have c0 := keep_cell hb c0
      clear hb
      cases fl
      · have O := hide (BK.out rfl)
        clear BK OS SS
        go_wp2
        go_ret2
        exact ⟨by rw [HV.out, O.out]; rfl, HB1.out⟩
      · have O := hide (OS.out rfl)
        clear BK OS
        go_wp2
        go_roundw
        case rel => exact ⟨k + 1, y, z + v, by omega, by go_num, rfl, FS.out, rfl, SS.out.symm, O.out, HB1.out⟩
        case measure => simp [intOf]; omega
    · obtain rfl : k = E.length := by omega
      rcases Nat.eq_zero_or_pos E.length with h0 | h0
      · have O := hide (NO.out (by
          cases q : isOk L
          · rfl
          · rw [show E = [] from List.eq_nil_of_length_eq_zero h0, endB_nil (isOk_iff.1 q).2.1.1]; rfl))
        have g0 : ((E.length : Int) == 0) = true := beq_iff_eq.2 (by omega)
        clear h0 hlt
        go_wp2
        go_ret2
        exact ⟨by rw [HV.out, O.out]; rfl, HB.out⟩
      · have g0 : ((E.length : Int) == 0) = false := beq_eq_false_iff_ne.2 (by omega)
        have OK1 := hide (coO_has (HOK.out 0 h0))
        cases q : decide (f = (L.length : Int) - 1)
        · have O := hide (NO.out (by
            have : endB L E = false := by unfold endB; rw [HFR.out]; exact q
            rw [this]; simp))
          have g1 : (f == (L.length : Int) - 1) = false := beq_eq_false_iff_ne.2 (of_decide_eq_false q)
          have g2 : (f != (L.length : Int) - 1) = true := bne_iff_ne.2 (of_decide_eq_false q)
          clear hlt
          go_wp2
          go_ret2
          exact ⟨by rw [HV.out, O.out]; rfl, HB.out⟩
        · have O := hide (ALL.out OK1.out (by unfold endB; rw [HFR.out]; exact q) HOK.out)
          have g1 : (f == (L.length : Int) - 1) = true := beq_iff_eq.2 (of_decide_eq_true q)
          have g2 : (f != (L.length : Int) - 1) = false := by rw [bne, g1]; rfl
          clear hlt
          go_wp2
          go_ret2
          exact ⟨by rw [HV.out, O.out, ← HZ.out]; rfl, HB.out⟩
end Go.Proofs.Ytmncdpiojhgcdaa
