/- ReplaceItems, in the program and in its model. -/
import Derived.Test.YtlkfpcajpdohiaaRi
import Derived.Test.YtlkfpcajpdohiaaSb
import Derived.Deep.CutRange
namespace Go.Proofs.Ytlkfpcajpdohiaa
open Go.ChangeShapes Go.WideShapes Go.ChangeAt Go.RowKit
set_option linter.unusedVariables false
set_option linter.unusedSimpArgs false
set_option maxRecDepth 10000
open Classical

/-- The replaced items. -/
def rpL (L K : List It) (f t : Nat) : List It := L.take f ++ K ++ L.drop t
noncomputable def rpV (L K : List It) (f t : Int) : Bool := isOk L && inB f 0 t && inB t 0 L.length && decide (K.length ≤ 60)
/-- What ReplaceItems answers. -/
noncomputable def rpO (L K : List It) (f t : Int) : List It × Bool := if rpV L K f t && isOk (rpL L K f.toNat t.toNat) then (rpL L K f.toNat t.toNat, true) else ([], false)
theorem rpO_no {L K : List It} {f t : Int} (h : rpV L K f t = false) : rpO L K f t = ([], false) := by unfold rpO; rw [h]; rfl
theorem rpO_bad {L K : List It} {f t : Nat} (h : isOk (rpL L K f t) = false) : rpO L K f t = ([], false) := by unfold rpO; rw [Int.toNat_natCast, Int.toNat_natCast, h, Bool.and_false]; rfl
theorem rpO_yes {L K : List It} {f t : Nat} (h : rpV L K f t = true) (h2 : isOk (rpL L K f t) = true) : rpO L K f t = (rpL L K f t, true) := by unfold rpO; rw [Int.toNat_natCast, Int.toNat_natCast, h, h2]; rfl
theorem rpL_len {L K : List It} {f t : Nat} (h : f ≤ t) (h2 : t ≤ L.length) : (rpL L K f t).length = f + K.length + (L.length - t) := by
  unfold rpL
  simp
  omega
/-- What a function leaves that returns a list of items that it made, and whether it could. -/
def RetI (w : World) (V : List It × Bool) (e : Ending) (w' : World) : Prop := ∃ A c, e = .returned (.tuple #[.slice A V.1.length c, .bool V.2]) ∧ TO w' 67 w.heap.size A c V.1 ∧ Below w.heap.size w w'
theorem RetI.no {w w' : World} {V : List It × Bool} (h : V = ([], false)) (hb : Below w.heap.size w w') : RetI w V (.returned (.tuple #[.slice none 0 0, .bool false])) w' := by
  subst h
  exact ⟨none, 0, rfl, TO.nil _ _ _, hb⟩
set_option maxHeartbeats 4000000 in
theorem ReplaceItems_i (w : World) (A B : Option Addr) (n c m c' : Nat) (L Y : List It) (f t : Int) (h : TL w A n L) (hn : n ≤ 1048576) (hc : n ≤ c) (hK : TL w B m Y) (hm : m ≤ 1048576) (hBc : B = none → c' = 0) :
    Calls Try.prog 24 #[.slice A n c, .int .i64 f, .int .i64 t, .slice B m c'] w (RetI w (rpO L Y f t)) := by
  obtain rfl : n = L.length := h.1
  obtain rfl : m = Y.length := hK.1
  have HI := hide h
  have HK := hide hK
  have HBC := hide hBc
  have VI := fun (u : World) (hu : TL u A L.length L) => ValidItems_i u A L.length c L hu (by omega)
  clear hK hBc
  cases q1 : isOk L
  · have O := hide (rpO_no (L := L) (K := Y) (f := f) (t := t) (by unfold rpV; rw [q1]; rfl))
    rw [q1] at VI
    have HVI := hide VI
    clear VI h q1
    go_enter Try.func24, Try.ntmps24
    go_wp2_with (go_at_call 63; (with_reducible refine (HVI.out _ HI.out).mono ?_); rintro e u1 ⟨rfl, hb⟩; have HB1 := hide hb; clear hb)
    refine bodyPost_ret (v := .tuple #[.slice none 0 0, .bool false]) (by simp [results, Try.results24, go_sem]) rfl (RetI.no O.out HB1.out)
  rw [q1] at VI
  have HVI := hide VI
  clear VI
  cases q2 : inB f 0 t
  · have O := hide (rpO_no (L := L) (K := Y) (f := f) (t := t) (by unfold rpV; rw [q2]; simp))
    clear h q1
    go_enter Try.func24, Try.ntmps24
    go_wp2_with (first | (go_at_call 63; (with_reducible refine (HVI.out _ HI.out).mono ?_); rintro e u1 ⟨rfl, hb⟩; have HB1 := hide hb; clear hb) | (go_at_call 65; refine (within_any _ _ _ _).mono ?_; rintro e w' ⟨rfl, rfl⟩))
    refine bodyPost_ret (v := .tuple #[.slice none 0 0, .bool false]) (by simp [results, Try.results24, go_sem]) rfl (RetI.no O.out HB1.out)
  cases q3 : inB t 0 L.length
  · have O := hide (rpO_no (L := L) (K := Y) (f := f) (t := t) (by unfold rpV; rw [q3]; simp))
    clear h q1
    go_enter Try.func24, Try.ntmps24
    go_wp2_with (first | (go_at_call 63; (with_reducible refine (HVI.out _ HI.out).mono ?_); rintro e u1 ⟨rfl, hb⟩; have HB1 := hide hb; clear hb) | (go_at_call 65; refine (within_any _ _ _ _).mono ?_; rintro e w' ⟨rfl, rfl⟩))
    refine bodyPost_ret (v := .tuple #[.slice none 0 0, .bool false]) (by simp [results, Try.results24, go_sem]) rfl (RetI.no O.out HB1.out)
  rcases (by omega : 60 < Y.length ∨ Y.length ≤ 60) with q4 | q4
  · have O := hide (rpO_no (L := L) (K := Y) (f := f) (t := t) (by unfold rpV; rw [decide_eq_false (show ¬ Y.length ≤ 60 by omega)]; simp))
    have g4 : (60 : Int) < (Y.length : Int) := by omega
    clear h q1
    go_enter Try.func24, Try.ntmps24
    go_wp2_with (first | (go_at_call 63; (with_reducible refine (HVI.out _ HI.out).mono ?_); rintro e u1 ⟨rfl, hb⟩; have HB1 := hide hb; clear hb) | (go_at_call 65; refine (within_any _ _ _ _).mono ?_; rintro e w' ⟨rfl, rfl⟩))
    refine bodyPost_ret (v := .tuple #[.slice none 0 0, .bool false]) (by simp [results, Try.results24, go_sem]) rfl (RetI.no O.out HB1.out)
  have V := hide (show rpV L Y f t = true by unfold rpV; rw [q1, q2, q3, decide_eq_true q4]; rfl)
  obtain ⟨f0, f1⟩ := inB_iff.1 q2
  obtain ⟨t0, t1⟩ := inB_iff.1 q3
  obtain ⟨fn, rfl⟩ := Int.eq_ofNat_of_zero_le f0
  obtain ⟨tn, rfl⟩ := Int.eq_ofNat_of_zero_le t0
  have hft : fn ≤ tn := by omega
  have htl : tn ≤ L.length := by omega
  have hl := (isOk_iff.1 q1).2.1
  obtain ⟨b, o, rfl, hb0, _⟩ := h.2 (by omega)
  have RL := hide (rpL_len (L := L) (K := Y) hft htl)
  have RB := hide (fun h => rpO_bad (L := L) (K := Y) (f := fn) (t := tn) h)
  have RY := hide (fun h => rpO_yes (L := L) (K := Y) (f := fn) (t := tn) V.out h)
  have TK := hide (fun (u : World) (hu : TL u (some ⟨b, o, none⟩) L.length L) => (hu.takei (show fn ≤ L.length by omega)))
  have lt := hide (show (L.take fn).length = fn by simp; omega)
  have ld := hide (show (L.drop tn).length = L.length - tn by simp)
  have g4 : ¬ (60 : Int) < (Y.length : Int) := by omega
  have c1 : fn ≤ c := by omega
  have c2 : (fn : Int) ≤ (c : Int) := by omega
  have c3 : ¬ c = 0 := by omega
  have c4 : tn ≤ L.length := htl
  have c5 : (tn : Int) ≤ (L.length : Int) := by omega
  have hlc : L.length ≤ c := hc
  have e1 : ((L.length : Int) - (tn : Int)) = ((L.length - tn : Nat) : Int) := by omega
  have VC := hide (fun (u : World) (X : Option Addr) (d : Nat) (hu : TL u X (rpL L Y fn tn).length (rpL L Y fn tn)) => ValidItems_i u X (rpL L Y fn tn).length d (rpL L Y fn tn) hu (by rw [RL.out]; omega))
  have CC := hide (fun (u : World) (bb : Nat) (A3 : Option Addr) (d1 d3 : Nat) (h1 : TL u (some ⟨b, o, none⟩) L.length L) (h2 : TL u B Y.length Y) (h3 : TL u A3 (L.length - tn) (L.drop tn)) (n3 : A3 = none → d3 = 0) (k1 : u.cell? ⟨bb, 0, none⟩ = some (.slice (some ⟨b, o, none⟩) fn d1)) (k2 : u.cell? ⟨bb, 1, none⟩ = some (.slice B Y.length c')) (k3 : u.cell? ⟨bb, 2, none⟩ = some (.slice A3 (L.length - tn) d3)) =>
    Concat_it u bb (some ⟨b, o, none⟩) B A3 d1 c' d3 (L.take fn) Y (L.drop tn) (by rw [lt.out]; exact TK.out u h1) h2 (by rw [ld.out]; exact h3) (fun e => by cases e) HBC.out n3 (by rw [lt.out]; omega) (by omega) (by rw [ld.out]; omega) (by rw [lt.out]; exact k1) k2 (by rw [ld.out]; exact k3))
  obtain ⟨R, hR⟩ : ∃ R, R = rpL L Y fn tn := ⟨_, rfl⟩
  change Hid (∀ (u : World) (bb : Nat) (A3 : Option Addr) (d1 d3 : Nat), _ → _ → _ → _ → _ → _ → _ → Calls _ _ _ _ (fun e w' => ∃ A c, e = .returned (.slice A (rpL L Y fn tn).length c) ∧ TO w' _ _ A c (rpL L Y fn tn) ∧ _)) at CC
  rw [← hR] at RL RB RY VC CC
  clear TK h hR q1 hc f0 f1 t0 t1 lt ld V
  by_cases hct : c = tn
  · subst hct
    have D3 := hide (fun (u : World) => show TL u (some ⟨b, o, none⟩) (L.length - c) (L.drop c) from ⟨by simp, fun h => by omega⟩)
    go_enter Try.func24, Try.ntmps24
    go_upto_region 3 with (first | (go_at_call 63; (with_reducible refine (HVI.out _ HI.out).mono ?_); rintro e u1 ⟨rfl, hb⟩; have HB1 := hide hb; clear hb) | (go_at_call 65; refine (within_any _ _ _ _).mono ?_; rintro e w' ⟨rfl, rfl⟩) | fail)
    have HI1 := hide (HI.out.below HB1.out)
    have HK1 := hide (HK.out.below HB1.out)
    have S0 := bl_drew (bl_refl u1)
    refine wp_region_held_drew (S := fun u : World => Below u1.heap.size u1 u) (by kernel_rfl) (S0) (fun hHeld => ?_)
    (first | refine tky 0 (h := ?_) | refine tkn 0 (h := ?_)); (try simp only [Act.put, tkd, tke, tkf])
    (first | refine tky 1 (h := ?_) | refine tkn 1 (h := ?_)); (try simp only [Act.put, tkd, tke, tkf])
    (first | refine tky 2 (h := ?_) | refine tkn 2 (h := ?_)); (try simp only [Act.put, tkd, tke, tkf])
    (first | refine tky 3 (h := ?_) | refine tkn 3 (h := ?_)); (try simp only [Act.put, tkd, tke, tkf])
    (first | refine tky 4 (h := ?_) | refine tkn 4 (h := ?_)); (try simp only [Act.put, tkd, tke, tkf])
    (first | refine tky 5 (h := ?_) | refine tkn 5 (h := ?_)); (try simp only [Act.put, tkd, tke, tkf])
    (first | refine tky 6 (h := ?_) | refine tkn 6 (h := ?_)); (try simp only [Act.put, tkd, tke, tkf])
    refine wpAnyH_ready (rs := [7]) (by kernel_rfl) (by simp) ?_; refine AllReadyH.cons (o := ?_) ?_ (fun K hK => ?_) AllReadyH.nil; rotate_left 1; (next => simp only [List.getElem?_toArray, List.getElem?_cons_succ, List.getElem?_cons_zero]; rfl); go_simp
    (try go_wp2_with fail); refine hK.out _ _ ((by repeat' (first | exact bl_refl _ | refine bl_drew ?_ | refine bl_drewN ?_ _ | refine bl_alloc ?_ _))) (fun hHeld => ?_); clear hK K; (try simp only [Act.put, List.setIfInBounds_toArray, List.set_cons_zero, List.set_cons_succ])
    refine wpAnyH_ready (rs := [8]) (by kernel_rfl) (by simp) ?_; refine AllReadyH.cons (o := ?_) ?_ (fun K hK => ?_) AllReadyH.nil; rotate_left 1; (next => simp only [List.getElem?_toArray, List.getElem?_cons_succ, List.getElem?_cons_zero]; rfl); go_simp
    go_at_call 66
    (with_reducible refine (CC.out _ _ (some ⟨b, o, none⟩) c 0 (HI1.out.below (by repeat' (first | exact bl_refl _ | refine bl_drew ?_ | refine bl_drewN ?_ _ | refine bl_alloc ?_ _))) (HK1.out.below (by repeat' (first | exact bl_refl _ | refine bl_drew ?_ | refine bl_drewN ?_ _ | refine bl_alloc ?_ _))) ?_ ?_ ?_ ?_ ?_).mono ?_)
    · exact D3.out _
    · intro e; cases e
    · simp [go_sem]
    · simp [go_sem]
    · (simp [go_sem]; try omega)
    rintro e u2 ⟨A2, c2', rfl, ho2, hb2⟩
    have HB2 := hide (bl_call hb2 (show Below u1.heap.size u1 _ from (by repeat' (first | exact bl_refl _ | refine bl_drew ?_ | refine bl_drewN ?_ _ | refine bl_alloc ?_ _))))
    have HO2 := hide (ho2.more (B' := w.heap.size) (by have := HB1.out.size; simp; omega))
    clear ho2 hb2
    (try go_wp2_with fail); refine hK.out _ _ (HB2.out) (fun hHeld => ?_); clear hK K; (try simp only [Act.put, List.setIfInBounds_toArray, List.set_cons_zero, List.set_cons_succ])
    (first | refine tky 9 (h := ?_) | refine tkn 9 (h := ?_)); (try simp only [Act.put, tkd, tke, tkf])
    refine wpAnyH_done (by kernel_rfl) ?_ _
    have HR2 := hide HO2.out.reads
    cases ok : isOk R
    · have O := hide (RB.out ok)
      have VC2 := VC.out _ _ c2' HR2.out
      rw [ok] at VC2
      have HVC := hide VC2
      clear VC2 ok
      go_wp2_with fail
      (with_reducible refine HVC.out.mono ?_)
      rintro e u3 ⟨rfl, hb3⟩
      have HB3 := hide (bl_call hb3 (bl_call HB2.out HB1.out))
      clear hb3
      go_wp2
      refine bodyPost_ret (v := .tuple #[.slice none 0 0, .bool false]) (by simp [results, Try.results24, go_sem]) rfl (RetI.no O.out HB3.out)
    · have O := hide (RY.out ok)
      have VC2 := VC.out _ _ c2' HR2.out
      rw [ok] at VC2
      have HVC := hide VC2
      clear VC2 ok
      go_wp2_with fail
      (with_reducible refine HVC.out.mono ?_)
      rintro e u3 ⟨rfl, hb3⟩
      have HB3 := hide (bl_call hb3 (bl_call HB2.out HB1.out))
      have HO3 := hide (HO2.out.below hb3)
      clear hb3
      go_wp2
      refine bodyPost_ret (v := .tuple #[.slice A2 R.length c2', .bool true]) (by simp [results, Try.results24, go_sem]) rfl ?_
      rw [O.out]
      exact ⟨A2, c2', rfl, HO3.out, HB3.out⟩
  · skip
    go_enter Try.func24, Try.ntmps24
    go_upto_region 3 with (first | (go_at_call 63; (with_reducible refine (HVI.out _ HI.out).mono ?_); rintro e u1 ⟨rfl, hb⟩; have HB1 := hide hb; clear hb) | (go_at_call 65; refine (within_any _ _ _ _).mono ?_; rintro e w' ⟨rfl, rfl⟩) | fail)
    have HI1 := hide (HI.out.below HB1.out)
    have HK1 := hide (HK.out.below HB1.out)
    have S0 := bl_drew (bl_refl u1)
    refine wp_region_held_drew (S := fun u : World => Below u1.heap.size u1 u) (by kernel_rfl) (S0) (fun hHeld => ?_)
    (first | refine tky 0 (h := ?_) | refine tkn 0 (h := ?_)); (try simp only [Act.put, tkd, tke, tkf])
    (first | refine tky 1 (h := ?_) | refine tkn 1 (h := ?_)); (try simp only [Act.put, tkd, tke, tkf])
    (first | refine tky 2 (h := ?_) | refine tkn 2 (h := ?_)); (try simp only [Act.put, tkd, tke, tkf])
    (first | refine tky 3 (h := ?_) | refine tkn 3 (h := ?_)); (try simp only [Act.put, tkd, tke, tkf])
    (first | refine tky 4 (h := ?_) | refine tkn 4 (h := ?_)); (try simp only [Act.put, tkd, tke, tkf])
    (first | refine tky 5 (h := ?_) | refine tkn 5 (h := ?_)); (try simp only [Act.put, tkd, tke, tkf])
    (first | refine tky 6 (h := ?_) | refine tkn 6 (h := ?_)); (try simp only [Act.put, tkd, tke, tkf])
    refine wpAnyH_ready (rs := [7]) (by kernel_rfl) (by simp) ?_; refine AllReadyH.cons (o := ?_) ?_ (fun K hK => ?_) AllReadyH.nil; rotate_left 1; (next => simp only [List.getElem?_toArray, List.getElem?_cons_succ, List.getElem?_cons_zero]; rfl); go_simp
    (try go_wp2_with fail); refine hK.out _ _ ((by repeat' (first | exact bl_refl _ | refine bl_drew ?_ | refine bl_drewN ?_ _ | refine bl_alloc ?_ _))) (fun hHeld => ?_); clear hK K; (try simp only [Act.put, List.setIfInBounds_toArray, List.set_cons_zero, List.set_cons_succ])
    refine wpAnyH_ready (rs := [8]) (by kernel_rfl) (by simp) ?_; refine AllReadyH.cons (o := ?_) ?_ (fun K hK => ?_) AllReadyH.nil; rotate_left 1; (next => simp only [List.getElem?_toArray, List.getElem?_cons_succ, List.getElem?_cons_zero]; rfl); go_simp
    go_at_call 66
    (with_reducible refine (CC.out _ _ (some ⟨b, o + tn * 6, none⟩) c (c - tn) (HI1.out.below (by repeat' (first | exact bl_refl _ | refine bl_drew ?_ | refine bl_drewN ?_ _ | refine bl_alloc ?_ _))) (HK1.out.below (by repeat' (first | exact bl_refl _ | refine bl_drew ?_ | refine bl_drewN ?_ _ | refine bl_alloc ?_ _))) ?_ ?_ ?_ ?_ ?_).mono ?_)
    · exact ((HI1.out.below (by repeat' (first | exact bl_refl _ | refine bl_drew ?_ | refine bl_drewN ?_ _ | refine bl_alloc ?_ _))).from_ (t := tn) htl)
    · intro e; cases e
    · simp [go_sem]
    · simp [go_sem]
    · (simp [go_sem]; try omega)
    rintro e u2 ⟨A2, c2', rfl, ho2, hb2⟩
    have HB2 := hide (bl_call hb2 (show Below u1.heap.size u1 _ from (by repeat' (first | exact bl_refl _ | refine bl_drew ?_ | refine bl_drewN ?_ _ | refine bl_alloc ?_ _))))
    have HO2 := hide (ho2.more (B' := w.heap.size) (by have := HB1.out.size; simp; omega))
    clear ho2 hb2
    (try go_wp2_with fail); refine hK.out _ _ (HB2.out) (fun hHeld => ?_); clear hK K; (try simp only [Act.put, List.setIfInBounds_toArray, List.set_cons_zero, List.set_cons_succ])
    (first | refine tky 9 (h := ?_) | refine tkn 9 (h := ?_)); (try simp only [Act.put, tkd, tke, tkf])
    refine wpAnyH_done (by kernel_rfl) ?_ _
    have HR2 := hide HO2.out.reads
    cases ok : isOk R
    · have O := hide (RB.out ok)
      have VC2 := VC.out _ _ c2' HR2.out
      rw [ok] at VC2
      have HVC := hide VC2
      clear VC2 ok
      go_wp2_with fail
      (with_reducible refine HVC.out.mono ?_)
      rintro e u3 ⟨rfl, hb3⟩
      have HB3 := hide (bl_call hb3 (bl_call HB2.out HB1.out))
      clear hb3
      go_wp2
      refine bodyPost_ret (v := .tuple #[.slice none 0 0, .bool false]) (by simp [results, Try.results24, go_sem]) rfl (RetI.no O.out HB3.out)
    · have O := hide (RY.out ok)
      have VC2 := VC.out _ _ c2' HR2.out
      rw [ok] at VC2
      have HVC := hide VC2
      clear VC2 ok
      go_wp2_with fail
      (with_reducible refine HVC.out.mono ?_)
      rintro e u3 ⟨rfl, hb3⟩
      have HB3 := hide (bl_call hb3 (bl_call HB2.out HB1.out))
      have HO3 := hide (HO2.out.below hb3)
      clear hb3
      go_wp2
      refine bodyPost_ret (v := .tuple #[.slice A2 R.length c2', .bool true]) (by simp [results, Try.results24, go_sem]) rfl ?_
      rw [O.out]
      exact ⟨A2, c2', rfl, HO3.out, HB3.out⟩
set_option maxHeartbeats 4000000 in
theorem ReplaceItems_s (w : World) (A B : Option Addr) (n c m c' : Nat) (L Y : List It) (f t : Int) (h : TL w A n L) (hn : n ≤ 1048576) (hc : n ≤ c) (hY : TL w B m Y) (hm : m ≤ 1048576) (hBc : B = none → c' = 0) :
    Calls Try.prog 23 #[.slice A n c, .int .i64 f, .int .i64 t, .slice B m c'] w (RetI w (rpO L Y f t)) := by
  obtain ⟨i0, hi0, jz0, jz1, jz2⟩ := info_parts it_info
  obtain rfl : n = L.length := h.1
  obtain rfl : m = Y.length := hY.1
  have HI := hide h
  have HK := hide hY
  have HBC := hide hBc
  have VS := fun (u : World) (hu : TL u A L.length L) => validItems_s u A L.length c L hu (by omega)
  clear hY hBc
  cases q1 : isOk L
  · have O := hide (rpO_no (L := L) (K := Y) (f := f) (t := t) (by unfold rpV; rw [q1]; rfl))
    rw [q1] at VS
    have HVS := hide VS
    clear VS h q1
    go_enter Try.func23, Try.ntmps23
    go_wp2_with (go_at_call 48; (with_reducible refine (HVS.out _ HI.out).mono ?_); rintro e u1 ⟨rfl, hb⟩; have HB1 := hide hb; clear hb)
    refine bodyPost_ret (v := .tuple #[.slice none 0 0, .bool false]) (by simp [results, Try.results23, go_sem]) rfl (RetI.no O.out HB1.out)
  rw [q1] at VS
  have HVS := hide VS
  clear VS
  rcases (by omega : f < 0 ∨ 0 ≤ f) with f0 | f0
  · have O := hide (rpO_no (L := L) (K := Y) (f := f) (t := t) (by
      unfold rpV
      cases e : inB f 0 t
      · simp
      · have := inB_iff.1 e; omega))
    clear h q1
    go_enter Try.func23, Try.ntmps23
    go_wp2_with (go_at_call 48; (with_reducible refine (HVS.out _ HI.out).mono ?_); rintro e u1 ⟨rfl, hb⟩; have HB1 := hide hb; clear hb)
    refine bodyPost_ret (v := .tuple #[.slice none 0 0, .bool false]) (by simp [results, Try.results23, go_sem]) rfl (RetI.no O.out HB1.out)
  have f0' : ¬ f < 0 := by omega
  rcases (by omega : t < f ∨ ¬ t < f) with f1 | f1
  · have O := hide (rpO_no (L := L) (K := Y) (f := f) (t := t) (by
      unfold rpV
      cases e : inB f 0 t
      · simp
      · have := inB_iff.1 e; omega))
    clear h q1
    go_enter Try.func23, Try.ntmps23
    go_wp2_with (go_at_call 48; (with_reducible refine (HVS.out _ HI.out).mono ?_); rintro e u1 ⟨rfl, hb⟩; have HB1 := hide hb; clear hb)
    refine bodyPost_ret (v := .tuple #[.slice none 0 0, .bool false]) (by simp [results, Try.results23, go_sem]) rfl (RetI.no O.out HB1.out)
  rcases (by omega : (L.length : Int) < t ∨ ¬ (L.length : Int) < t) with t1 | t1
  · have O := hide (rpO_no (L := L) (K := Y) (f := f) (t := t) (by
      unfold rpV
      cases e : inB t 0 L.length
      · simp
      · have := inB_iff.1 e; omega))
    clear h q1
    go_enter Try.func23, Try.ntmps23
    go_wp2_with (go_at_call 48; (with_reducible refine (HVS.out _ HI.out).mono ?_); rintro e u1 ⟨rfl, hb⟩; have HB1 := hide hb; clear hb)
    refine bodyPost_ret (v := .tuple #[.slice none 0 0, .bool false]) (by simp [results, Try.results23, go_sem]) rfl (RetI.no O.out HB1.out)
  rcases (by omega : 60 < Y.length ∨ Y.length ≤ 60) with q4 | q4
  · have O := hide (rpO_no (L := L) (K := Y) (f := f) (t := t) (by unfold rpV; rw [decide_eq_false (show ¬ Y.length ≤ 60 by omega)]; simp))
    have g4 : (60 : Int) < (Y.length : Int) := by omega
    clear h q1
    go_enter Try.func23, Try.ntmps23
    go_wp2_with (go_at_call 48; (with_reducible refine (HVS.out _ HI.out).mono ?_); rintro e u1 ⟨rfl, hb⟩; have HB1 := hide hb; clear hb)
    refine bodyPost_ret (v := .tuple #[.slice none 0 0, .bool false]) (by simp [results, Try.results23, go_sem]) rfl (RetI.no O.out HB1.out)
  obtain ⟨fn, rfl⟩ := Int.eq_ofNat_of_zero_le f0
  obtain ⟨tn, rfl⟩ := Int.eq_ofNat_of_zero_le (show 0 ≤ t by omega)
  have hft : fn ≤ tn := by omega
  have htl : tn ≤ L.length := by omega
  have V := hide (show rpV L Y fn tn = true by unfold rpV; rw [q1, inB_yes (by omega) (by omega), inB_yes (by omega) (by omega), decide_eq_true q4]; rfl)
  have hl := (isOk_iff.1 q1).2.1
  obtain ⟨b, o, rfl, hb0, _⟩ := h.2 (by omega)
  have RL := hide (rpL_len (L := L) (K := Y) hft htl)
  have RB := hide (fun h => rpO_bad (L := L) (K := Y) (f := fn) (t := tn) h)
  have RY := hide (fun h => rpO_yes (L := L) (K := Y) (f := fn) (t := tn) V.out h)
  have g4 : ¬ (60 : Int) < (Y.length : Int) := by omega
  have c1 : fn ≤ c := by omega
  have c2 : (fn : Int) ≤ (c : Int) := by omega
  have c3 : ¬ c = 0 := by omega
  have c5 : (tn : Int) ≤ (L.length : Int) := by omega
  have hlc : L.length ≤ c := hc
  have e1 : ((L.length : Int) - (tn : Int)) = ((L.length - tn : Nat) : Int) := by omega
  have VC0 := fun (u : World) (X : Option Addr) (d : Nat) (hu : TL u X (rpL L Y fn tn).length (rpL L Y fn tn)) => validItems_s u X (rpL L Y fn tn).length d (rpL L Y fn tn) hu (by rw [RL.out]; omega)
  rw [RL.out] at VC0
  have VC := hide VC0
  have lt := hide (show fn = (L.take fn).length by simp; omega)
  have lt2 := hide (show fn + Y.length = (L.take fn ++ Y).length by simp; omega)
  obtain ⟨R, hR⟩ : ∃ R, R = rpL L Y fn tn := ⟨_, rfl⟩
  have RE := hide (show L.take fn ++ Y ++ L.drop tn = R from hR.symm)
  rw [← hR] at RL RB RY VC
  clear h q1 hc f0 V VC0 hR
  have H0 : ∀ u : World, w.heap.size ≤ u.heap.size → Hid (TO (u.alloc (.cells #[] 67)) 67 w.heap.size (some ⟨u.heap.size, 0, none⟩) 0 ([] : List It)) := fun u hu => hide (TO.lit0 hu)
  by_cases hct : c = tn
  · subst hct
    have hz : L.length - c = 0 := by omega
    have hd : L.drop c = [] := List.drop_eq_nil_of_le (by omega)
    have RL := hide (by have h9 := RL.out; rwa [hz, Nat.add_zero] at h9)
    have VC := hide (by have h9 := VC.out; rwa [hz, Nat.add_zero] at h9)
    have RE := hide (show L.take fn ++ Y ++ [] = R from by rw [← hd]; exact RE.out)
    clear hd
    go_enter Try.func23, Try.ntmps23
    go_upto_region 3 with (first | (go_at_call 48; (with_reducible refine (HVS.out _ HI.out).mono ?_); rintro e u1 ⟨rfl, hb⟩; have HB1 := hide hb; clear hb) | fail)
    have HI1 := hide ((HI.out.below HB1.out).alloc (.cells #[] 67))
    have HK1 := hide ((HK.out.below HB1.out).alloc (.cells #[] 67))
    have HA1 := hide (bl_alloc HB1.out (.cells #[] 67))
    have hz1 := HB1.out.size
    have HO1 := H0 u1 hz1
    have hzA : w.heap.size ≤ (u1.alloc (.cells #[] 67)).heap.size := by simp; omega
    have TK1 := hide (HI1.out.takei (show fn ≤ L.length by omega))
    clear H0
    go_wp2_with (first | (at_builtin; refine wpList_append_recs rfl (.tmp 34) (.tmp 37) _ rfl 67 i0 _ 48 Try.underlying25 hi0 jz0 jz1 jz2 rfl (by decide) w.heap.size (some ⟨u1.heap.size, 0, none⟩) 0 0 [] rfl rfl HO1.out (some ⟨b, o, none⟩) fn c (L.take fn) rfl TK1.out (fun r _ => ones6 r) (fun e => by cases e) (by omega) hzA ?_; intro A2 d2 u2 ho2 hb2 hg2; have HO2 := hide (show TO u2 67 w.heap.size A2 d2 (L.take fn) from ho2); have HB2 := hide (HA1.out.trans hb2); have hz2 := HB2.out.size; have HK2 := hide (HK.out.below HB2.out); have HI2 := hide (HI.out.below HB2.out); clear ho2 hb2 hg2) | (at_builtin; refine wpList_append_recs rfl (.tmp 39) (.tmp 40) _ rfl 67 i0 _ 48 Try.underlying25 hi0 jz0 jz1 jz2 rfl (by decide) w.heap.size A2 d2 fn (L.take fn) rfl lt.out HO2.out B Y.length c' Y rfl HK2.out (fun r _ => ones6 r) HBC.out (by omega) hz2 ?_; intro A3 d3 u3 ho3 hb3 hg3; have HO3 := hide ho3; have HB3 := hide (HB2.out.trans hb3); have hz3 := HB3.out.size; have HI3 := hide (HI.out.below HB3.out); clear ho3 hb3 hg3; have TD := hide (show TL u3 (some ⟨b, o, none⟩) 0 ([] : List It) from ⟨rfl, fun h => by omega⟩)) | (at_builtin; refine wpList_append_recs rfl (.tmp 42) (.tmp 45) _ rfl 67 i0 _ 48 Try.underlying25 hi0 jz0 jz1 jz2 rfl (by decide) w.heap.size A3 d3 (fn + Y.length) (L.take fn ++ Y) rfl lt2.out HO3.out (some ⟨b, o, none⟩) 0 0 ([] : List It) rfl TD.out (fun r _ => ones6 r) (fun e => by cases e) (by omega) hz3 ?_; intro A4 d4 u4 ho4 hb4 hg4; have HO4 := hide ho4; have HB4 := hide (HB3.out.trans hb4); clear ho4 hb4 hg4))
    rw [RE.out] at HO4
    have HR4 := hide (show TL u4 A4 (fn + Y.length) R by rw [← RL.out]; exact HO4.out.reads)
    cases ok : isOk R
    · have O := hide (RB.out ok)
      have VC2 := VC.out _ _ d4 HR4.out
      rw [ok] at VC2
      have HVC := hide VC2
      clear VC2 ok
      go_wp2_with fail
      (with_reducible refine HVC.out.mono ?_)
      rintro e u5 ⟨rfl, hb5⟩
      have HB5 := hide (bl_call hb5 HB4.out)
      clear hb5
      go_wp2
      refine bodyPost_ret (v := .tuple #[.slice none 0 0, .bool false]) (by simp [results, Try.results23, go_sem]) rfl (RetI.no O.out HB5.out)
    · have O := hide (RY.out ok)
      have VC2 := VC.out _ _ d4 HR4.out
      rw [ok] at VC2
      have HVC := hide VC2
      clear VC2 ok
      go_wp2_with fail
      (with_reducible refine HVC.out.mono ?_)
      rintro e u5 ⟨rfl, hb5⟩
      have HB5 := hide (bl_call hb5 HB4.out)
      have HO5 := hide (HO4.out.below hb5)
      clear hb5
      go_wp2
      refine bodyPost_ret (v := .tuple #[.slice A4 (fn + Y.length) d4, .bool true]) (by simp [results, Try.results23, go_sem]) rfl ?_
      rw [O.out, ← RL.out]
      exact ⟨A4, d4, rfl, HO5.out, HB5.out⟩
  · skip
    go_enter Try.func23, Try.ntmps23
    go_upto_region 3 with (first | (go_at_call 48; (with_reducible refine (HVS.out _ HI.out).mono ?_); rintro e u1 ⟨rfl, hb⟩; have HB1 := hide hb; clear hb) | fail)
    have HI1 := hide ((HI.out.below HB1.out).alloc (.cells #[] 67))
    have HK1 := hide ((HK.out.below HB1.out).alloc (.cells #[] 67))
    have HA1 := hide (bl_alloc HB1.out (.cells #[] 67))
    have hz1 := HB1.out.size
    have HO1 := H0 u1 hz1
    have hzA : w.heap.size ≤ (u1.alloc (.cells #[] 67)).heap.size := by simp; omega
    have TK1 := hide (HI1.out.takei (show fn ≤ L.length by omega))
    clear H0
    go_wp2_with (first | (at_builtin; refine wpList_append_recs rfl (.tmp 34) (.tmp 37) _ rfl 67 i0 _ 48 Try.underlying25 hi0 jz0 jz1 jz2 rfl (by decide) w.heap.size (some ⟨u1.heap.size, 0, none⟩) 0 0 [] rfl rfl HO1.out (some ⟨b, o, none⟩) fn c (L.take fn) rfl TK1.out (fun r _ => ones6 r) (fun e => by cases e) (by omega) hzA ?_; intro A2 d2 u2 ho2 hb2 hg2; have HO2 := hide (show TO u2 67 w.heap.size A2 d2 (L.take fn) from ho2); have HB2 := hide (HA1.out.trans hb2); have hz2 := HB2.out.size; have HK2 := hide (HK.out.below HB2.out); have HI2 := hide (HI.out.below HB2.out); clear ho2 hb2 hg2) | (at_builtin; refine wpList_append_recs rfl (.tmp 39) (.tmp 40) _ rfl 67 i0 _ 48 Try.underlying25 hi0 jz0 jz1 jz2 rfl (by decide) w.heap.size A2 d2 fn (L.take fn) rfl lt.out HO2.out B Y.length c' Y rfl HK2.out (fun r _ => ones6 r) HBC.out (by omega) hz2 ?_; intro A3 d3 u3 ho3 hb3 hg3; have HO3 := hide ho3; have HB3 := hide (HB2.out.trans hb3); have hz3 := HB3.out.size; have HI3 := hide (HI.out.below HB3.out); clear ho3 hb3 hg3; have TD := hide (HI3.out.from_ (t := tn) htl)) | (at_builtin; refine wpList_append_recs rfl (.tmp 42) (.tmp 45) _ rfl 67 i0 _ 48 Try.underlying25 hi0 jz0 jz1 jz2 rfl (by decide) w.heap.size A3 d3 (fn + Y.length) (L.take fn ++ Y) rfl lt2.out HO3.out (some ⟨b, o + tn * 6, none⟩) (L.length - tn) (c - tn) (L.drop tn) rfl TD.out (fun r _ => ones6 r) (fun e => by cases e) (by omega) hz3 ?_; intro A4 d4 u4 ho4 hb4 hg4; have HO4 := hide ho4; have HB4 := hide (HB3.out.trans hb4); clear ho4 hb4 hg4))
    rw [RE.out] at HO4
    have HR4 := hide (show TL u4 A4 (fn + Y.length + (L.length - tn)) R by rw [← RL.out]; exact HO4.out.reads)
    cases ok : isOk R
    · have O := hide (RB.out ok)
      have VC2 := VC.out _ _ d4 HR4.out
      rw [ok] at VC2
      have HVC := hide VC2
      clear VC2 ok
      go_wp2_with fail
      (with_reducible refine HVC.out.mono ?_)
      rintro e u5 ⟨rfl, hb5⟩
      have HB5 := hide (bl_call hb5 HB4.out)
      clear hb5
      go_wp2
      refine bodyPost_ret (v := .tuple #[.slice none 0 0, .bool false]) (by simp [results, Try.results23, go_sem]) rfl (RetI.no O.out HB5.out)
    · have O := hide (RY.out ok)
      have VC2 := VC.out _ _ d4 HR4.out
      rw [ok] at VC2
      have HVC := hide VC2
      clear VC2 ok
      go_wp2_with fail
      (with_reducible refine HVC.out.mono ?_)
      rintro e u5 ⟨rfl, hb5⟩
      have HB5 := hide (bl_call hb5 HB4.out)
      have HO5 := hide (HO4.out.below hb5)
      clear hb5
      go_wp2
      refine bodyPost_ret (v := .tuple #[.slice A4 (fn + Y.length + (L.length - tn)) d4, .bool true]) (by simp [results, Try.results23, go_sem]) rfl ?_
      rw [O.out, ← RL.out]
      exact ⟨A4, d4, rfl, HO5.out, HB5.out⟩
end Go.Proofs.Ytlkfpcajpdohiaa
