/- CheckBreaks and ValidBreaks in the model. -/
import Derived.Test.YtmncdpiojhgcdaaSg
namespace Go.Proofs.Ytmncdpiojhgcdaa
open Go.ChangeShapes Go.WideShapes Go.ChangeAt Go.RowKit
set_option linter.unusedVariables false
open Classical

theorem okT_step {s : Int} {E : List Int} {C : Nat → Int → Int → Int × Bool} {k : Nat} (h : okT s E C k) (hx : (C k (frm s E k) (ng E k)).2 = true) : okT s E C (k + 1) := fun i hi => by
  rcases (by omega : i < k ∨ i = k) with e | e
  · exact h i e
  · rw [e]; exact hx
set_option maxHeartbeats 2000000 in
theorem CheckBreaks_s (w : World) (A B : Option Addr) (n c m c' : Nat) (L : List It) (E : List Int) (d t : Int) (h : TL w A n L) (hn : n ≤ 1048576) (hE : IL w B m E) (hm : m ≤ 1048576) (hwf : okW E) :
    Calls Try.prog 25 #[.slice A n c, .int .i64 d, .int .i64 t, .slice B m c'] w fun e w' => e = .returned (.tuple #[.int .i64 (cbO L d t E).1, .bool (cbO L d t E).2]) ∧ Below w.heap.size w w' := by
  obtain rfl : n = L.length := h.1
  obtain rfl : m = E.length := hE.1
  have HI := hide h
  have HE := hide hE
  have HWF := hide hwf
  have LC := hide (fun (u : World) (hu : TL u A L.length L) (a b : Int) wa wb => LineCost_s u A L.length c L hu hn a b d t wa wb)
  have BAD := hide (fun k hk hx => cbV_bad (L := L) (E := E) (C := fun _ a b => coO L a b d t) (k := k) hk (fun _ => hx))
  have ALL := hide (fun h1 h2 h3 => cbV_of (L := L) (E := E) (C := fun _ a b => coO L a b d t) h1 h2 h3)
  have NO := hide (fun h1 => cbV_no (L := L) (E := E) (C := fun _ a b => coO L a b d t) h1)
  have SB := hide (fun (k : Nat) => sto_bd (f := fun j => (coO L (frm (-1) E j) (ng E j) d t).1) (M := 200000000) (k := k) (fun j _ => coO_bd _ _ d t))
  obtain ⟨V, hV⟩ : ∃ V, V = cbO L d t E := ⟨_, rfl⟩
  rw [← hV]
  unfold cbO at hV
  have HV := hide hV
  clear h hE hwf hV
  go_enter Try.func25, Try.ntmps25
  go_wp2
  go_loopw [10, 11, 12] (fun su fr i u => ∃ (k : Nat) (f z : Int), k ≤ E.length ∧ i = .int .i64 k ∧ fr = .int .i64 f ∧ frm (-1) E k = f ∧ su = .int .i64 z ∧ z = sto (fun j => (coO L (frm (-1) E j) (ng E j) d t).1) k ∧ okT (-1) E (fun _ a b => coO L a b d t) k ∧ Below w.heap.size w u) (fun _ _ i _ => E.length - (intOf i).toNat)
  case atStart => exact ⟨0, -1, 0, by omega, rfl, rfl, rfl, rfl, rfl, fun j hj => by omega, bl_refl _⟩
  case round =>
    obtain ⟨k, f, z, hk, rfl, rfl, hfr, rfl, hz, hok, hbl⟩ := hrel
    have sb := SB.out k
    rw [← hz] at sb
    have wa := frm_wf HWF.out hk
    rw [hfr] at wa
    have HOK := hide hok
    have HFR := hide hfr
    have HZ := hide hz
    have HB := hide hbl
    have HI1 := hide (HI.out.below hbl)
    clear hok hfr hz
    by_cases hlt : k < E.length
    · obtain ⟨b, o, rfl, hb0, c0⟩ := HE.out.at_ hlt
      have c0 := (hbl.cell (p := ⟨b, o + k, none⟩) hb0).trans c0
      have wb := HWF.out k hlt
      have FS := hide (frm_succ (-1) E k)
      have BK := hide (BAD.out k hlt)
      have OS := hide (fun hx => okT_step (s := -1) (E := E) (C := fun _ a b => coO L a b d t) (k := k) HOK.out hx)
      have SS := hide (show sto (fun j => (coO L (frm (-1) E j) (ng E j) d t).1) (k + 1) = sto (fun j => (coO L (frm (-1) E j) (ng E j) d t).1) k + (coO L (frm (-1) E k) (ng E k) d t).1 from rfl)
      have vb := coO_bd (L := L) (frm (-1) E k) (ng E k) d t
      rw [HFR.out] at BK OS SS vb
      rw [← HZ.out] at SS
      obtain ⟨y, hy⟩ : ∃ y, y = ng E k := ⟨_, rfl⟩
      rw [← hy] at c0 wb FS BK OS SS vb
      have LK := LC.out wr HI1.out f y wa wb
      obtain ⟨v, hv⟩ : ∃ v, v = (coO L f y d t).1 := ⟨_, rfl⟩
      obtain ⟨fl, hfl⟩ : ∃ v, v = (coO L f y d t).2 := ⟨_, rfl⟩
      rw [← hv, ← hfl] at LK
      rw [← hv] at SS vb
      rw [← hfl] at BK OS
      have HLK := hide LK
      clear hy hv hfl LK wa wb hbl
      cases fl
      · have O := hide (BK.out rfl)
        clear BK OS SS
        go_wp2_with fail
        (with_reducible refine HLK.out.mono ?_)
        rintro e u1 ⟨rfl, hb⟩
        have HB1 := hide (bl_call hb HB.out)
        clear hb c0
        go_wp2
        go_ret2
        exact ⟨by rw [HV.out, O.out]; rfl, HB1.out⟩
      · have O := hide (OS.out rfl)
        clear BK OS
        go_wp2_with fail
        (with_reducible refine HLK.out.mono ?_)
        rintro e u1 ⟨rfl, hb⟩
        have HB1 := hide (bl_call hb HB.out)
        have c0 := keep_cell hb c0
        clear hb
        go_wp2
        go_roundw
        case rel => exact ⟨k + 1, y, z + v, by omega, by go_num, rfl, FS.out, rfl, SS.out.symm, O.out, HB1.out⟩
        case measure => simp [intOf]; omega
    · obtain rfl : k = E.length := by omega
      rcases Nat.eq_zero_or_pos E.length with h0 | h0
      · have O := hide (NO.out (by
          cases q : isOk L
          · rfl
          · rw [show E = [] from List.eq_nil_of_length_eq_zero h0, endB_nil (isOk_iff.1 q).2.1.1]; rfl))
        have g0 : ((E.length : Int) == 0) = true := beq_iff_eq.2 (by omega)
        clear h0 hlt
        go_wp2
        go_ret2
        exact ⟨by rw [HV.out, O.out]; rfl, HB.out⟩
      · have g0 : ((E.length : Int) == 0) = false := beq_eq_false_iff_ne.2 (by omega)
        have OK1 := hide (coO_has (HOK.out 0 h0))
        cases q : decide (f = (L.length : Int) - 1)
        · have O := hide (NO.out (by
            have : endB L E = false := by unfold endB; rw [HFR.out]; exact q
            rw [this]; simp))
          have g1 : (f == (L.length : Int) - 1) = false := beq_eq_false_iff_ne.2 (of_decide_eq_false q)
          have g2 : (f != (L.length : Int) - 1) = true := bne_iff_ne.2 (of_decide_eq_false q)
          clear hlt
          go_wp2
          go_ret2
          exact ⟨by rw [HV.out, O.out]; rfl, HB.out⟩
        · have O := hide (ALL.out OK1.out (by unfold endB; rw [HFR.out]; exact q) HOK.out)
          have g1 : (f == (L.length : Int) - 1) = true := beq_iff_eq.2 (of_decide_eq_true q)
          have g2 : (f != (L.length : Int) - 1) = false := by rw [bne, g1]; rfl
          clear hlt
          go_wp2
          go_ret2
          exact ⟨by rw [HV.out, O.out, ← HZ.out]; rfl, HB.out⟩
set_option maxHeartbeats 2000000 in
theorem validBreaks_s (w : World) (A B : Option Addr) (n c m c' : Nat) (L : List It) (E : List Int) (h : TL w A n L) (hn : n ≤ 1048576) (hE : IL w B m E) (hm : m ≤ 1048576) (hwf : okW E) :
    Calls Try.prog 89 #[.slice A n c, .slice B m c'] w fun e w' => e = .returned (.bool (vbO L E)) ∧ Below w.heap.size w w' := by
  obtain rfl : n = L.length := h.1
  obtain rfl : m = E.length := hE.1
  have HI := hide h
  have HE := hide hE
  have HWF := hide hwf
  have LC := hide (fun (u : World) (hu : TL u A L.length L) (a b : Int) wa wb => validLine_s u A L.length c L hu hn a b wa wb)
  have VI := hide (fun (u : World) (hu : TL u A L.length L) => validItems_s u A L.length c L hu (by omega))
  have BAD := hide (fun k hk hx => cbV_bad (L := L) (E := E) (C := fun _ a b => (0, okL L a b)) (k := k) hk (fun _ => hx))
  have ALL := hide (fun h1 h2 h3 => cbV_of (L := L) (E := E) (C := fun _ a b => (0, okL L a b)) h1 h2 h3)
  have NO := hide (fun h1 => cbV_no (L := L) (E := E) (C := fun _ a b => (0, okL L a b)) h1)
  obtain ⟨V, hV⟩ : ∃ V, V = vbO L E := ⟨_, rfl⟩
  rw [← hV]
  unfold vbO at hV
  have HV := hide hV
  clear h hE hwf hV
  go_enter Try.func89, Try.ntmps89
  go_wp2
  go_loopw [5, 6] (fun fr i u => ∃ (k : Nat) (f : Int), k ≤ E.length ∧ i = .int .i64 k ∧ fr = .int .i64 f ∧ frm (-1) E k = f ∧ okT (-1) E (fun _ a b => (0, okL L a b)) k ∧ Below w.heap.size w u) (fun _ i _ => E.length - (intOf i).toNat)
  case atStart => exact ⟨0, -1, by omega, rfl, rfl, rfl, fun j hj => by omega, bl_refl _⟩
  case round =>
    obtain ⟨k, f, hk, rfl, rfl, hfr, hok, hbl⟩ := hrel
    have wa := frm_wf HWF.out hk
    rw [hfr] at wa
    have HOK := hide hok
    have HFR := hide hfr
    have HB := hide hbl
    have HI1 := hide (HI.out.below hbl)
    clear hok hfr
    by_cases hlt : k < E.length
    · obtain ⟨b, o, rfl, hb0, c0⟩ := HE.out.at_ hlt
      have c0 := (hbl.cell (p := ⟨b, o + k, none⟩) hb0).trans c0
      have wb := HWF.out k hlt
      have FS := hide (frm_succ (-1) E k)
      have BK := hide (BAD.out k hlt)
      have OS := hide (fun hx => okT_step (s := -1) (E := E) (C := fun _ a b => (0, okL L a b)) (k := k) HOK.out hx)
      rw [HFR.out] at BK OS
      obtain ⟨y, hy⟩ : ∃ y, y = ng E k := ⟨_, rfl⟩
      rw [← hy] at c0 wb FS BK OS
      have LK := LC.out wr HI1.out f y wa wb
      obtain ⟨fl, hfl⟩ : ∃ v, v = okL L f y := ⟨_, rfl⟩
      rw [← hfl] at LK BK OS
      have HLK := hide LK
      clear hy hfl LK wa wb hbl
      cases fl
      · have O := hide (BK.out rfl)
        clear BK OS
        go_wp2_with fail
        (with_reducible refine HLK.out.mono ?_)
        rintro e u1 ⟨rfl, hb⟩
        have HB1 := hide (bl_call hb HB.out)
        clear hb c0
        go_wp2
        go_ret
        exact ⟨by rw [HV.out, O.out]; first | done | rfl, HB1.out⟩
      · have O := hide (OS.out rfl)
        clear BK OS
        go_wp2_with fail
        (with_reducible refine HLK.out.mono ?_)
        rintro e u1 ⟨rfl, hb⟩
        have HB1 := hide (bl_call hb HB.out)
        have c0 := keep_cell hb c0
        clear hb
        go_wp2
        go_roundw
        case rel => exact ⟨k + 1, y, by omega, by go_num, rfl, FS.out, O.out, HB1.out⟩
        case measure => simp [intOf]; omega
    · obtain rfl : k = E.length := by omega
      have VK := VI.out wr HI1.out
      obtain ⟨ok, hko⟩ : ∃ b, b = isOk L := ⟨_, rfl⟩
      rw [← hko] at VK
      have HVK := hide VK
      have HO1 := hide hko
      clear VK hlt hko
      cases ok
      · have O := hide (NO.out (by rw [← HO1.out]; rfl))
        go_wp2_with fail
        (with_reducible refine HVK.out.mono ?_)
        rintro e u1 ⟨rfl, hb⟩
        have HB1 := hide (bl_call hb HB.out)
        clear hb
        go_wp2
        go_ret
        exact ⟨by rw [HV.out, O.out]; first | done | rfl, HB1.out⟩
      · cases q : decide (f = (L.length : Int) - 1)
        · have O := hide (NO.out (by
            have : endB L E = false := by unfold endB; rw [HFR.out]; exact q
            rw [this]; simp))
          have g1 : (f == (L.length : Int) - 1) = false := beq_eq_false_iff_ne.2 (of_decide_eq_false q)
          go_wp2_with fail
          (with_reducible refine HVK.out.mono ?_)
          rintro e u1 ⟨rfl, hb⟩
          have HB1 := hide (bl_call hb HB.out)
          clear hb
          go_wp2
          go_ret
          exact ⟨by rw [HV.out, O.out]; first | done | rfl, HB1.out⟩
        · have O := hide (ALL.out HO1.out.symm (by unfold endB; rw [HFR.out]; exact q) HOK.out)
          have g1 : (f == (L.length : Int) - 1) = true := beq_iff_eq.2 (of_decide_eq_true q)
          go_wp2_with fail
          (with_reducible refine HVK.out.mono ?_)
          rintro e u1 ⟨rfl, hb⟩
          have HB1 := hide (bl_call hb HB.out)
          clear hb
          go_wp2
          go_ret
          exact ⟨by rw [HV.out, O.out]; first | done | rfl, HB1.out⟩
end Go.Proofs.Ytmncdpiojhgcdaa
