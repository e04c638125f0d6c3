/- A paragraph set, in the model. -/
import Derived.Test.YtmncdpiojhgcdaaSr
import Derived.Test.YtmncdpiojhgcdaaSlS
import Derived.Test.YtmncdpiojhgcdaaCbS
namespace Go.Proofs.Ytmncdpiojhgcdaa
open Go.ChangeShapes Go.WideShapes Go.ChangeAt Go.RowKit Go.Shelf
set_option linter.unusedVariables false
set_option linter.unusedSimpArgs false

set_option maxRecDepth 8000 in
set_option maxHeartbeats 4000000 in
theorem SetParagraph_s (w : World) (A B : Option Addr) (n c m c' : Nat) (L : List It) (E : List Int) (d : Int) (h : TL w A n L) (hn : n ≤ 1048576) (hE : IL w B m E) (hm : m ≤ 1048576) (hwf : okW E) :
    Calls Try.prog 35 #[.slice A n c, .slice B m c', .int .i64 d] w (RetRR w (spO L d E)) := by
  have VB := hide (validBreaks_s (w.alloc (.cells #[] 30)) A B n c m c' L E (h.alloc _) hn (hE.alloc _) hm hwf)
  have HA0 := hide (bl_alloc (bl_refl w) (.cells #[] 30))
  have H0 := hide (RR.lit0 w)
  obtain rfl : n = L.length := h.1
  obtain rfl : m = E.length := hE.1
  have HI := hide h
  have HE := hide hE
  clear h hE hwf
  cases hv : vbO L E
  · have O := hide (spO_no (L := L) (d := d) (E := E) (by rw [hv]; rfl))
    rw [hv] at VB
    clear hv
    go_enter Try.func35, Try.ntmps35
    go_wp2_with fail
    (with_reducible refine VB.out.mono ?_)
    rintro e u1 ⟨rfl, hb⟩
    have HB1 := hide (bl_call hb HA0.out)
    clear hb
    go_wp2
    go_ret
    exact ⟨none, 0, [], by rw [O.out]; rfl, by rw [O.out]; exact RR.nil _ _, HB1.out⟩
  rw [hv] at VB
  cases q1 : inB d 1 10000
  · have O := hide (spO_no (L := L) (d := d) (E := E) (by rw [q1]; simp))
    clear hv
    go_enter Try.func35, Try.ntmps35
    go_wp2_with fail
    (with_reducible refine VB.out.mono ?_)
    rintro e u1 ⟨rfl, hb⟩
    have HB1 := hide (bl_call hb HA0.out)
    clear hb
    go_wp2_with (go_at_call 61; refine (validWidth_ss _ _).mono ?_; rintro e w' ⟨rfl, rfl⟩)
    go_ret
    exact ⟨none, 0, [], by rw [O.out]; rfl, by rw [O.out]; exact RR.nil _ _, HB1.out⟩
  · have O := hide (spO_yes (L := L) (d := d) (E := E) (by rw [hv, q1]; rfl))
    have HDD := inB_iff.1 q1
    rw [vbO_eq] at hv
    obtain ⟨hok, _, hall, _⟩ := cbV_true hv
    have HOK := hide (isOk_iff.1 hok)
    have HAL := hide hall
    have LEN := hide (fun k => spN_len L d E k)
    obtain ⟨i1, hi1, lz0, lz1, lz2⟩ := info_parts ints_info
    clear hv hok hall
    go_enter Try.func35, Try.ntmps35
    go_wp2_with fail
    (with_reducible refine VB.out.mono ?_)
    rintro e u1 ⟨rfl, hb⟩
    have HB1 := hide (bl_call hb HA0.out)
    have H1 := hide (H0.out.below hb)
    clear hb H0 VB
    go_wp2_with (go_at_call 61; refine (validWidth_ss _ _).mono ?_; rintro e w' ⟨rfl, rfl⟩)
    go_loopw [7, 8, 9] (fun t f i u => ∃ (k : Nat) (A2 : Option Addr) (m cc : Nat) (V : List Value), k ≤ E.length ∧ t = .slice A2 m cc ∧ f = .int .i64 (frm (-1) E k) ∧ i = .int .i64 k ∧ m = (spN L d E k).length ∧ RR u w.heap.size A2 cc V (spN L d E k) ∧ Below w.heap.size w u) (fun _ _ i _ => E.length - (intOf i).toNat)
    case atStart => exact ⟨0, _, 0, _, [], Nat.zero_le _, rfl, by rw [frm_zero], rfl, rfl, H1.out, HB1.out⟩
    case round =>
      obtain ⟨k, A2, m, cc, V, hk, rfl, rfl, rfl, hm', hrr, hbl⟩ := hrel
      have hlk := LEN.out k
      have HM := hide hm'
      have HMK := hide (show m = k by omega)
      have HRR := hide hrr
      have HBL := hide hbl
      have hzr := hbl.size
      clear hm' hlk hrr
      by_cases hlt : k < E.length
      · obtain ⟨b, o, rfl, hb0, d0⟩ := HE.out.at_ hlt
        have c0 := (hbl.cell (p := ⟨b, o + k, none⟩) hb0).trans d0
        obtain ⟨p, q, g1, g2, g3, g4, g5, g6, g7⟩ := hasL_of (HAL.out k hlt)
        have SL := hide (setLine_s wr A c L (HI.out.below hbl) HOK.out.1 HOK.out.2.1 (frm (-1) E k) p q g1 g3 g4 (by first | exact g5 | exact g6 | exact g7) d HDD.1 HDD.2)
        have NF := hide (show frm (-1) E (k + 1) = (q : Int) by rw [frm_succ, g2])
        have SS := hide (show spN L d E (k + 1) = spN L d E k ++ [setL L (frm (-1) E k) d q] by simp only [spN]; rw [g2]; rfl)
        rw [g2] at c0
        obtain ⟨R, hR⟩ : ∃ R, R = setL L (frm (-1) E k) d q := ⟨_, rfl⟩
        rw [← hR] at SS SL
        obtain ⟨S, hS⟩ : ∃ S, S = spN L d E k := ⟨_, rfl⟩
        rw [← hS] at SS HRR HM
        have HOB := hide (show ∀ j, w.heap.size ≤ j → ((Value.slice A2 S.length cc).ownBlock = some j ∨ ∃ i, i < S.length ∧ (vgR V i).ownBlock = some j) → j < wr.heap.size from fun j _ e => by
          rcases e with e | ⟨i, hi, e⟩
          · exact (HRR.out.lt j e).2
          · exact (HRR.out.2.1.lt hi j e).2)
        obtain ⟨x, hx⟩ : ∃ r, r = frm (-1) E k := ⟨_, rfl⟩
        rw [← hx] at SL ⊢
        clear g1 g2 g3 g4 g5 g6 g7 hR hS hx d0 hbl
        go_wp2_with fail
        (with_reducible refine SL.out.mono ?_)
        rintro e u3 ⟨A3, c3, rfl, ho3, hb3⟩
        have c0 := keep_cell hb3 c0
        have hz3 := hb3.size
        have HO3 := hide ho3
        have HB3 := hide hb3
        have HR3 := hide (HRR.out.below hb3)
        have HBU := hide (bl_call hb3 HBL.out)
        clear ho3 hb3
        go_wp2_with (at_builtin; go_loud (refine wpList_append_rr rfl (.tmp 26) (.tmp 35) _ rfl i1 Try.underlying50 hi1 lz0 lz1 lz2 w.heap.size A2 cc m V S rfl HM.out (HR3.out.alloc _) u3.heap.size A3 c3 R rfl (by simp) wr.heap.size (HO3.out.alloc _) (by omega) HOB.out (by have := HMK.out; omega) (by simp; omega) ?_); intro A4 c4 w' hrr4 hb4; have HB4 := hide ((bl_alloc HBU.out _).trans hb4); have c0 := (hb4.cell (p := ⟨b, o + k, none⟩) hb0).trans ((bl_alloc (bl_refl u3) _).cell (p := ⟨b, o + k, none⟩) (show b < u3.heap.size by omega) |>.trans c0); have HR4 := hide hrr4; clear hb4 hrr4)
        go_roundw
        case rel => exact ⟨k + 1, A4, m + 1, c4, _, by omega, rfl, by rw [NF.out], by go_num, by rw [SS.out, List.length_append, ← HM.out]; rfl, by rw [SS.out]; exact HR4.out, HB4.out⟩
        case measure => simp [intOf]; omega
      · have HKE := hide (show k = E.length by omega)
        go_wp2
        go_ret
        exact ⟨A2, cc, V, by (rw [O.out, HM.out, HKE.out] <;> rfl), by rw [O.out, ← HKE.out]; exact HRR.out, HBL.out⟩
end Go.Proofs.Ytmncdpiojhgcdaa
