/- The overfull lines, in the model. -/
import Derived.Test.YtmncdpiojhgcdaaOf
import Derived.Test.YtmncdpiojhgcdaaFfS
import Derived.Test.YtmncdpiojhgcdaaCbS
namespace Go.Proofs.Ytmncdpiojhgcdaa
open Go.ChangeShapes Go.WideShapes Go.ChangeAt Go.RowKit Go.Shelf
set_option linter.unusedVariables false
set_option linter.unusedSimpArgs false

set_option maxRecDepth 8000 in
set_option maxHeartbeats 4000000 in
theorem overfullLines_s (w : World) (A B : Option Addr) (c c' : Nat) (L : List It) (E : List Int) (d : Int) (h : TL w A L.length L) (hE : IL w B E.length E) (hm : E.length ≤ 1048576) (hv : vbO L E = true) (hd : inB d 1 10000 = true) :
    Calls Try.prog 104 #[.slice A L.length c, .int .i64 d, .slice B E.length c'] w (RetL w (ovN L d E E.length)) := by
  obtain ⟨i0, hi0, jz0, jz1, jz2⟩ := info_parts int_info
  have HI := hide h
  have HE := hide hE
  have H0 : Hid (OL (w.alloc (.cells #[] 3)) 3 w.heap.size (some ⟨w.heap.size, 0, none⟩) 0 []) := hide (by
    have := OL.lit (w := w) (e := 3) (B := w.heap.size) (Nat.le_refl _) [] (by simp)
    simpa using this)
  rw [vbO_eq] at hv
  obtain ⟨hok, _, hall, _⟩ := cbV_true hv
  have HOK := hide (isOk_iff.1 hok)
  have HAL := hide hall
  have HDD := hide hd
  clear h hE hv hok hall hd
  go_enter Try.func104, Try.ntmps104
  go_wp2
  go_loopw [7, 8, 9] (fun t f i u => ∃ (k : Nat) (A2 : Option Addr) (m cc : Nat), k ≤ E.length ∧ t = .slice A2 m cc ∧ f = .int .i64 (frm (-1) E k) ∧ i = .int .i64 k ∧ m = (ovN L d E k).length ∧ OL u 3 w.heap.size A2 cc (ovN L d E k) ∧ Below w.heap.size w u) (fun _ _ i _ => E.length - (intOf i).toNat)
  case atStart => exact ⟨0, _, 0, _, Nat.zero_le _, rfl, by rw [frm_zero], rfl, rfl, H0.out, bl_alloc (bl_refl w) _⟩
  case round =>
    obtain ⟨k, A2, m, cc, hk, rfl, rfl, rfl, hm', hol, hbl⟩ := hrel
    have hmk : m ≤ k := by rw [hm']; exact ovN_len L d E k
    have HM := hide hm'
    have HB := hide hbl
    have hzr := hbl.size
    clear hm'
    by_cases hlt : k < E.length
    · obtain ⟨b, o, rfl, hb0, d0⟩ := HE.out.at_ hlt
      have c0 := (hbl.cell (p := ⟨b, o + k, none⟩) hb0).trans d0
      have hln : hasL L (frm (-1) E k) (ng E k) = true := HAL.out k hlt
      obtain ⟨p, q, hp, hq, _⟩ := hasL_of hln
      rw [hq] at hln
      obtain ⟨g0, g1, g2, G1, G2, G3⟩ := fit3_s A c L HOK.out.1 HOK.out.2.1.2 _ p q hp d hln HDD.out
      have NF := hide (show frm (-1) E (k + 1) = (q : Int) by rw [frm_succ, hq])
      have SY := hide (fun h => ovN_yes (L := L) (d := d) (E := E) (k := k) h)
      have SN := hide (fun h => ovN_no (L := L) (d := d) (E := E) (k := k) h)
      rw [hq] at c0 SY SN
      obtain ⟨r1, hr1⟩ : ∃ r, r = (ftL L (frm (-1) E k) q d).1 := ⟨_, rfl⟩
      obtain ⟨r2, hr2⟩ : ∃ r, r = (ftL L (frm (-1) E k) q d).2 := ⟨_, rfl⟩
      rw [← hr1] at SY SN G3
      rw [← hr2] at G3
      have HG1 := hide G1
      have HG2 := hide G2
      have HG3 := hide G3
      obtain ⟨x, hx⟩ : ∃ r, r = frm (-1) E k := ⟨_, rfl⟩
      rw [← hx] at HG1 ⊢
      clear G1 G2 G3 hr1 hr2 hln hp hq hx d0
      go_wp2_with fail
      (with_reducible refine (HG1.out _ (HI.out.below HB.out)).mono ?_)
      rintro e u1 ⟨rfl, hb1⟩
      have hol := hol.below hb1
      have HB1 := hide (bl_call hb1 HB.out)
      have c0 := keep_cell hb1 c0
      clear hb1
      go_wp2_with fail
      (with_reducible refine (HG2.out _).mono ?_)
      rintro e u2 ⟨rfl, hb2⟩
      have hol := hol.below hb2
      have HB2 := hide (bl_call hb2 HB1.out)
      have c0 := keep_cell hb2 c0
      clear hb2
      go_wp2_with fail
      (with_reducible refine (HG3.out _).mono ?_)
      rintro e u3 ⟨rfl, hb3⟩
      have hol := hol.below hb3
      have HB3 := hide (bl_call hb3 HB2.out)
      have c0 := keep_cell hb3 c0
      have hz3 := HB3.out.size
      clear hb3 hbl
      have HOL := hide hol
      clear hol
      rcases (by omega : r1 = 4 ∨ r1 ≠ 4) with rfl | qq
      · have SY1 := hide (SY.out rfl)
        clear SY SN
        go_wp2_with (at_builtin; go_loud (refine wpList_append_int rfl (.tmp 34) (.tmp 36) _ rfl 3 i0 Try.underlying30 hi0 jz0 jz1 jz2 w.heap.size A2 cc m (ovN L d E k) rfl HM.out (HOL.out.alloc _) u3.heap.size (k : Int) rfl (by simp) (by omega) (by simp; omega) ?_); intro A' c2 w' hol' hb' hg'; have HB4 := hide ((bl_alloc HB3.out _).trans hb'); have c0 := (hb'.cell (p := ⟨b, o + k, none⟩) hb0).trans ((bl_alloc (bl_refl u3) _).cell (p := ⟨b, o + k, none⟩) (Nat.lt_of_lt_of_le hb0 hz3) |>.trans c0); have HO4 := hide hol'; clear hb' hg' hol')
        go_roundw
        case rel => exact ⟨k + 1, A', m + 1, c2, by omega, rfl, by rw [NF.out], by go_num, by rw [SY1.out, List.length_append, ← HM.out]; rfl, by rw [SY1.out]; exact HO4.out, HB4.out⟩
        case measure => simp [intOf]; omega
      · have SN1 := hide (SN.out qq)
        have g1 : (r1 == 4) = false := beq_eq_false_iff_ne.2 qq
        clear SY SN qq
        go_wp2
        go_roundw
        case rel => exact ⟨k + 1, A2, m, cc, by omega, rfl, by rw [NF.out], by go_num, by rw [SN1.out]; exact HM.out, by rw [SN1.out]; exact HOL.out, HB3.out⟩
        case measure => simp [intOf]; omega
    · have HKE := hide (show k = E.length by omega)
      go_wp2
      go_ret
      exact ⟨A2, cc, by rw [HM.out, HKE.out]; rfl, by rw [← HKE.out]; exact hol, HB.out⟩
set_option maxHeartbeats 2000000 in
theorem OverfullLines_s (w : World) (A B : Option Addr) (n c m c' : Nat) (L : List It) (E : List Int) (d : Int) (h : TL w A n L) (hn : n ≤ 1048576) (hE : IL w B m E) (hm : m ≤ 1048576) (hwf : okW E) :
    Calls Try.prog 58 #[.slice A n c, .int .i64 d, .slice B m c'] w (RetL w (ovO L d E)) := by
  have VB := hide (validBreaks_s w A B n c m c' L E h hn hE hm hwf)
  obtain rfl : n = L.length := h.1
  obtain rfl : m = E.length := hE.1
  have HI := hide h
  have HE := hide hE
  clear h hE hwf
  cases hv : vbO L E
  · have O := hide (ovO_no (L := L) (d := d) (E := E) (by rw [hv]; rfl))
    rw [hv] at VB
    clear hv
    go_enter Try.func58, Try.ntmps58
    go_wp2_with fail
    (with_reducible refine VB.out.mono ?_)
    rintro e u1 ⟨rfl, hb⟩
    have HB1 := hide hb
    clear hb
    go_wp2
    go_ret
    exact ⟨none, 0, by rw [O.out]; rfl, by rw [O.out]; exact OL.nil _ _ _, HB1.out⟩
  rw [hv] at VB
  cases q1 : inB d 1 10000
  · have O := hide (ovO_no (L := L) (d := d) (E := E) (by rw [q1]; simp))
    clear hv
    go_enter Try.func58, Try.ntmps58
    go_wp2_with fail
    (with_reducible refine VB.out.mono ?_)
    rintro e u1 ⟨rfl, hb⟩
    have HB1 := hide hb
    clear hb
    go_wp2_with (go_at_call 61; refine (validWidth_ss _ _).mono ?_; rintro e w' ⟨rfl, rfl⟩)
    go_ret
    exact ⟨none, 0, by rw [O.out]; rfl, by rw [O.out]; exact OL.nil _ _ _, HB1.out⟩
  · have O := hide (ovO_yes (L := L) (d := d) (E := E) (by rw [hv, q1]; rfl))
    have HOV := hide (fun (u : World) (h1 : TL u A L.length L) (h2 : IL u B E.length E) => overfullLines_s u A B c c' L E d h1 h2 hm hv q1)
    clear hv
    go_enter Try.func58, Try.ntmps58
    go_wp2_with fail
    (with_reducible refine VB.out.mono ?_)
    rintro e u1 ⟨rfl, hb⟩
    have HB1 := hide hb
    have HI1 := hide (HI.out.below hb)
    have HE1 := hide (HE.out.below hb)
    clear hb
    go_wp2_with (go_at_call 61; refine (validWidth_ss _ _).mono ?_; rintro e w' ⟨rfl, rfl⟩)
    (with_reducible refine (HOV.out _ HI1.out HE1.out).mono ?_)
    rintro e u3 ⟨A3, c3, rfl, ho, hb⟩
    have HB3 := hide (bl_call hb HB1.out)
    have HO := hide (World.ownsRow.mono ho HB1.out.size)
    clear hb ho
    go_wp2
    go_ret
    exact ⟨A3, c3, by rw [O.out]; first | done | rfl, by rw [O.out]; exact HO.out, HB3.out⟩
end Go.Proofs.Ytmncdpiojhgcdaa
