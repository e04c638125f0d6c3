/- BestBreaks in the model. -/
import Derived.Test.YtmncdpiojhgcdaaBb
import Derived.Test.YtmncdpiojhgcdaaBbT
import Derived.Test.YtmncdpiojhgcdaaApp
import Derived.BigQuiet
namespace Go.Proofs.Ytmncdpiojhgcdaa
open Go.ChangeShapes Go.WideShapes Go.ChangeAt Go.RowKit
set_option linter.unusedVariables false
set_option linter.unusedSimpArgs false
set_option maxRecDepth 10000

theorem OL.none_capB {w : World} {e : TypeId} {B : Nat} {A : Option Addr} {c : Nat} {l : List Int} (h : OL w e B A c l) : A = none → c = 0 := fun e => by
  subst e
  rcases h.2 with ⟨h1, _⟩ | ⟨g, cap, cur, h1, _⟩
  · injection h1
  · cases h1
set_option maxHeartbeats 4000000 in
theorem BestBreaks_s (w : World) (A : Option Addr) (n c : Nat) (L : List It) (d t : Int) (h : TL w A n L) (hn : n ≤ 1048576) :
    Calls Try.prog 52 #[.slice A n c, .int .i64 d, .int .i64 t] w (RetW w (bbV L d t)) := by
  obtain ⟨i0, hi0, jz0, jz1, jz2⟩ := info_parts int_info
  obtain rfl : n = L.length := h.1
  have HI := hide h
  have VI := fun (u : World) (hu : TL u A L.length L) => validItems_s u A L.length c L hu (by omega)
  have H0 : Hid (OL (w.alloc (.cells #[] 3)) 3 w.heap.size (some ⟨w.heap.size, 0, none⟩) 0 []) := hide (by
    have := OL.lit (w := w) (e := 3) (B := w.heap.size) (Nat.le_refl _) [] (by simp)
    simpa using this)
  clear h
  cases hok : isOk L
  · have O := hide (bbV_no (d := d) (t := t) hok)
    rw [hok] at VI
    replace VI := hide VI
    clear hok
    go_enter Try.func52, Try.ntmps52
    go_wp2_with (go_at_call 60; (with_reducible refine (VI.out _ (HI.out.alloc _)).mono ?_); rintro e u1 ⟨rfl, hb⟩; have HB1 := hide (bl_call hb (bl_alloc (bl_refl w) (.cells #[] 3))); have H1 := hide (H0.out.below hb); clear hb)
    refine bodyPost_ret (v := .tuple #[.slice none 0 0, .int .i64 0, .bool false]) (by simp [results, Try.results52, go_sem]) rfl ?_
    exact RetW.no O.out HB1.out
  cases q1 : inB d 1 10000
  · have O := hide (bbV_arg (L := L) (d := d) (t := t) (by rw [q1]; rfl))
    rw [hok] at VI
    replace VI := hide VI
    clear hok
    go_enter Try.func52, Try.ntmps52
    go_wp2_with (first | (go_at_call 60; (with_reducible refine (VI.out _ (HI.out.alloc _)).mono ?_); rintro e u1 ⟨rfl, hb⟩; have HB1 := hide (bl_call hb (bl_alloc (bl_refl w) (.cells #[] 3))); have H1 := hide (H0.out.below hb); clear hb) | (go_at_call 61; refine (validWidth_ss _ _).mono ?_; rintro e w' ⟨rfl, rfl⟩))
    refine bodyPost_ret (v := .tuple #[.slice none 0 0, .int .i64 0, .bool false]) (by simp [results, Try.results52, go_sem]) rfl ?_
    exact RetW.no O.out HB1.out
  cases q2 : inB t 0 10000
  · have O := hide (bbV_arg (L := L) (d := d) (t := t) (by rw [q2]; simp))
    rw [hok] at VI
    replace VI := hide VI
    clear hok
    go_enter Try.func52, Try.ntmps52
    go_wp2_with (first | (go_at_call 60; (with_reducible refine (VI.out _ (HI.out.alloc _)).mono ?_); rintro e u1 ⟨rfl, hb⟩; have HB1 := hide (bl_call hb (bl_alloc (bl_refl w) (.cells #[] 3))); have H1 := hide (H0.out.below hb); clear hb) | (go_at_call 61; refine (validWidth_ss _ _).mono ?_; rintro e w' ⟨rfl, rfl⟩) | (go_at_call 62; refine (inRange_any _ _ _ _).mono ?_; rintro e w' ⟨rfl, rfl⟩))
    refine bodyPost_ret (v := .tuple #[.slice none 0 0, .int .i64 0, .bool false]) (by simp [results, Try.results52, go_sem]) rfl ?_
    exact RetW.no O.out HB1.out
  have E := hide (bbV_yes (d := d) (t := t) hok)
  have BT := hide (fun (u : World) (hu : TL u A L.length L) => bestTable_s u A c L d t hu hok q1 q2)
  obtain ⟨hall, ⟨l0, l1⟩, _⟩ := isOk_iff.1 hok
  have CB := hide (fun a b => coL_bd hall a b d t)
  rw [hok] at VI
  replace VI := hide VI
  obtain ⟨r, hr⟩ : ∃ r, L.length = r + 1 := ⟨L.length - 1, by omega⟩
  have HR := hide hr
  have CAST : (L.length : Int) - 1 = (r : Int) := by omega
  have CASTw : IntKind.i64.wrap (r : Int) = (r : Int) := IntWalk.i64_in _ (by omega)
  have r1 : (r : Int) < (L.length : Int) := by omega
  have r2 : r < L.length := by omega
  have r0 : (0 : Int) ≤ (r : Int) := by omega
  clear hr hall hok
  go_enter Try.func52, Try.ntmps52
  go_upto_region 4 with (first | (go_at_call 60; (with_reducible refine (VI.out _ (HI.out.alloc _)).mono ?_); rintro e u1 ⟨rfl, hb⟩; have HB1 := hide (bl_call hb (bl_alloc (bl_refl w) (.cells #[] 3))); have H1 := hide (H0.out.below hb); clear hb) | (go_at_call 61; refine (validWidth_ss _ _).mono ?_; rintro e w' ⟨rfl, rfl⟩) | (go_at_call 62; refine (inRange_any _ _ _ _).mono ?_; rintro e w' ⟨rfl, rfl⟩) | fail)
  clear q1 q2
  go_wp2_with fail
  (with_reducible refine (BT.out _ (HI.out.below HB1.out)).mono ?_)
  rintro e u2 ⟨rfl, hst, hb⟩
  have HST := hide hst
  have HBL := hide (bl_call hb HB1.out)
  have HOL := hide (H1.out.below hb)
  have hc0 : w.heap.size ≤ u1.heap.size := HB1.out.size
  obtain ⟨c0, hc⟩ : ∃ c0, c0 = u1.heap.size := ⟨_, rfl⟩
  rw [← hc] at HST hc0 ⊢
  obtain ⟨_, _, kN⟩ := HST.out.cells (j := r) r2
  rw [← HR.out] at kN
  clear BT VI H0 H1 HB1 hst hb hc
  cases dN : dpD (gB (fun a b => coL L a b d t)) L.length with
  | none =>
    rw [dN] at kN
    replace kN : u2.cell? ⟨c0 + 1 + 1, r, none⟩ = some (.bool false) := kN
    have E2 := hide (E.out.trans (show dpR (gB (fun a b => coL L a b d t)) ndB L.length = ([], 0, false) by unfold dpR; rw [dN]))
    clear dN
    go_wp2
    refine bodyPost_ret (v := .tuple #[.slice none 0 0, .int .i64 0, .bool false]) (by simp [results, Try.results52, go_sem]) rfl ?_
    exact RetW.no E2.out HBL.out
  | some dn =>
    rw [dN] at kN
    replace kN : u2.cell? ⟨c0 + 1 + 1, r, none⟩ = some (.bool true) := kN
    have E2 := hide (E.out.trans (show dpR (gB (fun a b => coL L a b d t)) ndB L.length = (bkL (gB (fun a b => coL L a b d t)) ndB dn.2.2 L.length, dn.1, true) by unfold dpR; rw [dN]))
    have hP := (dpB_bd CB.out (k := L.length) (by omega) dN).2
    have DN := hide dN
    obtain ⟨F, hF⟩ : ∃ F, F = bkL (gB (fun a b => coL L a b d t)) ndB dn.2.2 L.length := ⟨_, rfl⟩
    rw [← hF] at E2
    have HF := hide hF
    clear dN hF E
    go_wp2
    clear kN
    go_loopw [9, 14] (fun v i u => ∃ (j : Nat) (x : Dn) (A' : Option Addr) (cc q : Nat) (l : List Int) (f : Int), j ≤ L.length ∧ dpD (gB (fun a b => coL L a b d t)) j = some x ∧ i = .int .i64 f ∧ f = (j : Int) - 1 ∧ v = .slice A' q cc ∧ q = l.length ∧ x.2.2 + q = dn.2.2 ∧ F = bkL (gB (fun a b => coL L a b d t)) ndB x.2.2 j ++ l ∧ OL u 3 w.heap.size A' cc l ∧ DpB u c0 L.length 3 4 (dpD (gB (fun a b => coL L a b d t))) ∧ Below w.heap.size w u) (fun _ i _ => (intOf i + 1).toNat)
    case atStart => exact ⟨L.length, dn, some ⟨w.heap.size, 0, none⟩, 0, 0, [], r, Nat.le_refl _, DN.out, rfl, CAST.symm, rfl, rfl, by omega, by rw [HF.out, List.append_nil], HOL.out, HST.out, HBL.out⟩
    case round =>
      obtain ⟨j, x, A', cc, q, l, f, hj, hd, rfl, hf, rfl, hq, hp, hl, hol, hst, hbl⟩ := hrel
      have hfa : f ≤ (j : Int) - 1 := by omega
      have hfb : (j : Int) - 1 ≤ f := by omega
      have HQ := hide hq
      have HL := hide hl
      have HD := hide hd
      have HO := hide hol
      have HS := hide hst
      have HB := hide hbl
      have HP := hide hp
      have hql : q ≤ 61 := by omega
      have hz := hbl.size
      clear hq hl hd hol hst hbl HST HOL HBL HF hf hp
      by_cases hj0 : 0 < j
      · obtain ⟨m, rfl⟩ : ∃ m, j = m + 1 := ⟨j - 1, by omega⟩
        obtain rfl : f = (m : Int) := by omega
        obtain ⟨hb1, y, n', hy, _, _, hx5⟩ := dpD_from hj0 HD.out
        have HX5 := hide hx5
        have HY := hide hy
        have hmL : (m : Int) < (L.length : Int) := by omega
        have hm0 : (0 : Int) ≤ (m : Int) := by omega
        have BF := hide (show bkL (gB (fun a b => coL L a b d t)) ndB x.2.2 (m + 1) = bkL (gB (fun a b => coL L a b d t)) ndB y.2.2 x.2.1 ++ [(m : Int)] by
          rw [HX5.out]
          show bkL _ _ _ (bfN _ (m + 1)) ++ [ndB (m + 1)] = _
          rw [bfN_of HD.out, show ndB (m + 1) = (m : Int) by show (((m + 1 : Nat) : Int)) - 1 = (m : Int); omega])
        have H1 := hide (show OL (wr.alloc (.cells #[.int .i64 m] 3)) 3 wr.heap.size (some ⟨wr.heap.size, 0, none⟩) 1 [(m : Int)] from by
          have := OL.lit (w := wr) (e := 3) (B := wr.heap.size) (Nat.le_refl _) [(m : Int)] (by simp [maxLen])
          simpa using this)
        have HIL := hide (show IL (wr.alloc (.cells #[.int .i64 m] 3)) A' q l by rw [HQ.out]; exact (HO.out.alloc _).reads)
        have HNC := hide HO.out.none_capB
        have HBa := hide (bl_alloc HB.out (.cells #[.int .i64 m] 3))
        have sB := hide (show bsE (dpD (gB (fun a b => coL L a b d t)) (m + 1)) = (x.2.1 : Int) - 1 by rw [HD.out]; rfl)
        have hbx : x.2.1 ≤ L.length := by omega
        have hza : (wr.alloc (.cells #[.int .i64 m] 3)).heap.size = wr.heap.size + 1 := by simp
        clear hy HO HD hx5
        go_wp2_with (at_builtin; go_loud (refine wpList_append_list rfl (.tmp 53) (.tmp 54) _ rfl 3 i0 Try.underlying30 hi0 jz0 jz1 jz2 wr.heap.size (some ⟨wr.heap.size, 0, none⟩) 1 1 [(m : Int)] rfl rfl H1.out A' q cc l rfl HIL.out HNC.out (by omega) (by omega) ?_); intro A2 c2 u3 ho2 hb2 hg2; have HO2 := hide (ho2.more hz); have HS2 := hide (HS.out.below ((bl_alloc (bl_refl wr) (.cells #[.int .i64 m] 3)).trans hb2) (Nat.le_refl _)); have HB2 := hide (HBa.out.trans (hb2.mono hz)); have kb : u3.cell? ⟨c0 + 1, m, none⟩ = some (.int .i64 ((x.2.1 : Int) - 1)) := (by have h7 := (HS2.out.cells (j := m) (by omega)).2.1; rw [sB.out] at h7; exact h7); clear ho2 hb2 hg2)
        go_roundw
        case rel => exact ⟨x.2.1, y, A2, c2, 1 + q, [(m : Int)] ++ l, (x.2.1 : Int) - 1, hbx, HY.out, rfl, rfl, rfl, by rw [List.length_append, ← HQ.out]; rfl, by have := HX5.out; have := HP.out; omega, by rw [HL.out, BF.out, List.append_assoc], HO2.out, HS2.out, HB2.out⟩
        case measure => simp [intOf] <;> omega
      · obtain rfl : j = 0 := by omega
        obtain rfl : f = -1 := by omega
        have := dpD_zero_of HD.out
        subst this
        have E3 := hide (E2.out.trans (by rw [HL.out]; rfl : (F, dn.1, true) = (l, dn.1, true)))
        obtain ⟨cN, _, _⟩ := HS.out.cells (j := r) r2
        rw [← HR.out, DN.out] at cN
        replace cN : wr.cell? ⟨c0, r, none⟩ = some (.int .i64 dn.1) := cN
        clear HS HL hz HD hfa hfb
        go_wp2
        go_quiet (fail)
        go_wp2
        refine bodyPost_ret (v := .tuple #[.slice A' q cc, .int .i64 dn.1, .bool true]) (by simp [results, Try.results52, go_sem]) rfl ?_
        rw [E3.out]
        exact ⟨A', cc, by rw [HQ.out], HO.out.drewN _, bl_drewN HB.out _⟩
end Go.Proofs.Ytmncdpiojhgcdaa
