/- LeastLines in the model. -/
import Derived.Test.YtmncdpiojhgcdaaBbS
import Derived.Test.YtmncdpiojhgcdaaLl
namespace Go.Proofs.Ytmncdpiojhgcdaa
open Go.ChangeShapes Go.WideShapes Go.ChangeAt Go.RowKit
set_option linter.unusedVariables false
set_option linter.unusedSimpArgs false
set_option maxRecDepth 10000
open Classical

/-- A row of numbers that holds a table of items: item j is the node j + 1, 0 stands for none. -/
structure DpL (u : World) (c0 n : Nat) (ti : TypeId) (st : Nat → Option Dn) : Prop where
  rc : u.rowIs c0 ti n (fun j => .int .i64 (csE (st (j + 1))))
section
variable {u u' : World} {c0 n m : Nat} {ti : TypeId} {st st' : Nat → Option Dn}
theorem DpL.below (h : DpL u c0 n ti st) (hb : Below m u u') (hm : u.heap.size ≤ m) : DpL u' c0 n ti st := by
  have hb := hb.mono hm
  exact ⟨h.rc.of_block (hb.block _ h.rc.lt)⟩
theorem DpL.congr (h : DpL u c0 n ti st) (e : ∀ j, st (j + 1) = st' (j + 1)) : DpL u c0 n ti st' :=
  ⟨h.rc.congr (fun i _ => by rw [e])⟩
theorem DpL.put (h : DpL u c0 n ti st) {t : Nat} (d : Dn) (v : Int) (hv : v = d.1) (e : ∀ j, st' j = if j = t + 1 then some d else st j) : DpL (u.setCell ⟨c0, t, none⟩ (.int .i64 v)) c0 n ti st' := by
  subst hv
  have e' : ∀ j, st' (j + 1) = if j = t then some d else st (j + 1) := fun j => by
    rw [e]
    by_cases hj : j = t
    · rw [if_pos hj, if_pos (by omega)]
    · rw [if_neg hj, if_neg (by omega)]
  refine ⟨(h.rc.set t _).congr (fun i _ => ?_)⟩
  rw [e']
  split <;> rfl
theorem DpL.cell (h : DpL u c0 n ti st) {j : Nat} (hj : j < n) : u.cell? ⟨c0, j, none⟩ = some (.int .i64 (csE (st (j + 1)))) := h.rc.cell hj
theorem DpL.fz (h : DpL u c0 n ti st) (j : Nat) : u.frozen? ⟨c0, j, none⟩ = false := h.rc.frozen j
end
theorem dpR_cs {g : Nat → Nat → Option Int} {nd : Nat → Int} {j : Nat} : (dpR g nd j).2.1 = csE (dpD g j) := by
  unfold dpR
  cases dpD g j <;> rfl
theorem llC_one {L : List It} {d t : Int} {i j : Nat} {n : Int} (e : gB (llC L d t) i j = some n) : n = 1 := (gB_of e).2.symm
theorem llD_one {L : List It} {d t : Int} : ∀ (m : Nat) {j : Nat} {x : Dn}, j < m → dpD (gB (llC L d t)) j = some x → x.1 = x.2.2
  | 0, _, _, h, _ => by omega
  | m + 1, j, x, h, e => by
    rcases Nat.eq_zero_or_pos j with h0 | h0
    · subst h0
      have := dpD_zero_of e
      subst this
      rfl
    · obtain ⟨hb, y, n, e1, e2, e3, e4⟩ := dpD_from h0 e
      have := llD_one m (j := x.2.1) (by omega) e1
      have := llC_one e2
      omega
theorem llD_bd {L : List It} {d t : Int} {j : Nat} {x : Dn} (h0 : 0 < j) (hj : j ≤ 61) (e : dpD (gB (llC L d t)) j = some x) : 1 ≤ x.1 ∧ x.1 ≤ 61 := by
  have h1 := llD_one (j + 1) (Nat.lt_succ_self _) e
  have h2 := dpD_pos h0 e
  have h3 := (dpB_bd (C := llC L d t) (fun a b => by show -200000000 ≤ (1 : Int) ∧ (1 : Int) ≤ 200000000; omega) hj e).2
  omega
theorem llB_bd {L : List It} {d t : Int} {q k : Nat} {y : Dn} (hk : k ≤ 61) (e : bst (dpD (gB (llC L d t))) (gB (llC L d t)) q k = some y) : 1 ≤ y.1 ∧ y.1 ≤ 63 := by
  obtain ⟨h1, x, n, h2, h3, h4, h5⟩ := bst_from e
  have a1 := llD_one (y.2.1 + 1) (Nat.lt_succ_self _) h2
  have a2 := llC_one h3
  have a3 := (dpB_bd (C := llC L d t) (fun a b => by show -200000000 ≤ (1 : Int) ∧ (1 : Int) ≤ 200000000; omega) (k := y.2.1) (by omega) h2).2
  omega
theorem llO_arg {L : List It} {d t : Int} (hok : isOk L = true) (h : (inB d 1 10000 && inB t 0 10000) = false) : llO L d t = 0 := by
  rw [llO_yes hok, dpR_cs]
  cases e : dpD (gB (llC L d t)) L.length with
  | none => rfl
  | some x =>
    obtain ⟨hb, y, n, e1, e2, e3, e4⟩ := dpD_from (by have := (okB_last hok).1; omega) e
    have := coL_has (gB_of e2).1
    rw [this.2.1, this.2.2] at h
    cases h
set_option maxHeartbeats 8000000 in
theorem LeastLines_s (w : World) (A : Option Addr) (n c : Nat) (L : List It) (d t : Int) (h : TL w A n L) (hn : n ≤ 1048576) :
    Calls Try.prog 19 #[.slice A n c, .int .i64 d, .int .i64 t] w fun e w' => e = .returned (.int .i64 (llO L d t)) ∧ Below w.heap.size w w' := by
  obtain ⟨i0, hi0, jz0, jz1, jz2⟩ := info_parts int_info
  obtain rfl : n = L.length := h.1
  have HI := hide h
  have VI := fun (u : World) (hu : TL u A L.length L) => validItems_s u A L.length c L hu (by omega)
  clear h
  cases hok : isOk L
  · have O := hide (llO_no (d := d) (t := t) hok)
    rw [hok] at VI
    replace VI := hide VI
    clear hok
    go_enter Try.func19, Try.ntmps19
    go_wp2_with (go_at_call 60; (with_reducible refine (VI.out _ HI.out).mono ?_); rintro e u1 ⟨rfl, hb⟩; have HB1 := hide (bl_call hb (bl_refl w)); clear hb)
    go_ret; rw [O.out]; exact ⟨rfl, HB1.out⟩
  cases q1 : inB d 1 10000
  · have O := hide (llO_arg (d := d) (t := t) hok (by rw [q1]; rfl))
    rw [hok] at VI
    replace VI := hide VI
    clear hok
    go_enter Try.func19, Try.ntmps19
    go_wp2_with (first | (go_at_call 60; (with_reducible refine (VI.out _ HI.out).mono ?_); rintro e u1 ⟨rfl, hb⟩; have HB1 := hide (bl_call hb (bl_refl w)); clear hb) | (go_at_call 61; refine (validWidth_ss _ _).mono ?_; rintro e w' ⟨rfl, rfl⟩))
    go_ret; rw [O.out]; exact ⟨rfl, HB1.out⟩
  cases q2 : inB t 0 10000
  · have O := hide (llO_arg (d := d) (t := t) hok (by rw [q2]; simp))
    rw [hok] at VI
    replace VI := hide VI
    clear hok
    go_enter Try.func19, Try.ntmps19
    go_wp2_with (first | (go_at_call 60; (with_reducible refine (VI.out _ HI.out).mono ?_); rintro e u1 ⟨rfl, hb⟩; have HB1 := hide (bl_call hb (bl_refl w)); clear hb) | (go_at_call 61; refine (validWidth_ss _ _).mono ?_; rintro e w' ⟨rfl, rfl⟩) | (go_at_call 62; refine (inRange_any _ _ _ _).mono ?_; rintro e w' ⟨rfl, rfl⟩))
    go_ret; rw [O.out]; exact ⟨rfl, HB1.out⟩
  have E := hide ((llO_yes (d := d) (t := t) hok).trans dpR_cs)
  obtain ⟨hall, ⟨l0, l1⟩, _⟩ := isOk_iff.1 hok
  have HALL := hide hall
  have HOK := hide hok
  have HD := hide q1
  have HT := hide q2
  rw [hok] at VI
  replace VI := hide VI
  clear hall hok
  go_enter Try.func19, Try.ntmps19
  go_upto_region 4 with (first | (go_at_call 60; (with_reducible refine (VI.out _ HI.out).mono ?_); rintro e u1 ⟨rfl, hb⟩; have HB1 := hide (bl_call hb (bl_refl w)); clear hb) | (go_at_call 61; refine (validWidth_ss _ _).mono ?_; rintro e w' ⟨rfl, rfl⟩) | (go_at_call 62; refine (inRange_any _ _ _ _).mono ?_; rintro e w' ⟨rfl, rfl⟩) | (refine wpList_make_row _ rfl _ _ _ rfl 3 i0 (.int .i64 0) Try.underlying30 hi0 jz0 jz1 rfl .i64 .i64 L.length rfl rfl (by rw [jz2]; omega) (by omega) ?_) | fail)
  clear q1 q2
  have hc0' : w.heap.size ≤ u1.heap.size := HB1.out.size
  have D0 : DpL (u1.alloc (.cells (madeCells #[Value.int .i64 0] L.length) 3)) u1.heap.size L.length 3 (tbA (gB (llC L d t)) 1 0) := by
    have a1 := World.rowIs_made u1 (.int .i64 0) L.length 3
    exact ⟨a1.congr (fun i _ => by rw [tbA_start]; rfl)⟩
  have HB0 : Below w.heap.size w (u1.alloc (.cells (madeCells #[Value.int .i64 0] L.length) 3)) := bl_alloc HB1.out _
  obtain ⟨c0, hc⟩ : ∃ c0, c0 = u1.heap.size := ⟨_, rfl⟩
  obtain ⟨u0, hu0⟩ : ∃ u, u = (u1.alloc (.cells (madeCells #[Value.int .i64 0] L.length) 3)) := ⟨_, rfl⟩
  rw [← hu0] at D0 HB0 ⊢
  rw [← hc] at D0 hc0' ⊢
  have hc0 : w.heap.size ≤ c0 := hc0'
  clear hu0 hc hc0' HB1
  have S0 := hide D0
  have B0 := hide HB0
  clear D0 HB0
  go_wp2
  go_loopw [8] (fun i u => ∃ q : Nat, q ≤ L.length ∧ i = .int .i64 q ∧ DpL u c0 L.length 3 (tbA (gB (llC L d t)) (q + 1) 0) ∧ Below w.heap.size w u) (fun i _ => L.length - (intOf i).toNat)
  case atStart => exact ⟨0, by omega, rfl, S0.out, B0.out⟩
  case round =>
    obtain ⟨q, hq, rfl, hst, hbl⟩ := hrel
    have HST := hide hst
    have HBL := hide hbl
    clear hst hbl S0 B0
    by_cases hlt : q < L.length
    · have SKIP := hide (fun (h : mayE L q = false) => tbA_skip (dpB_none (L := L) (C := llC L d t) (fun a b h => (coL_has h).1) (m := q + 1) (by omega) (by rw [Nat.add_sub_cancel]; exact h)))
      have IBX := fun (u : World) (hu : TL u A L.length L) => isBreak_s u A c L hu q hlt (by omega)
      obtain ⟨fb0, hfb⟩ : ∃ fb, fb = mayE L q := ⟨_, rfl⟩
      rw [← hfb] at IBX SKIP
      have HIBX := hide IBX
      clear IBX hfb
      cases fb0
      · have N := hide (SKIP.out rfl)
        clear SKIP
        go_wp2
        go_loopw [9] (fun i u => i = .int .i64 (-1) ∧ DpL u c0 L.length 3 (tbA (gB (llC L d t)) (q + 1) 0) ∧ Below w.heap.size w u) (fun i _ => 0)
        case atStart => exact ⟨rfl, HST.out, HBL.out⟩
        case round =>
          obtain ⟨rfl, hst, hbl⟩ := hrel
          have HS := hide hst
          have HB := hide hbl
          clear hst hbl HST HBL
          have HIB := hide (HIBX.out wr (HI.out.below HB.out))
          have hfq : (-1 : Int) < (q : Int) := by omega
          go_wp2_with fail; (with_reducible refine HIB.out.mono ?_); rintro e w' ⟨rfl, rfl⟩
          go_wp2
          go_roundw
          case rel => exact ⟨q + 1, by omega, by go_num, HS.out.congr (fun j => N.out (j + 1)), HB.out⟩
          case measure => simp [intOf] <;> omega
      · clear SKIP
        go_wp2
        go_loopw [9] (fun i u => ∃ (k : Nat) (f : Int), k ≤ q + 1 ∧ f = (k : Int) - 1 ∧ i = .int .i64 f ∧ DpL u c0 L.length 3 (tbA (gB (llC L d t)) (q + 1) k) ∧ Below w.heap.size w u) (fun i _ => ((q : Int) - intOf i).toNat)
        case atStart => exact ⟨0, -1, Nat.zero_le _, rfl, rfl, HST.out, HBL.out⟩
        case round =>
          obtain ⟨k, f, hk, hf, rfl, hst, hbl⟩ := hrel
          have hfa : f ≤ (k : Int) - 1 := by omega
          have hfb : (k : Int) - 1 ≤ f := by omega
          have HF := hide hf
          clear hf
          have HS := hide hst
          have HB := hide hbl
          clear HST HBL hst hbl
          have HIB := hide (HIBX.out wr (HI.out.below HB.out))
          by_cases hkt : k < q + 1
          · have hfq : f < (q : Int) := by omega
            have hqL : (q : Int) < (L.length : Int) := by omega
            have VL := validLine_s wr A L.length c L (HI.out.below HB.out) (by omega) f q (by omega) (by omega)
            rw [okL_q HOK.out] at VL
            have NOG := hide (fun (h : (coL L f q d t).2 = false) => gB_not (C := llC L d t) HF.out h)
            have YESG := hide (fun (h : (coL L f q d t).2 = true) => show gB (llC L d t) k (q + 1) = some 1 from gB_at (C := llC L d t) HF.out h)
            have HASN := hide (fun (h : hasL L f q = false) => show (coL L f q d t).2 = false from by
              cases e : (coL L f q d t).2
              · rfl
              · rw [(coL_has e).1] at h; cases h)
            have LC := hide (fun (hln : hasL L f q = true) (u : World) (hu : TL u A L.length L) => lineCost_s u A c L hu HALL.out l1 f k q (by omega) d t hln HD.out HT.out)
            have BS := hide (show bst (dpD (gB (llC L d t))) (gB (llC L d t)) (q + 1) (k + 1) = rx (bst (dpD (gB (llC L d t))) (gB (llC L d t)) (q + 1) k) (dpD (gB (llC L d t)) k) (gB (llC L d t) k (q + 1)) k from rfl)
            have SAME := hide (fun h => tbA_same (g := gB (llC L d t)) (t := q + 1) (k := k) h)
            have PUTA := hide (fun (x : Dn) h => tbA_put (g := gB (llC L d t)) (t := q + 1) (k := k) (d := x) h)
            have sa := tbA_at (g := gB (llC L d t)) (t := q + 1) (k := k)
            have BB := hide (fun y hy => llB_bd (L := L) (d := d) (t := t) (q := q + 1) (k := k) (y := y) (by omega) hy)
            have DBK := hide (fun y (h0 : 0 < k) hy => llD_bd (L := L) (d := d) (t := t) (j := k) (x := y) h0 (by omega) hy)
            obtain ⟨v, hv⟩ : ∃ v, v = (coL L f q d t).1 := ⟨_, rfl⟩
            obtain ⟨fl, hfl⟩ : ∃ v, v = (coL L f q d t).2 := ⟨_, rfl⟩
            obtain ⟨hl, hhl⟩ : ∃ v, v = hasL L f q := ⟨_, rfl⟩
            rw [← hv, ← hfl, ← hhl] at LC
            rw [← hfl] at NOG YESG HASN
            rw [← hhl] at VL HASN
            have HVL := hide VL
            clear hv hfl hhl VL
            have dkx : k = 0 ∨ 0 < k := Nat.eq_zero_or_pos k
            rcases dkx with hk0 | hk0
            · obtain rfl : f = -1 := by omega
              have D0 := hide (show dpD (gB (llC L d t)) k = some (0, 0, 0) by rw [hk0]; exact dpD_zero)
              have A0 := hide (show bst (dpD (gB (llC L d t))) (gB (llC L d t)) (q + 1) k = none by rw [hk0]; rfl)
              have hfn : ¬ ((0 : Int) ≤ -1) := by omega
              have hfd : decide ((0 : Int) ≤ -1) = false := decide_eq_false hfn
              cases hl
              · have N := hide (fun j => SAME.out (by rw [BS.out, NOG.out (HASN.out rfl), rx_no_v]) (j + 1))
                clear NOG YESG HASN LC BS SAME PUTA sa BB DBK D0 A0
                go_wp2_with fail; (with_reducible refine HIB.out.mono ?_); rintro e w' ⟨rfl, rfl⟩
                go_wp2_with fail; (with_reducible refine HVL.out.mono ?_); rintro e u2 ⟨rfl, hb⟩; have B2 := hide (bl_call hb HB.out); have S2 := hide (HS.out.below hb (Nat.le_refl _)); clear hb
                go_wp2
                go_roundw
                case rel => exact ⟨k + 1, 0, by omega, by omega, by first | rfl | go_num, S2.out.congr N.out, B2.out⟩
                case measure => simp [intOf] <;> omega
              · have HLC := hide (LC.out rfl)
                clear LC HASN
                cases fl
                · have N := hide (fun j => SAME.out (by rw [BS.out, NOG.out rfl, rx_no_v]) (j + 1))
                  clear NOG YESG BS SAME PUTA sa BB DBK D0 A0
                  go_wp2_with fail; (with_reducible refine HIB.out.mono ?_); rintro e w' ⟨rfl, rfl⟩
                  go_wp2_with fail; (with_reducible refine HVL.out.mono ?_); rintro e u2 ⟨rfl, hb⟩; have B2 := hide (bl_call hb HB.out); have S2 := hide (HS.out.below hb (Nat.le_refl _)); clear hb
                  go_wp2_with fail; (with_reducible refine (HLC.out _ (HI.out.below B2.out)).mono ?_); rintro e u3 ⟨rfl, hb⟩; have B3 := hide (bl_call hb B2.out); have S3 := hide (S2.out.below hb (Nat.le_refl _)); clear hb
                  go_wp2
                  go_roundw
                  case rel => exact ⟨k + 1, 0, by omega, by omega, by first | rfl | go_num, S3.out.congr N.out, B3.out⟩
                  case measure => simp [intOf] <;> omega
                · have P := hide (fun j => PUTA.out (1, 0, 1) (by rw [BS.out, A0.out, D0.out, YESG.out rfl, rx_new, hk0]; simp) j)
                  have A1 := hide (show tbA (gB (llC L d t)) (q + 1) k (q + 1) = none from sa.trans A0.out)
                  clear NOG YESG BS SAME PUTA sa BB DBK D0 A0
                  go_wp2_with fail; (with_reducible refine HIB.out.mono ?_); rintro e w' ⟨rfl, rfl⟩
                  go_wp2_with fail; (with_reducible refine HVL.out.mono ?_); rintro e u2 ⟨rfl, hb⟩; have B2 := hide (bl_call hb HB.out); have S2 := hide (HS.out.below hb (Nat.le_refl _)); clear hb
                  go_wp2_with fail; (with_reducible refine (HLC.out _ (HI.out.below B2.out)).mono ?_); rintro e u3 ⟨rfl, hb⟩; have B3 := hide (bl_call hb B2.out); have S3 := hide (S2.out.below hb (Nat.le_refl _)); clear hb
                  have ct := S3.out.cell (j := q) (by omega); have fc := S3.out.fz q
                  rw [A1.out] at ct
                  replace ct : u3.cell? ⟨c0, q, none⟩ = some (.int .i64 0) := ct
                  have S4 := hide (S3.out.put (t := q) (1, 0, 1) 1 rfl P.out)
                  have B4 := hide (bl_set B3.out (p := ⟨c0, q, none⟩) hc0 (.int .i64 (1)))
                  go_wp2
                  go_roundw
                  case rel => exact ⟨k + 1, 0, by omega, by omega, by first | rfl | go_num, S4.out, B4.out⟩
                  case measure => simp [intOf] <;> omega
            · obtain ⟨m, rfl⟩ : ∃ m, k = m + 1 := ⟨k - 1, by omega⟩
              obtain rfl : f = (m : Int) := by omega
              have hmq : m < q := by omega
              have hmL : (m : Int) < (L.length : Int) := by omega
              have hf0 : (0 : Int) ≤ (m : Int) := by omega
              have cm := HS.out.cell (j := m) (by omega)
              have sk := tbA_lt (g := gB (llC L d t)) (t := q + 1) (k := m + 1) (j := m + 1) (by omega)
              cases dk : dpD (gB (llC L d t)) (m + 1) with
              | none =>
                have N := hide (fun j => SAME.out (by rw [BS.out, dk, rx_no_d]) (j + 1))
                rw [sk, dk] at cm
                replace cm : wr.cell? ⟨c0, m, none⟩ = some (.int .i64 0) := cm
                clear NOG YESG HASN LC BS SAME PUTA sa BB DBK sk dk HVL hk0
                go_wp2_with fail; (with_reducible refine HIB.out.mono ?_); rintro e w' ⟨rfl, rfl⟩
                go_wp2
                go_roundw
                case rel => exact ⟨m + 1 + 1, (m : Int) + 1, by omega, by omega, by go_num, HS.out.congr N.out, HB.out⟩
                case measure => simp [intOf] <;> omega
              | some x =>
                have xb := DBK.out x hk0 dk
                rw [sk, dk] at cm
                obtain ⟨xv, hxv⟩ : ∃ z, z = x.1 := ⟨_, rfl⟩
                have HXV := hide hxv
                replace cm : wr.cell? ⟨c0, m, none⟩ = some (.int .i64 xv) := by rw [HXV.out]; exact cm
                rw [← hxv] at xb
                have hx0 : ¬ xv = 0 := by omega
                have hx0d : decide (xv = 0) = false := decide_eq_false hx0
                have DK := hide dk
                have SK := hide (sk.trans dk)
                clear sk dk DBK hxv
                cases hl
                · have N := hide (fun j => SAME.out (by rw [BS.out, NOG.out (HASN.out rfl), rx_no_v]) (j + 1))
                  clear NOG YESG HASN LC BS SAME PUTA sa BB hk0
                  go_wp2_with fail; (with_reducible refine HIB.out.mono ?_); rintro e w' ⟨rfl, rfl⟩
                  go_wp2_with fail; (with_reducible refine HVL.out.mono ?_); rintro e u2 ⟨rfl, hb⟩; have B2 := hide (bl_call hb HB.out); have S2 := hide (HS.out.below hb (Nat.le_refl _)); clear hb
                  go_wp2
                  go_roundw
                  case rel => exact ⟨m + 1 + 1, (m : Int) + 1, by omega, by omega, by go_num, S2.out.congr N.out, B2.out⟩
                  case measure => simp [intOf] <;> omega
                · have HLC := hide (LC.out rfl)
                  have ws : IntKind.i64.wrap (xv + 1) = xv + 1 := IntWalk.i64_in _ (by omega)
                  clear LC HASN hk0
                  cases fl
                  · have N := hide (fun j => SAME.out (by rw [BS.out, NOG.out rfl, rx_no_v]) (j + 1))
                    clear NOG YESG BS SAME PUTA sa BB
                    go_wp2_with fail; (with_reducible refine HIB.out.mono ?_); rintro e w' ⟨rfl, rfl⟩
                    go_wp2_with fail; (with_reducible refine HVL.out.mono ?_); rintro e u2 ⟨rfl, hb⟩; have B2 := hide (bl_call hb HB.out); have S2 := hide (HS.out.below hb (Nat.le_refl _)); clear hb
                    have cm := S2.out.cell (j := m) (by omega)
                    rw [SK.out] at cm
                    replace cm : u2.cell? ⟨c0, m, none⟩ = some (.int .i64 xv) := by rw [HXV.out]; exact cm
                    go_wp2_with fail; (with_reducible refine (HLC.out _ (HI.out.below B2.out)).mono ?_); rintro e u3 ⟨rfl, hb⟩; have B3 := hide (bl_call hb B2.out); have S3 := hide (S2.out.below hb (Nat.le_refl _)); clear hb
                    go_wp2
                    go_roundw
                    case rel => exact ⟨m + 1 + 1, (m : Int) + 1, by omega, by omega, by go_num, S3.out.congr N.out, B3.out⟩
                    case measure => simp [intOf] <;> omega
                  · have BX := hide (show bst (dpD (gB (llC L d t))) (gB (llC L d t)) (q + 1) (m + 1 + 1) = rx (bst (dpD (gB (llC L d t))) (gB (llC L d t)) (q + 1) (m + 1)) (some x) (some 1) (m + 1) by rw [BS.out, YESG.out rfl, DK.out])
                    clear BS YESG NOG
                    cases dt : bst (dpD (gB (llC L d t))) (gB (llC L d t)) (q + 1) (m + 1) with
                    | none =>
                      have P := hide (fun j => PUTA.out (xv + 1, m + 1, x.2.2 + 1) (by rw [BX.out, dt, rx_new, HXV.out]) j)
                      have A1 := hide (sa.trans dt)
                      clear BX SAME PUTA sa BB dt
                      go_wp2_with fail; (with_reducible refine HIB.out.mono ?_); rintro e w' ⟨rfl, rfl⟩
                      go_wp2_with fail; (with_reducible refine HVL.out.mono ?_); rintro e u2 ⟨rfl, hb⟩; have B2 := hide (bl_call hb HB.out); have S2 := hide (HS.out.below hb (Nat.le_refl _)); clear hb
                      have cm := S2.out.cell (j := m) (by omega)
                      rw [SK.out] at cm
                      replace cm : u2.cell? ⟨c0, m, none⟩ = some (.int .i64 xv) := by rw [HXV.out]; exact cm
                      go_wp2_with fail; (with_reducible refine (HLC.out _ (HI.out.below B2.out)).mono ?_); rintro e u3 ⟨rfl, hb⟩; have B3 := hide (bl_call hb B2.out); have S3 := hide (S2.out.below hb (Nat.le_refl _)); clear hb
                      have ct := S3.out.cell (j := q) (by omega); have fc := S3.out.fz q
                      rw [A1.out] at ct
                      replace ct : u3.cell? ⟨c0, q, none⟩ = some (.int .i64 0) := ct
                      have S4 := hide (S3.out.put (t := q) (xv + 1, m + 1, x.2.2 + 1) (xv + 1) rfl P.out)
                      have B4 := hide (bl_set B3.out (p := ⟨c0, q, none⟩) hc0 (.int .i64 (xv + 1)))
                      go_wp2
                      go_roundw
                      case rel => exact ⟨m + 1 + 1, (m : Int) + 1, by omega, by omega, by go_num, S4.out, B4.out⟩
                      case measure => simp [intOf] <;> omega
                    | some y =>
                      have A1 := hide (sa.trans dt)
                      obtain ⟨yv, hyv⟩ : ∃ z, z = y.1 := ⟨_, rfl⟩
                      have HYV := hide hyv
                      have yb := BB.out y dt
                      rw [← hyv] at yb
                      have hy0 : ¬ yv = 0 := by omega
                      have hy0d : decide (yv = 0) = false := decide_eq_false hy0
                      by_cases hlq : xv + 1 < yv
                      · have P := hide (fun j => PUTA.out (xv + 1, m + 1, x.2.2 + 1) (by rw [BX.out, dt, rx_less (by rw [← HXV.out, ← HYV.out]; omega), HXV.out]) j)
                        have hdd : decide (xv + 1 < yv) = true := decide_eq_true hlq
                        clear BX SAME PUTA sa BB dt hyv
                        go_wp2_with fail; (with_reducible refine HIB.out.mono ?_); rintro e w' ⟨rfl, rfl⟩
                        go_wp2_with fail; (with_reducible refine HVL.out.mono ?_); rintro e u2 ⟨rfl, hb⟩; have B2 := hide (bl_call hb HB.out); have S2 := hide (HS.out.below hb (Nat.le_refl _)); clear hb
                        have cm := S2.out.cell (j := m) (by omega)
                        rw [SK.out] at cm
                        replace cm : u2.cell? ⟨c0, m, none⟩ = some (.int .i64 xv) := by rw [HXV.out]; exact cm
                        go_wp2_with fail; (with_reducible refine (HLC.out _ (HI.out.below B2.out)).mono ?_); rintro e u3 ⟨rfl, hb⟩; have B3 := hide (bl_call hb B2.out); have S3 := hide (S2.out.below hb (Nat.le_refl _)); clear hb
                        have ct := S3.out.cell (j := q) (by omega); have fc := S3.out.fz q
                        rw [A1.out] at ct
                        replace ct : u3.cell? ⟨c0, q, none⟩ = some (.int .i64 yv) := by rw [HYV.out]; exact ct
                        have S4 := hide (S3.out.put (t := q) (xv + 1, m + 1, x.2.2 + 1) (xv + 1) rfl P.out)
                        have B4 := hide (bl_set B3.out (p := ⟨c0, q, none⟩) hc0 (.int .i64 (xv + 1)))
                        go_wp2
                        go_roundw
                        case rel => exact ⟨m + 1 + 1, (m : Int) + 1, by omega, by omega, by go_num, S4.out, B4.out⟩
                        case measure => simp [intOf] <;> omega
                      · have N := hide (fun j => SAME.out (by rw [BX.out, dt, rx_keep (by rw [← HXV.out, ← HYV.out]; omega)]) (j + 1))
                        have hdd : decide (xv + 1 < yv) = false := decide_eq_false hlq
                        clear BX SAME PUTA sa BB dt hyv
                        go_wp2_with fail; (with_reducible refine HIB.out.mono ?_); rintro e w' ⟨rfl, rfl⟩
                        go_wp2_with fail; (with_reducible refine HVL.out.mono ?_); rintro e u2 ⟨rfl, hb⟩; have B2 := hide (bl_call hb HB.out); have S2 := hide (HS.out.below hb (Nat.le_refl _)); clear hb
                        have cm := S2.out.cell (j := m) (by omega)
                        rw [SK.out] at cm
                        replace cm : u2.cell? ⟨c0, m, none⟩ = some (.int .i64 xv) := by rw [HXV.out]; exact cm
                        go_wp2_with fail; (with_reducible refine (HLC.out _ (HI.out.below B2.out)).mono ?_); rintro e u3 ⟨rfl, hb⟩; have B3 := hide (bl_call hb B2.out); have S3 := hide (S2.out.below hb (Nat.le_refl _)); clear hb
                        have ct := S3.out.cell (j := q) (by omega); have fc := S3.out.fz q
                        rw [A1.out] at ct
                        replace ct : u3.cell? ⟨c0, q, none⟩ = some (.int .i64 yv) := by rw [HYV.out]; exact ct
                        go_wp2
                        go_roundw
                        case rel => exact ⟨m + 1 + 1, (m : Int) + 1, by omega, by omega, by go_num, S3.out.congr N.out, B3.out⟩
                        case measure => simp [intOf] <;> omega
          · have hkq : k = q + 1 := by omega
            have N := hide (show DpL wr c0 L.length 3 (tbA (gB (llC L d t)) (q + 1 + 1) 0) from HS.out.congr (fun j => by rw [hkq]; exact tbA_next (by omega) (j + 1)))
            have g0 : ¬ f < (q : Int) := by omega
            clear hkq HS
            go_wp2
            go_roundw
            case rel => exact ⟨q + 1, by omega, by go_num, N.out, HB.out⟩
            case measure => simp [intOf] <;> omega
    · obtain rfl : q = L.length := by omega
      obtain ⟨r, hr⟩ : ∃ r, L.length = r + 1 := ⟨L.length - 1, by omega⟩
      have CAST : (L.length : Int) - 1 = (r : Int) := by omega
      have CASTw : IntKind.i64.wrap (r : Int) = (r : Int) := IntWalk.i64_in _ (by omega)
      have r1 : (r : Int) < (L.length : Int) := by omega
      have r2 : r < L.length := by omega
      have r0 : (0 : Int) ≤ (r : Int) := by omega
      have kN := HST.out.cell (j := r) r2
      rw [tbA_lt (by omega), ← hr] at kN
      rw [← E.out] at kN
      clear HST hr
      go_wp2
      go_ret
      exact ⟨rfl, HBL.out⟩
end Go.Proofs.Ytmncdpiojhgcdaa
