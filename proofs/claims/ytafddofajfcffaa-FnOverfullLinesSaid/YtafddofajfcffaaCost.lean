/- The cost of a line, in the program. -/
import Derived.Test.YtafddofajfcffaaPen
namespace Go.Proofs.Ytafddofajfcffaa
open Go.ChangeShapes Go.WideShapes Go.ChangeAt Go.RowKit
set_option linter.unusedVariables false
set_option linter.unusedSimpArgs false

/-- The cost of a line and whether it is allowed. -/
noncomputable def coL (L : List It) (a b d t : Int) : Int × Bool :=
  if hasL L a b && inB d 1 10000 && inB t 0 10000 && decide ((ftL L a b d).1 ≠ 4) && decide ((ftL L a b d).2 ≤ t) then
    (dem (ftL L a b d).2 (tg L b.toNat).p ((decide (0 ≤ a) && (tg L a.toNat).f) && (tg L b.toNat).f), true) else (0, false)
theorem ftL_zero {L : List It} {a b d : Int} (h : (hasL L a b && inB d 1 10000) = true) : (ftL L a b d).1 = 1 ∨ (ftL L a b d).1 = 2 ∨ (ftL L a b d).1 = 3 ∨ (ftL L a b d).1 = 4 := by
  rw [ftL_yes h]
  rcases fit_cases (cl (lgW L a b)) (cl (lgT L a b)) (cl (lgS L a b)) d with ⟨_, e⟩ | ⟨_, e⟩ | ⟨_, _, e⟩ | ⟨_, _, e⟩ <;> rw [e] <;> simp
theorem coL_no {L : List It} {a b d t : Int} (h : (hasL L a b && inB d 1 10000 && inB t 0 10000 && decide ((ftL L a b d).1 ≠ 4) && decide ((ftL L a b d).2 ≤ t)) = false) : coL L a b d t = (0, false) := by unfold coL; rw [h]; rfl
theorem coL_yes {L : List It} {a b d t : Int} (h : (hasL L a b && inB d 1 10000 && inB t 0 10000 && decide ((ftL L a b d).1 ≠ 4) && decide ((ftL L a b d).2 ≤ t)) = true) : coL L a b d t = (dem (ftL L a b d).2 (tg L b.toNat).p ((decide (0 ≤ a) && (tg L a.toNat).f) && (tg L b.toNat).f), true) := by simp only [coL, h, if_true]
theorem pn_ok {x : It} (h : itOk x = true) : pnP x = x.p ∧ pnF x = x.f := by
  unfold pnP pnF
  rcases iok_iff.1 h with h | h | h
  · rw [if_neg (by omega), if_neg (by omega)]; exact ⟨by omega, h.2.2.2.2.2.symm⟩
  · rw [if_neg (by omega), if_neg (by omega)]; exact ⟨by omega, h.2.2.2.2.2.symm⟩
  · rw [if_pos (by omega), if_pos (by omega)]; exact ⟨rfl, rfl⟩
theorem bad_in {n h : Int} (n0 : 0 ≤ n) (h0 : 0 ≤ h) : 0 ≤ bad n h := by
  unfold bad
  split
  · omega
  · split
    · omega
    · have a : 0 ≤ 100 * n * n * n := Int.mul_nonneg (Int.mul_nonneg (Int.mul_nonneg (by omega) n0) n0) n0
      have b : 0 ≤ h * h * h := Int.mul_nonneg (Int.mul_nonneg h0 h0) h0
      have c := Int.ediv_nonneg a b
      omega
theorem ftL_bad {L : List It} (hall : ∀ i, i < L.length → itOk (tg L i) = true) {a b d : Int} (h : (hasL L a b && inB d 1 10000) = true) : 0 ≤ (ftL L a b d).2 := by
  rw [ftL_yes h]
  rw [Bool.and_eq_true] at h
  obtain ⟨p, q, hp, rfl, hpq, hq, _⟩ := hasL_of h.1
  obtain ⟨e1, e2, e3⟩ := lg_eqs (L := L) (q := q) hp
  obtain ⟨b1, b2, b3⟩ := lg_bd (p := p) hall hq (min (fBx L p) q) (Nat.min_le_right _ _)
  rw [← e1] at b1
  rw [← e2] at b2
  rw [← e3] at b3
  rcases fit_cases (cl (lgW L a q)) (cl (lgT L a q)) (cl (lgS L a q)) d with ⟨_, e⟩ | ⟨g, e⟩ | ⟨g, _, e⟩ | ⟨_, _, e⟩ <;> rw [e]
  · exact Int.le_refl _
  · exact bad_in (by omega) (cl_in b2).1
  · exact bad_in (by omega) (cl_in b3).1
  · simp
theorem mayE_p {L : List It} (hall : ∀ i, i < L.length → itOk (tg L i) = true) {q : Nat} (hq : q < L.length) (h : mayE L q = true) : -1000 ≤ (tg L q).p ∧ (tg L q).p ≤ 999 := by
  unfold mayE at h
  rcases iok_iff.1 (hall q hq) with x | x | x
  · omega
  · omega
  · rw [if_neg (by omega), if_pos (by omega)] at h
    have := of_decide_eq_true h
    omega
set_option maxRecDepth 8000 in
set_option maxHeartbeats 8000000 in
theorem cost_i (w : World) {B gp g c1 gs gf gb : Nat} (L : List It) (hps : PS w B gp g c1 gs gf gb L) (hall : ∀ i, i < L.length → itOk (tg L i) = true) (h1 : 1 ≤ L.length ∧ L.length ≤ 60) (a b d t : Int) (wa : -9223372036854775808 ≤ a ∧ a ≤ 9223372036854775807) (wb : -9223372036854775808 ≤ b ∧ b ≤ 9223372036854775807) :
    Calls Try.prog 102 #[.agg #[.slice (some ⟨g, 0, none⟩) L.length c1, .slice (some ⟨gs, 0, none⟩) (L.length + 1) (L.length + 1), .slice (some ⟨gf, 0, none⟩) (L.length + 1) (L.length + 1), .slice (some ⟨gb, 0, none⟩) (L.length + 1) (L.length + 1)], .int .i64 a, .int .i64 b, .int .i64 d, .int .i64 t] w fun e w' => e = .returned (.tuple #[.int .i64 (coL L a b d t).1, .bool (coL L a b d t).2]) ∧ Below w.heap.size w w' := by
  have HPS := hide (ps_made hps.row hps.pr)
  have HF := hide (fit_i _ L HPS.out hall h1 a b d wa wb)
  have HB0 := hide (bl_alloc (bl_refl w) (.cells #[.slice (some ⟨g, 0, none⟩) L.length c1, .slice (some ⟨gs, 0, none⟩) (L.length + 1) (L.length + 1), .slice (some ⟨gf, 0, none⟩) (L.length + 1) (L.length + 1), .slice (some ⟨gb, 0, none⟩) (L.length + 1) (L.length + 1)] 92))
  have HALL := hide hall
  have HROW := hide hps.row
  have k0 := HPS.out.k0; have k1 := HPS.out.k1; have k2 := HPS.out.k2; have k3 := HPS.out.k3
  clear hps wa wb hall
  cases q0 : hasL L a b && inB d 1 10000
  · have E := hide (coL_no (L := L) (a := a) (b := b) (d := d) (t := t) (by rw [q0]; rfl))
    rw [ftL_no q0] at HF
    clear q0
    go_enter Try.func102, Try.ntmps102; go_wp2_with fail; (with_reducible refine HF.out.mono ?_); rintro e u2 ⟨rfl, hb⟩; have HB2 := hide (bl_call hb HB0.out)
    clear hb
    go_wp2
    go_ret2
    exact ⟨by rw [E.out]; first | done | rfl, HB2.out⟩
  have Z := ftL_zero q0
  have ZB := ftL_bad HALL.out q0
  have hline : hasL L a b = true := by rw [Bool.and_eq_true] at q0; exact q0.1
  rcases (by omega : (ftL L a b d).1 = 4 ∨ ((ftL L a b d).1 ≠ 0 ∧ (ftL L a b d).1 ≠ 4)) with h4 | ⟨h0, h4⟩
  · have E := hide (coL_no (L := L) (a := a) (b := b) (d := d) (t := t) (by rw [h4]; simp))
    rw [h4] at HF
    clear q0 Z ZB h4
    go_enter Try.func102, Try.ntmps102; go_wp2_with fail; (with_reducible refine HF.out.mono ?_); rintro e u2 ⟨rfl, hb⟩; have HB2 := hide (bl_call hb HB0.out)
    clear hb
    go_wp2
    go_ret2
    exact ⟨by rw [E.out]; first | done | rfl, HB2.out⟩
  have CO := fun h => coL_no (L := L) (a := a) (b := b) (d := d) (t := t) h
  have CY := fun h => coL_yes (L := L) (a := a) (b := b) (d := d) (t := t) h
  rw [q0] at CO CY
  obtain ⟨F1, hF1⟩ : ∃ F, F = (ftL L a b d).1 := ⟨_, rfl⟩
  obtain ⟨F2, hF2⟩ : ∃ F, F = (ftL L a b d).2 := ⟨_, rfl⟩
  rw [← hF1, ← hF2] at HF CO CY
  rw [← hF1] at h0 h4
  rw [← hF2] at ZB
  have g0 : (F1 == 0) = false := beq_eq_false_iff_ne.2 h0
  have g4 : (F1 == 4) = false := beq_eq_false_iff_ne.2 h4
  cases q2 : inB t 0 10000
  · have E := hide (CO (by rw [q2]; simp))
    clear q0 Z ZB h4 h0 CO CY hF1 hF2
    go_enter Try.func102, Try.ntmps102; go_wp2_with fail; (with_reducible refine HF.out.mono ?_); rintro e u2 ⟨rfl, hb⟩; have HB2 := hide (bl_call hb HB0.out)
    clear hb
    go_wp2_with (go_at_call 119; refine (within_any _ _ _ _).mono ?_; rintro e w' ⟨rfl, rfl⟩)
    go_ret2
    exact ⟨by rw [E.out]; first | done | rfl, HB2.out⟩
  rcases (by omega : t < F2 ∨ F2 ≤ t) with h5 | h5
  · have E := hide (CO (by rw [decide_eq_false (show ¬ F2 ≤ t by omega)]; simp))
    clear q0 Z ZB h4 h0 CO CY hF1 hF2
    go_enter Try.func102, Try.ntmps102; go_wp2_with fail; (with_reducible refine HF.out.mono ?_); rintro e u2 ⟨rfl, hb⟩; have HB2 := hide (bl_call hb HB0.out)
    clear hb
    go_wp2_with (go_at_call 119; refine (within_any _ _ _ _).mono ?_; rintro e w' ⟨rfl, rfl⟩)
    go_ret2
    exact ⟨by rw [E.out]; first | done | rfl, HB2.out⟩
  · have E := CY (by rw [q2, decide_eq_true h4, decide_eq_true h5]; rfl)
    obtain ⟨p, q, hp, rfl, hpq, hq, _, hme, _⟩ := hasL_of hline
    have hp9 := mayE_p HALL.out hq hme
    have eP := (pn_ok (HALL.out q hq)).1
    have eF := (pn_ok (HALL.out q hq)).2
    have PA := fun (u : World) (hb : Below w.heap.size w u) (x1 x2 x3 : Value) => penaltyAt_i u x1 x2 x3 L HALL.out h1.2 (own_below HROW.out hb) a (by omega)
    have PB := fun (u : World) (hb : Below w.heap.size w u) (x1 x2 x3 : Value) => penaltyAt_i u x1 x2 x3 L HALL.out h1.2 (own_below HROW.out hb) (q : Int) (by omega)
    rw [show pa L (q : Int) = (pnW (tg L q), pnP (tg L q), pnF (tg L q)) by unfold pa; rw [if_neg (by omega)]; rfl] at PB
    have xf : (pa L a).2.2 = (decide (0 ≤ a) && (tg L a.toNat).f) := by
      unfold pa
      rcases (by omega : a < 0 ∨ 0 ≤ a) with g | g
      · rw [if_pos g, decide_eq_false (by omega)]; rfl
      · rw [if_neg (by omega), decide_eq_true g]
        show pnF (tg L a.toNat) = _
        rw [(pn_ok (HALL.out a.toNat (by omega))).2]; rfl
    rw [← xf, show (q : Int).toNat = q from rfl, ← eP, ← eF] at E
    rw [← eP] at hp9
    obtain ⟨x0, hx0⟩ : ∃ x, x = (pa L a).1 := ⟨_, rfl⟩
    obtain ⟨x1, hx1⟩ : ∃ x, x = (pa L a).2.1 := ⟨_, rfl⟩
    obtain ⟨x2, hx2⟩ : ∃ x, x = (pa L a).2.2 := ⟨_, rfl⟩
    obtain ⟨y0, hy0⟩ : ∃ x, x = pnW (tg L q) := ⟨_, rfl⟩
    obtain ⟨y1, hy1⟩ : ∃ x, x = pnP (tg L q) := ⟨_, rfl⟩
    obtain ⟨y2, hy2⟩ : ∃ x, x = pnF (tg L q) := ⟨_, rfl⟩
    rw [← hx0, ← hx1, ← hx2] at PA
    rw [← hy0, ← hy1, ← hy2] at PB
    rw [← hy1] at hp9
    rw [← hx2, ← hy1, ← hy2] at E
    have ht := inB_iff.1 q2
    have HD := hide (fun (f : Bool) (u : World) => Demerits_i F2 y1 f u)
    have HV := hide (fun (f : Bool) => demv_yes (b := F2) (p := y1) f ⟨ZB, by omega⟩ hp9)
    have HPA := hide PA
    have HPB := hide PB
    have HE := hide E
    have hg : decide (t < F2) = false := decide_eq_false (by omega)
    have hnF : F2 ≤ t := h5
    clear q0 Z ZB h4 h0 CO CY hF1 hF2 PA PB hx0 hx1 hx2 hy0 hy1 hy2 E eP eF xf hp9 ht hp hline hme
    go_enter Try.func102, Try.ntmps102; go_wp2_with fail; (with_reducible refine HF.out.mono ?_); rintro e u2 ⟨rfl, hb⟩; have HB2 := hide (bl_call hb HB0.out)
    have k0 := keep_cell hb k0
    have k1 := keep_cell hb k1
    have k2 := keep_cell hb k2
    have k3 := keep_cell hb k3
    have HBW : Below w.heap.size w u2 := HB2.out
    clear hb
    go_upto_region 4 with (go_at_call 119; refine (within_any _ _ _ _).mono ?_; rintro e w' ⟨rfl, rfl⟩)
    go_cut [14, 15] from 14 to 45 (fun x y wx => ∃ r1 r2, x = .pointer (some ⟨r1, 0, none⟩) ∧ y = .pointer (some ⟨r2, 0, none⟩) ∧ wx.cell? ⟨r1, 2, none⟩ = some (.bool x2) ∧ wx.cell? ⟨r2, 1, none⟩ = some (.int .i64 y1) ∧ wx.cell? ⟨r2, 2, none⟩ = some (.bool y2) ∧ Below u2.heap.size u2 wx)
    case first =>
      have hB := bl_drew (bl_refl u2)
      refine wp_region_held_drew (S := fun u : World => Below u2.heap.size u2 u) (by kernel_rfl) (hB) (fun hHeld => ?_)
      refine tkY (i := 0) (oi := ?_) (v := ?_) ?_ (by kernel_rfl) ?_ ?_ ?_ (by assumption) ?_; rotate_left 2; (next => simp only [tka, tkb, tkc]; rfl); (next => exact fun _ _ _ h => h); (next => rfl); (next => intro w_ hSw; (try dsimp only at hSw); have k0 := keep_cell hSw k0; have k1 := keep_cell hSw k1; have k2 := keep_cell hSw k2; have k3 := keep_cell hSw k3; go_simp; (try (with_reducible rfl))); (try simp only [Act.put, tkd, tke, tkf])
      (first | (refine tkY (i := 1) (oi := ?_) (v := ?_) ?_ (by kernel_rfl) ?_ ?_ ?_ (by assumption) ?_; rotate_left 2; (next => simp only [tka, tkb, tkc]; rfl); (next => exact fun _ _ _ h => h); (next => rfl); (next => intro w hSw; (try dsimp only at hSw); go_simp; (try (with_reducible rfl)))) | (refine tkN (i := 1) (oi := ?_) ?_ (by kernel_rfl) ?_ ?_ (by assumption) ?_; rotate_left 1; (next => simp only [tka, tkb, tkc]; rfl); (next => exact fun _ _ _ h => h); (next => rfl))); (try simp only [Act.put, tkd, tke, tkf])
      refine tkY (i := 3) (oi := ?_) (v := ?_) ?_ (by kernel_rfl) ?_ ?_ ?_ (by assumption) ?_; rotate_left 2; (next => simp only [tka, tkb, tkc]; rfl); (next => exact fun _ _ _ h => h); (next => rfl); (next => intro w_ hSw; (try dsimp only at hSw); have k0 := keep_cell hSw k0; have k1 := keep_cell hSw k1; have k2 := keep_cell hSw k2; have k3 := keep_cell hSw k3; go_simp; (try (with_reducible rfl))); (try simp only [Act.put, tkd, tke, tkf])
      (first | (refine tkY (i := 4) (oi := ?_) (v := ?_) ?_ (by kernel_rfl) ?_ ?_ ?_ (by assumption) ?_; rotate_left 2; (next => simp only [tka, tkb, tkc]; rfl); (next => exact fun _ _ _ h => h); (next => rfl); (next => intro w hSw; (try dsimp only at hSw); go_simp; (try (with_reducible rfl)))) | (refine tkN (i := 4) (oi := ?_) ?_ (by kernel_rfl) ?_ ?_ (by assumption) ?_; rotate_left 1; (next => simp only [tka, tkb, tkc]; rfl); (next => exact fun _ _ _ h => h); (next => rfl))); (try simp only [Act.put, tkd, tke, tkf])
      refine wpAnyH_ready (rs := [2, 6, 7]) (by kernel_rfl) (by simp) ?_
      refine AllReadyH.cons (o := ?_) ?_ (fun K hK => ?_) ?_; rotate_left 1; (next => simp only [List.getElem?_toArray, List.getElem?_cons_succ, List.getElem?_cons_zero]; rfl)
      · go_simp
        (go_at_call 146; (with_reducible refine (HPA.out _ (bl_call (by repeat' (first | with_reducible assumption | with_reducible refine bl_alloc ?_ _ | with_reducible refine bl_drew ?_)) HBW) _ _ _).mono ?_); rintro e v1 ⟨rfl, hb⟩)
        have hB : Below u2.heap.size u2 v1 := bl_call hb hB
        clear hb
        (try go_wp2_with fail); refine hK.out _ _ (hB) (fun hHeld => ?_); clear hK K; (try simp only [Act.put, List.setIfInBounds_toArray, List.set_cons_zero, List.set_cons_succ])
        refine wpAnyH_ready (rs := [5, 6, 7]) (by kernel_rfl) (by simp) ?_
        refine AllReadyH.cons (o := ?_) ?_ (fun K hK => ?_) ?_; rotate_left 1; (next => simp only [List.getElem?_toArray, List.getElem?_cons_succ, List.getElem?_cons_zero]; rfl)
        · go_simp
          (go_at_call 146; (with_reducible refine (HPB.out _ (bl_call (by repeat' (first | with_reducible assumption | with_reducible refine bl_alloc ?_ _ | with_reducible refine bl_drew ?_)) HBW) _ _ _).mono ?_); rintro e v2 ⟨rfl, hb⟩)
          have hB : Below u2.heap.size u2 v2 := bl_call hb hB
          clear hb
          (try go_wp2_with fail); refine hK.out _ _ (hB) (fun hHeld => ?_); clear hK K; (try simp only [Act.put, List.setIfInBounds_toArray, List.set_cons_zero, List.set_cons_succ])
          refine wpAnyH_ready (rs := [6, 7]) (by kernel_rfl) (by simp) ?_
          refine AllReadyH.cons (o := ?_) ?_ (fun K hK => ?_) ?_; rotate_left 1; (next => simp only [List.getElem?_toArray, List.getElem?_cons_succ, List.getElem?_cons_zero]; rfl)
          · go_simp
            have ge6 : u2.heap.size ≤ v2.heap.size := hB.size
            have hb := bl_alloc (bl_refl v2) (.cells #[.int .i64 0, .int .i64 0, .bool false] 164)
            have z6_0 : (v2.alloc (.cells #[.int .i64 0, .int .i64 0, .bool false] 164)).cell? ⟨v2.heap.size, 0, none⟩ = some (.int .i64 0) := by simp [go_sem]
            have z6_1 : (v2.alloc (.cells #[.int .i64 0, .int .i64 0, .bool false] 164)).cell? ⟨v2.heap.size, 1, none⟩ = some (.int .i64 0) := by simp [go_sem]
            have z6_2 : (v2.alloc (.cells #[.int .i64 0, .int .i64 0, .bool false] 164)).cell? ⟨v2.heap.size, 2, none⟩ = some (.bool false) := by simp [go_sem]
            have g6_0 : (v2.alloc (.cells #[.int .i64 0, .int .i64 0, .bool false] 164)).frozen? ⟨v2.heap.size, 0, none⟩ = false := by simp [go_sem]
            have g6_1 : (v2.alloc (.cells #[.int .i64 0, .int .i64 0, .bool false] 164)).frozen? ⟨v2.heap.size, 1, none⟩ = false := by simp [go_sem]
            have g6_2 : (v2.alloc (.cells #[.int .i64 0, .int .i64 0, .bool false] 164)).frozen? ⟨v2.heap.size, 2, none⟩ = false := by simp [go_sem]
            have l6 : v2.heap.size < (v2.alloc (.cells #[.int .i64 0, .int .i64 0, .bool false] 164)).heap.size := by simp
            obtain ⟨v3, hv_⟩ : ∃ v_, v_ = (v2.alloc (.cells #[.int .i64 0, .int .i64 0, .bool false] 164)) := ⟨_, rfl⟩
            rw [← hv_] at hb z6_0 z6_1 z6_2 g6_0 g6_1 g6_2 l6 ⊢
            clear hv_
            have hB : Below u2.heap.size u2 v3 := bl_call hb hB
            clear hb
            (try go_wp2_with fail); refine hK.out _ _ (hB) (fun hHeld => ?_); clear hK K; (try simp only [Act.put, List.setIfInBounds_toArray, List.set_cons_zero, List.set_cons_succ])
            refine wpAnyH_ready (rs := [7]) (by kernel_rfl) (by simp) ?_; refine AllReadyH.cons (o := ?_) ?_ (fun K hK => ?_) AllReadyH.nil; rotate_left 1; (next => simp only [List.getElem?_toArray, List.getElem?_cons_succ, List.getElem?_cons_zero]; rfl); go_simp
            have ge7 : u2.heap.size ≤ v3.heap.size := hB.size
            have ne6_7 : v2.heap.size ≠ v3.heap.size := Nat.ne_of_lt l6
            have hb := bl_alloc (bl_refl v3) (.cells #[.int .i64 0, .int .i64 0, .bool false] 164)
            have z6_0 := keep_cell hb z6_0
            have z6_1 := keep_cell hb z6_1
            have z6_2 := keep_cell hb z6_2
            have g6_0 := (hb.frozen (p := ⟨v2.heap.size, 0, none⟩) l6).trans g6_0
            have g6_1 := (hb.frozen (p := ⟨v2.heap.size, 1, none⟩) l6).trans g6_1
            have g6_2 := (hb.frozen (p := ⟨v2.heap.size, 2, none⟩) l6).trans g6_2
            have l6 := Nat.lt_of_lt_of_le l6 hb.size
            have z7_0 : (v3.alloc (.cells #[.int .i64 0, .int .i64 0, .bool false] 164)).cell? ⟨v3.heap.size, 0, none⟩ = some (.int .i64 0) := by simp [go_sem]
            have z7_1 : (v3.alloc (.cells #[.int .i64 0, .int .i64 0, .bool false] 164)).cell? ⟨v3.heap.size, 1, none⟩ = some (.int .i64 0) := by simp [go_sem]
            have z7_2 : (v3.alloc (.cells #[.int .i64 0, .int .i64 0, .bool false] 164)).cell? ⟨v3.heap.size, 2, none⟩ = some (.bool false) := by simp [go_sem]
            have g7_0 : (v3.alloc (.cells #[.int .i64 0, .int .i64 0, .bool false] 164)).frozen? ⟨v3.heap.size, 0, none⟩ = false := by simp [go_sem]
            have g7_1 : (v3.alloc (.cells #[.int .i64 0, .int .i64 0, .bool false] 164)).frozen? ⟨v3.heap.size, 1, none⟩ = false := by simp [go_sem]
            have g7_2 : (v3.alloc (.cells #[.int .i64 0, .int .i64 0, .bool false] 164)).frozen? ⟨v3.heap.size, 2, none⟩ = false := by simp [go_sem]
            have l7 : v3.heap.size < (v3.alloc (.cells #[.int .i64 0, .int .i64 0, .bool false] 164)).heap.size := by simp
            obtain ⟨v4, hv_⟩ : ∃ v_, v_ = (v3.alloc (.cells #[.int .i64 0, .int .i64 0, .bool false] 164)) := ⟨_, rfl⟩
            rw [← hv_] at hb z6_0 g6_0 z6_1 g6_1 z6_2 g6_2 l6 z7_0 z7_1 z7_2 g7_0 g7_1 g7_2 l7 ⊢
            clear hv_
            have hB : Below u2.heap.size u2 v4 := bl_call hb hB
            clear hb
            (try go_wp2_with fail); refine hK.out _ _ (hB) (fun hHeld => ?_); clear hK K; (try simp only [Act.put, List.setIfInBounds_toArray, List.set_cons_zero, List.set_cons_succ])
            refine wpAnyH_ready (rs := [8]) (by kernel_rfl) (by simp) ?_; refine AllReadyH.cons (o := ?_) ?_ (fun K hK => ?_) AllReadyH.nil; rotate_left 1; (next => simp only [List.getElem?_toArray, List.getElem?_cons_succ, List.getElem?_cons_zero]; rfl); go_simp
            have hB : Below u2.heap.size u2 (((v4.setCell ⟨v2.heap.size, 0, none⟩ (.int .i64 x0)).setCell ⟨v2.heap.size, 1, none⟩ (.int .i64 x1)).setCell ⟨v2.heap.size, 2, none⟩ (.bool x2)) := bl_set (bl_set (bl_set hB ge6 _) ge6 _) ge6 _
            have y_0 : (((v4.setCell ⟨v2.heap.size, 0, none⟩ (.int .i64 x0)).setCell ⟨v2.heap.size, 1, none⟩ (.int .i64 x1)).setCell ⟨v2.heap.size, 2, none⟩ (.bool x2)).cell? ⟨v2.heap.size, 0, none⟩ = some (.int .i64 x0) := by simp [go_sem, z6_0, z6_1, z6_2]
            have y_1 : (((v4.setCell ⟨v2.heap.size, 0, none⟩ (.int .i64 x0)).setCell ⟨v2.heap.size, 1, none⟩ (.int .i64 x1)).setCell ⟨v2.heap.size, 2, none⟩ (.bool x2)).cell? ⟨v2.heap.size, 1, none⟩ = some (.int .i64 x1) := by simp [go_sem, z6_0, z6_1, z6_2]
            have y_2 : (((v4.setCell ⟨v2.heap.size, 0, none⟩ (.int .i64 x0)).setCell ⟨v2.heap.size, 1, none⟩ (.int .i64 x1)).setCell ⟨v2.heap.size, 2, none⟩ (.bool x2)).cell? ⟨v2.heap.size, 2, none⟩ = some (.bool x2) := by simp [go_sem, z6_0, z6_1, z6_2]
            have z6_0 := y_0
            have z6_1 := y_1
            have z6_2 := y_2
            clear y_0 y_1 y_2
            have g6_0 : (((v4.setCell ⟨v2.heap.size, 0, none⟩ (.int .i64 x0)).setCell ⟨v2.heap.size, 1, none⟩ (.int .i64 x1)).setCell ⟨v2.heap.size, 2, none⟩ (.bool x2)).frozen? ⟨v2.heap.size, 0, none⟩ = false := by simp only [World.frozen?_setCell]; exact g6_0
            have g6_1 : (((v4.setCell ⟨v2.heap.size, 0, none⟩ (.int .i64 x0)).setCell ⟨v2.heap.size, 1, none⟩ (.int .i64 x1)).setCell ⟨v2.heap.size, 2, none⟩ (.bool x2)).frozen? ⟨v2.heap.size, 1, none⟩ = false := by simp only [World.frozen?_setCell]; exact g6_1
            have g6_2 : (((v4.setCell ⟨v2.heap.size, 0, none⟩ (.int .i64 x0)).setCell ⟨v2.heap.size, 1, none⟩ (.int .i64 x1)).setCell ⟨v2.heap.size, 2, none⟩ (.bool x2)).frozen? ⟨v2.heap.size, 2, none⟩ = false := by simp only [World.frozen?_setCell]; exact g6_2
            have l6 : v2.heap.size < (((v4.setCell ⟨v2.heap.size, 0, none⟩ (.int .i64 x0)).setCell ⟨v2.heap.size, 1, none⟩ (.int .i64 x1)).setCell ⟨v2.heap.size, 2, none⟩ (.bool x2)).heap.size := by simpa using l6
            have z7_0 := keep_far3 (x := .int .i64 x0) (y := .int .i64 x1) (z := .bool x2) z7_0 ne6_7.symm
            have g7_0 : (((v4.setCell ⟨v2.heap.size, 0, none⟩ (.int .i64 x0)).setCell ⟨v2.heap.size, 1, none⟩ (.int .i64 x1)).setCell ⟨v2.heap.size, 2, none⟩ (.bool x2)).frozen? ⟨v3.heap.size, 0, none⟩ = false := by simp only [World.frozen?_setCell]; exact g7_0
            have z7_1 := keep_far3 (x := .int .i64 x0) (y := .int .i64 x1) (z := .bool x2) z7_1 ne6_7.symm
            have g7_1 : (((v4.setCell ⟨v2.heap.size, 0, none⟩ (.int .i64 x0)).setCell ⟨v2.heap.size, 1, none⟩ (.int .i64 x1)).setCell ⟨v2.heap.size, 2, none⟩ (.bool x2)).frozen? ⟨v3.heap.size, 1, none⟩ = false := by simp only [World.frozen?_setCell]; exact g7_1
            have z7_2 := keep_far3 (x := .int .i64 x0) (y := .int .i64 x1) (z := .bool x2) z7_2 ne6_7.symm
            have g7_2 : (((v4.setCell ⟨v2.heap.size, 0, none⟩ (.int .i64 x0)).setCell ⟨v2.heap.size, 1, none⟩ (.int .i64 x1)).setCell ⟨v2.heap.size, 2, none⟩ (.bool x2)).frozen? ⟨v3.heap.size, 2, none⟩ = false := by simp only [World.frozen?_setCell]; exact g7_2
            have l7 : v3.heap.size < (((v4.setCell ⟨v2.heap.size, 0, none⟩ (.int .i64 x0)).setCell ⟨v2.heap.size, 1, none⟩ (.int .i64 x1)).setCell ⟨v2.heap.size, 2, none⟩ (.bool x2)).heap.size := by simpa using l7
            obtain ⟨v5, hv_⟩ : ∃ v_, v_ = (((v4.setCell ⟨v2.heap.size, 0, none⟩ (.int .i64 x0)).setCell ⟨v2.heap.size, 1, none⟩ (.int .i64 x1)).setCell ⟨v2.heap.size, 2, none⟩ (.bool x2)) := ⟨_, rfl⟩
            rw [← hv_] at hB z6_0 z6_1 z6_2 g6_0 g6_1 g6_2 l6 z7_0 g7_0 z7_1 g7_1 z7_2 g7_2 l7 ⊢
            clear hv_
            (try go_wp2_with fail); refine hK.out _ _ (hB) (fun hHeld => ?_); clear hK K; (try simp only [Act.put, List.setIfInBounds_toArray, List.set_cons_zero, List.set_cons_succ])
            refine wpAnyH_ready (rs := [9]) (by kernel_rfl) (by simp) ?_; refine AllReadyH.cons (o := ?_) ?_ (fun K hK => ?_) AllReadyH.nil; rotate_left 1; (next => simp only [List.getElem?_toArray, List.getElem?_cons_succ, List.getElem?_cons_zero]; rfl); go_simp
            have hB : Below u2.heap.size u2 (((v5.setCell ⟨v3.heap.size, 0, none⟩ (.int .i64 y0)).setCell ⟨v3.heap.size, 1, none⟩ (.int .i64 y1)).setCell ⟨v3.heap.size, 2, none⟩ (.bool y2)) := bl_set (bl_set (bl_set hB ge7 _) ge7 _) ge7 _
            have y_0 : (((v5.setCell ⟨v3.heap.size, 0, none⟩ (.int .i64 y0)).setCell ⟨v3.heap.size, 1, none⟩ (.int .i64 y1)).setCell ⟨v3.heap.size, 2, none⟩ (.bool y2)).cell? ⟨v3.heap.size, 0, none⟩ = some (.int .i64 y0) := by simp [go_sem, z7_0, z7_1, z7_2]
            have y_1 : (((v5.setCell ⟨v3.heap.size, 0, none⟩ (.int .i64 y0)).setCell ⟨v3.heap.size, 1, none⟩ (.int .i64 y1)).setCell ⟨v3.heap.size, 2, none⟩ (.bool y2)).cell? ⟨v3.heap.size, 1, none⟩ = some (.int .i64 y1) := by simp [go_sem, z7_0, z7_1, z7_2]
            have y_2 : (((v5.setCell ⟨v3.heap.size, 0, none⟩ (.int .i64 y0)).setCell ⟨v3.heap.size, 1, none⟩ (.int .i64 y1)).setCell ⟨v3.heap.size, 2, none⟩ (.bool y2)).cell? ⟨v3.heap.size, 2, none⟩ = some (.bool y2) := by simp [go_sem, z7_0, z7_1, z7_2]
            have z7_0 := y_0
            have z7_1 := y_1
            have z7_2 := y_2
            clear y_0 y_1 y_2
            have z6_0 := keep_far3 (x := .int .i64 y0) (y := .int .i64 y1) (z := .bool y2) z6_0 ne6_7
            have g6_0 : (((v5.setCell ⟨v3.heap.size, 0, none⟩ (.int .i64 y0)).setCell ⟨v3.heap.size, 1, none⟩ (.int .i64 y1)).setCell ⟨v3.heap.size, 2, none⟩ (.bool y2)).frozen? ⟨v2.heap.size, 0, none⟩ = false := by simp only [World.frozen?_setCell]; exact g6_0
            have z6_1 := keep_far3 (x := .int .i64 y0) (y := .int .i64 y1) (z := .bool y2) z6_1 ne6_7
            have g6_1 : (((v5.setCell ⟨v3.heap.size, 0, none⟩ (.int .i64 y0)).setCell ⟨v3.heap.size, 1, none⟩ (.int .i64 y1)).setCell ⟨v3.heap.size, 2, none⟩ (.bool y2)).frozen? ⟨v2.heap.size, 1, none⟩ = false := by simp only [World.frozen?_setCell]; exact g6_1
            have z6_2 := keep_far3 (x := .int .i64 y0) (y := .int .i64 y1) (z := .bool y2) z6_2 ne6_7
            have g6_2 : (((v5.setCell ⟨v3.heap.size, 0, none⟩ (.int .i64 y0)).setCell ⟨v3.heap.size, 1, none⟩ (.int .i64 y1)).setCell ⟨v3.heap.size, 2, none⟩ (.bool y2)).frozen? ⟨v2.heap.size, 2, none⟩ = false := by simp only [World.frozen?_setCell]; exact g6_2
            have l6 : v2.heap.size < (((v5.setCell ⟨v3.heap.size, 0, none⟩ (.int .i64 y0)).setCell ⟨v3.heap.size, 1, none⟩ (.int .i64 y1)).setCell ⟨v3.heap.size, 2, none⟩ (.bool y2)).heap.size := by simpa using l6
            have g7_0 : (((v5.setCell ⟨v3.heap.size, 0, none⟩ (.int .i64 y0)).setCell ⟨v3.heap.size, 1, none⟩ (.int .i64 y1)).setCell ⟨v3.heap.size, 2, none⟩ (.bool y2)).frozen? ⟨v3.heap.size, 0, none⟩ = false := by simp only [World.frozen?_setCell]; exact g7_0
            have g7_1 : (((v5.setCell ⟨v3.heap.size, 0, none⟩ (.int .i64 y0)).setCell ⟨v3.heap.size, 1, none⟩ (.int .i64 y1)).setCell ⟨v3.heap.size, 2, none⟩ (.bool y2)).frozen? ⟨v3.heap.size, 1, none⟩ = false := by simp only [World.frozen?_setCell]; exact g7_1
            have g7_2 : (((v5.setCell ⟨v3.heap.size, 0, none⟩ (.int .i64 y0)).setCell ⟨v3.heap.size, 1, none⟩ (.int .i64 y1)).setCell ⟨v3.heap.size, 2, none⟩ (.bool y2)).frozen? ⟨v3.heap.size, 2, none⟩ = false := by simp only [World.frozen?_setCell]; exact g7_2
            have l7 : v3.heap.size < (((v5.setCell ⟨v3.heap.size, 0, none⟩ (.int .i64 y0)).setCell ⟨v3.heap.size, 1, none⟩ (.int .i64 y1)).setCell ⟨v3.heap.size, 2, none⟩ (.bool y2)).heap.size := by simpa using l7
            obtain ⟨v6, hv_⟩ : ∃ v_, v_ = (((v5.setCell ⟨v3.heap.size, 0, none⟩ (.int .i64 y0)).setCell ⟨v3.heap.size, 1, none⟩ (.int .i64 y1)).setCell ⟨v3.heap.size, 2, none⟩ (.bool y2)) := ⟨_, rfl⟩
            rw [← hv_] at hB z7_0 z7_1 z7_2 z6_0 g6_0 z6_1 g6_1 z6_2 g6_2 l6 g7_0 g7_1 g7_2 l7 ⊢
            clear hv_
            (try go_wp2_with fail); refine hK.out _ _ (hB) (fun hHeld => ?_); clear hK K; (try simp only [Act.put, List.setIfInBounds_toArray, List.set_cons_zero, List.set_cons_succ])
            refine wpAnyH_done (by kernel_rfl) ?_ _
            (go_wp2_with fail; go_meet)
            exact ⟨_, _, rfl, rfl, z6_2, z7_1, z7_2, hB⟩
          refine AllReadyH.cons (o := ?_) ?_ (fun K hK => ?_) AllReadyH.nil; rotate_left 1; (next => simp only [List.getElem?_toArray, List.getElem?_cons_succ, List.getElem?_cons_zero]; rfl)
          go_simp
          have ge7 : u2.heap.size ≤ v2.heap.size := hB.size
          have hb := bl_alloc (bl_refl v2) (.cells #[.int .i64 0, .int .i64 0, .bool false] 164)
          have z7_0 : (v2.alloc (.cells #[.int .i64 0, .int .i64 0, .bool false] 164)).cell? ⟨v2.heap.size, 0, none⟩ = some (.int .i64 0) := by simp [go_sem]
          have z7_1 : (v2.alloc (.cells #[.int .i64 0, .int .i64 0, .bool false] 164)).cell? ⟨v2.heap.size, 1, none⟩ = some (.int .i64 0) := by simp [go_sem]
          have z7_2 : (v2.alloc (.cells #[.int .i64 0, .int .i64 0, .bool false] 164)).cell? ⟨v2.heap.size, 2, none⟩ = some (.bool false) := by simp [go_sem]
          have g7_0 : (v2.alloc (.cells #[.int .i64 0, .int .i64 0, .bool false] 164)).frozen? ⟨v2.heap.size, 0, none⟩ = false := by simp [go_sem]
          have g7_1 : (v2.alloc (.cells #[.int .i64 0, .int .i64 0, .bool false] 164)).frozen? ⟨v2.heap.size, 1, none⟩ = false := by simp [go_sem]
          have g7_2 : (v2.alloc (.cells #[.int .i64 0, .int .i64 0, .bool false] 164)).frozen? ⟨v2.heap.size, 2, none⟩ = false := by simp [go_sem]
          have l7 : v2.heap.size < (v2.alloc (.cells #[.int .i64 0, .int .i64 0, .bool false] 164)).heap.size := by simp
          obtain ⟨v7, hv_⟩ : ∃ v_, v_ = (v2.alloc (.cells #[.int .i64 0, .int .i64 0, .bool false] 164)) := ⟨_, rfl⟩
          rw [← hv_] at hb z7_0 z7_1 z7_2 g7_0 g7_1 g7_2 l7 ⊢
          clear hv_
          have hB : Below u2.heap.size u2 v7 := bl_call hb hB
          clear hb
          (try go_wp2_with fail); refine hK.out _ _ (hB) (fun hHeld => ?_); clear hK K; (try simp only [Act.put, List.setIfInBounds_toArray, List.set_cons_zero, List.set_cons_succ])
          refine wpAnyH_ready (rs := [6]) (by kernel_rfl) (by simp) ?_; refine AllReadyH.cons (o := ?_) ?_ (fun K hK => ?_) AllReadyH.nil; rotate_left 1; (next => simp only [List.getElem?_toArray, List.getElem?_cons_succ, List.getElem?_cons_zero]; rfl); go_simp
          have ge6 : u2.heap.size ≤ v7.heap.size := hB.size
          have ne7_6 : v2.heap.size ≠ v7.heap.size := Nat.ne_of_lt l7
          have hb := bl_alloc (bl_refl v7) (.cells #[.int .i64 0, .int .i64 0, .bool false] 164)
          have z7_0 := keep_cell hb z7_0
          have z7_1 := keep_cell hb z7_1
          have z7_2 := keep_cell hb z7_2
          have g7_0 := (hb.frozen (p := ⟨v2.heap.size, 0, none⟩) l7).trans g7_0
          have g7_1 := (hb.frozen (p := ⟨v2.heap.size, 1, none⟩) l7).trans g7_1
          have g7_2 := (hb.frozen (p := ⟨v2.heap.size, 2, none⟩) l7).trans g7_2
          have l7 := Nat.lt_of_lt_of_le l7 hb.size
          have z6_0 : (v7.alloc (.cells #[.int .i64 0, .int .i64 0, .bool false] 164)).cell? ⟨v7.heap.size, 0, none⟩ = some (.int .i64 0) := by simp [go_sem]
          have z6_1 : (v7.alloc (.cells #[.int .i64 0, .int .i64 0, .bool false] 164)).cell? ⟨v7.heap.size, 1, none⟩ = some (.int .i64 0) := by simp [go_sem]
          have z6_2 : (v7.alloc (.cells #[.int .i64 0, .int .i64 0, .bool false] 164)).cell? ⟨v7.heap.size, 2, none⟩ = some (.bool false) := by simp [go_sem]
          have g6_0 : (v7.alloc (.cells #[.int .i64 0, .int .i64 0, .bool false] 164)).frozen? ⟨v7.heap.size, 0, none⟩ = false := by simp [go_sem]
          have g6_1 : (v7.alloc (.cells #[.int .i64 0, .int .i64 0, .bool false] 164)).frozen? ⟨v7.heap.size, 1, none⟩ = false := by simp [go_sem]
          have g6_2 : (v7.alloc (.cells #[.int .i64 0, .int .i64 0, .bool false] 164)).frozen? ⟨v7.heap.size, 2, none⟩ = false := by simp [go_sem]
          have l6 : v7.heap.size < (v7.alloc (.cells #[.int .i64 0, .int .i64 0, .bool false] 164)).heap.size := by simp
          obtain ⟨v8, hv_⟩ : ∃ v_, v_ = (v7.alloc (.cells #[.int .i64 0, .int .i64 0, .bool false] 164)) := ⟨_, rfl⟩
          rw [← hv_] at hb z7_0 g7_0 z7_1 g7_1 z7_2 g7_2 l7 z6_0 z6_1 z6_2 g6_0 g6_1 g6_2 l6 ⊢
          clear hv_
          have hB : Below u2.heap.size u2 v8 := bl_call hb hB
          clear hb
          (try go_wp2_with fail); refine hK.out _ _ (hB) (fun hHeld => ?_); clear hK K; (try simp only [Act.put, List.setIfInBounds_toArray, List.set_cons_zero, List.set_cons_succ])
          refine wpAnyH_ready (rs := [8]) (by kernel_rfl) (by simp) ?_; refine AllReadyH.cons (o := ?_) ?_ (fun K hK => ?_) AllReadyH.nil; rotate_left 1; (next => simp only [List.getElem?_toArray, List.getElem?_cons_succ, List.getElem?_cons_zero]; rfl); go_simp
          have hB : Below u2.heap.size u2 (((v8.setCell ⟨v7.heap.size, 0, none⟩ (.int .i64 x0)).setCell ⟨v7.heap.size, 1, none⟩ (.int .i64 x1)).setCell ⟨v7.heap.size, 2, none⟩ (.bool x2)) := bl_set (bl_set (bl_set hB ge6 _) ge6 _) ge6 _
          have y_0 : (((v8.setCell ⟨v7.heap.size, 0, none⟩ (.int .i64 x0)).setCell ⟨v7.heap.size, 1, none⟩ (.int .i64 x1)).setCell ⟨v7.heap.size, 2, none⟩ (.bool x2)).cell? ⟨v7.heap.size, 0, none⟩ = some (.int .i64 x0) := by simp [go_sem, z6_0, z6_1, z6_2]
          have y_1 : (((v8.setCell ⟨v7.heap.size, 0, none⟩ (.int .i64 x0)).setCell ⟨v7.heap.size, 1, none⟩ (.int .i64 x1)).setCell ⟨v7.heap.size, 2, none⟩ (.bool x2)).cell? ⟨v7.heap.size, 1, none⟩ = some (.int .i64 x1) := by simp [go_sem, z6_0, z6_1, z6_2]
          have y_2 : (((v8.setCell ⟨v7.heap.size, 0, none⟩ (.int .i64 x0)).setCell ⟨v7.heap.size, 1, none⟩ (.int .i64 x1)).setCell ⟨v7.heap.size, 2, none⟩ (.bool x2)).cell? ⟨v7.heap.size, 2, none⟩ = some (.bool x2) := by simp [go_sem, z6_0, z6_1, z6_2]
          have z6_0 := y_0
          have z6_1 := y_1
          have z6_2 := y_2
          clear y_0 y_1 y_2
          have z7_0 := keep_far3 (x := .int .i64 x0) (y := .int .i64 x1) (z := .bool x2) z7_0 ne7_6
          have g7_0 : (((v8.setCell ⟨v7.heap.size, 0, none⟩ (.int .i64 x0)).setCell ⟨v7.heap.size, 1, none⟩ (.int .i64 x1)).setCell ⟨v7.heap.size, 2, none⟩ (.bool x2)).frozen? ⟨v2.heap.size, 0, none⟩ = false := by simp only [World.frozen?_setCell]; exact g7_0
          have z7_1 := keep_far3 (x := .int .i64 x0) (y := .int .i64 x1) (z := .bool x2) z7_1 ne7_6
          have g7_1 : (((v8.setCell ⟨v7.heap.size, 0, none⟩ (.int .i64 x0)).setCell ⟨v7.heap.size, 1, none⟩ (.int .i64 x1)).setCell ⟨v7.heap.size, 2, none⟩ (.bool x2)).frozen? ⟨v2.heap.size, 1, none⟩ = false := by simp only [World.frozen?_setCell]; exact g7_1
          have z7_2 := keep_far3 (x := .int .i64 x0) (y := .int .i64 x1) (z := .bool x2) z7_2 ne7_6
          have g7_2 : (((v8.setCell ⟨v7.heap.size, 0, none⟩ (.int .i64 x0)).setCell ⟨v7.heap.size, 1, none⟩ (.int .i64 x1)).setCell ⟨v7.heap.size, 2, none⟩ (.bool x2)).frozen? ⟨v2.heap.size, 2, none⟩ = false := by simp only [World.frozen?_setCell]; exact g7_2
          have l7 : v2.heap.size < (((v8.setCell ⟨v7.heap.size, 0, none⟩ (.int .i64 x0)).setCell ⟨v7.heap.size, 1, none⟩ (.int .i64 x1)).setCell ⟨v7.heap.size, 2, none⟩ (.bool x2)).heap.size := by simpa using l7
          have g6_0 : (((v8.setCell ⟨v7.heap.size, 0, none⟩ (.int .i64 x0)).setCell ⟨v7.heap.size, 1, none⟩ (.int .i64 x1)).setCell ⟨v7.heap.size, 2, none⟩ (.bool x2)).frozen? ⟨v7.heap.size, 0, none⟩ = false := by simp only [World.frozen?_setCell]; exact g6_0
          have g6_1 : (((v8.setCell ⟨v7.heap.size, 0, none⟩ (.int .i64 x0)).setCell ⟨v7.heap.size, 1, none⟩ (.int .i64 x1)).setCell ⟨v7.heap.size, 2, none⟩ (.bool x2)).frozen? ⟨v7.heap.size, 1, none⟩ = false := by simp only [World.frozen?_setCell]; exact g6_1
          have g6_2 : (((v8.setCell ⟨v7.heap.size, 0, none⟩ (.int .i64 x0)).setCell ⟨v7.heap.size, 1, none⟩ (.int .i64 x1)).setCell ⟨v7.heap.size, 2, none⟩ (.bool x2)).frozen? ⟨v7.heap.size, 2, none⟩ = false := by simp only [World.frozen?_setCell]; exact g6_2
          have l6 : v7.heap.size < (((v8.setCell ⟨v7.heap.size, 0, none⟩ (.int .i64 x0)).setCell ⟨v7.heap.size, 1, none⟩ (.int .i64 x1)).setCell ⟨v7.heap.size, 2, none⟩ (.bool x2)).heap.size := by simpa using l6
          obtain ⟨v9, hv_⟩ : ∃ v_, v_ = (((v8.setCell ⟨v7.heap.size, 0, none⟩ (.int .i64 x0)).setCell ⟨v7.heap.size, 1, none⟩ (.int .i64 x1)).setCell ⟨v7.heap.size, 2, none⟩ (.bool x2)) := ⟨_, rfl⟩
          rw [← hv_] at hB z6_0 z6_1 z6_2 z7_0 g7_0 z7_1 g7_1 z7_2 g7_2 l7 g6_0 g6_1 g6_2 l6 ⊢
          clear hv_
          (try go_wp2_with fail); refine hK.out _ _ (hB) (fun hHeld => ?_); clear hK K; (try simp only [Act.put, List.setIfInBounds_toArray, List.set_cons_zero, List.set_cons_succ])
          refine wpAnyH_ready (rs := [9]) (by kernel_rfl) (by simp) ?_; refine AllReadyH.cons (o := ?_) ?_ (fun K hK => ?_) AllReadyH.nil; rotate_left 1; (next => simp only [List.getElem?_toArray, List.getElem?_cons_succ, List.getElem?_cons_zero]; rfl); go_simp
          have hB : Below u2.heap.size u2 (((v9.setCell ⟨v2.heap.size, 0, none⟩ (.int .i64 y0)).setCell ⟨v2.heap.size, 1, none⟩ (.int .i64 y1)).setCell ⟨v2.heap.size, 2, none⟩ (.bool y2)) := bl_set (bl_set (bl_set hB ge7 _) ge7 _) ge7 _
          have y_0 : (((v9.setCell ⟨v2.heap.size, 0, none⟩ (.int .i64 y0)).setCell ⟨v2.heap.size, 1, none⟩ (.int .i64 y1)).setCell ⟨v2.heap.size, 2, none⟩ (.bool y2)).cell? ⟨v2.heap.size, 0, none⟩ = some (.int .i64 y0) := by simp [go_sem, z7_0, z7_1, z7_2]
          have y_1 : (((v9.setCell ⟨v2.heap.size, 0, none⟩ (.int .i64 y0)).setCell ⟨v2.heap.size, 1, none⟩ (.int .i64 y1)).setCell ⟨v2.heap.size, 2, none⟩ (.bool y2)).cell? ⟨v2.heap.size, 1, none⟩ = some (.int .i64 y1) := by simp [go_sem, z7_0, z7_1, z7_2]
          have y_2 : (((v9.setCell ⟨v2.heap.size, 0, none⟩ (.int .i64 y0)).setCell ⟨v2.heap.size, 1, none⟩ (.int .i64 y1)).setCell ⟨v2.heap.size, 2, none⟩ (.bool y2)).cell? ⟨v2.heap.size, 2, none⟩ = some (.bool y2) := by simp [go_sem, z7_0, z7_1, z7_2]
          have z7_0 := y_0
          have z7_1 := y_1
          have z7_2 := y_2
          clear y_0 y_1 y_2
          have g7_0 : (((v9.setCell ⟨v2.heap.size, 0, none⟩ (.int .i64 y0)).setCell ⟨v2.heap.size, 1, none⟩ (.int .i64 y1)).setCell ⟨v2.heap.size, 2, none⟩ (.bool y2)).frozen? ⟨v2.heap.size, 0, none⟩ = false := by simp only [World.frozen?_setCell]; exact g7_0
          have g7_1 : (((v9.setCell ⟨v2.heap.size, 0, none⟩ (.int .i64 y0)).setCell ⟨v2.heap.size, 1, none⟩ (.int .i64 y1)).setCell ⟨v2.heap.size, 2, none⟩ (.bool y2)).frozen? ⟨v2.heap.size, 1, none⟩ = false := by simp only [World.frozen?_setCell]; exact g7_1
          have g7_2 : (((v9.setCell ⟨v2.heap.size, 0, none⟩ (.int .i64 y0)).setCell ⟨v2.heap.size, 1, none⟩ (.int .i64 y1)).setCell ⟨v2.heap.size, 2, none⟩ (.bool y2)).frozen? ⟨v2.heap.size, 2, none⟩ = false := by simp only [World.frozen?_setCell]; exact g7_2
          have l7 : v2.heap.size < (((v9.setCell ⟨v2.heap.size, 0, none⟩ (.int .i64 y0)).setCell ⟨v2.heap.size, 1, none⟩ (.int .i64 y1)).setCell ⟨v2.heap.size, 2, none⟩ (.bool y2)).heap.size := by simpa using l7
          have z6_0 := keep_far3 (x := .int .i64 y0) (y := .int .i64 y1) (z := .bool y2) z6_0 ne7_6.symm
          have g6_0 : (((v9.setCell ⟨v2.heap.size, 0, none⟩ (.int .i64 y0)).setCell ⟨v2.heap.size, 1, none⟩ (.int .i64 y1)).setCell ⟨v2.heap.size, 2, none⟩ (.bool y2)).frozen? ⟨v7.heap.size, 0, none⟩ = false := by simp only [World.frozen?_setCell]; exact g6_0
          have z6_1 := keep_far3 (x := .int .i64 y0) (y := .int .i64 y1) (z := .bool y2) z6_1 ne7_6.symm
          have g6_1 : (((v9.setCell ⟨v2.heap.size, 0, none⟩ (.int .i64 y0)).setCell ⟨v2.heap.size, 1, none⟩ (.int .i64 y1)).setCell ⟨v2.heap.size, 2, none⟩ (.bool y2)).frozen? ⟨v7.heap.size, 1, none⟩ = false := by simp only [World.frozen?_setCell]; exact g6_1
          have z6_2 := keep_far3 (x := .int .i64 y0) (y := .int .i64 y1) (z := .bool y2) z6_2 ne7_6.symm
          have g6_2 : (((v9.setCell ⟨v2.heap.size, 0, none⟩ (.int .i64 y0)).setCell ⟨v2.heap.size, 1, none⟩ (.int .i64 y1)).setCell ⟨v2.heap.size, 2, none⟩ (.bool y2)).frozen? ⟨v7.heap.size, 2, none⟩ = false := by simp only [World.frozen?_setCell]; exact g6_2
          have l6 : v7.heap.size < (((v9.setCell ⟨v2.heap.size, 0, none⟩ (.int .i64 y0)).setCell ⟨v2.heap.size, 1, none⟩ (.int .i64 y1)).setCell ⟨v2.heap.size, 2, none⟩ (.bool y2)).heap.size := by simpa using l6
          obtain ⟨v10, hv_⟩ : ∃ v_, v_ = (((v9.setCell ⟨v2.heap.size, 0, none⟩ (.int .i64 y0)).setCell ⟨v2.heap.size, 1, none⟩ (.int .i64 y1)).setCell ⟨v2.heap.size, 2, none⟩ (.bool y2)) := ⟨_, rfl⟩
          rw [← hv_] at hB z7_0 z7_1 z7_2 g7_0 g7_1 g7_2 l7 z6_0 g6_0 z6_1 g6_1 z6_2 g6_2 l6 ⊢
          clear hv_
          (try go_wp2_with fail); refine hK.out _ _ (hB) (fun hHeld => ?_); clear hK K; (try simp only [Act.put, List.setIfInBounds_toArray, List.set_cons_zero, List.set_cons_succ])
          refine wpAnyH_done (by kernel_rfl) ?_ _
          (go_wp2_with fail; go_meet)
          exact ⟨_, _, rfl, rfl, z6_2, z7_1, z7_2, hB⟩
        refine AllReadyH.cons (o := ?_) ?_ (fun K hK => ?_) ?_; rotate_left 1; (next => simp only [List.getElem?_toArray, List.getElem?_cons_succ, List.getElem?_cons_zero]; rfl)
        · go_simp
          have ge6 : u2.heap.size ≤ v1.heap.size := hB.size
          have hb := bl_alloc (bl_refl v1) (.cells #[.int .i64 0, .int .i64 0, .bool false] 164)
          have z6_0 : (v1.alloc (.cells #[.int .i64 0, .int .i64 0, .bool false] 164)).cell? ⟨v1.heap.size, 0, none⟩ = some (.int .i64 0) := by simp [go_sem]
          have z6_1 : (v1.alloc (.cells #[.int .i64 0, .int .i64 0, .bool false] 164)).cell? ⟨v1.heap.size, 1, none⟩ = some (.int .i64 0) := by simp [go_sem]
          have z6_2 : (v1.alloc (.cells #[.int .i64 0, .int .i64 0, .bool false] 164)).cell? ⟨v1.heap.size, 2, none⟩ = some (.bool false) := by simp [go_sem]
          have g6_0 : (v1.alloc (.cells #[.int .i64 0, .int .i64 0, .bool false] 164)).frozen? ⟨v1.heap.size, 0, none⟩ = false := by simp [go_sem]
          have g6_1 : (v1.alloc (.cells #[.int .i64 0, .int .i64 0, .bool false] 164)).frozen? ⟨v1.heap.size, 1, none⟩ = false := by simp [go_sem]
          have g6_2 : (v1.alloc (.cells #[.int .i64 0, .int .i64 0, .bool false] 164)).frozen? ⟨v1.heap.size, 2, none⟩ = false := by simp [go_sem]
          have l6 : v1.heap.size < (v1.alloc (.cells #[.int .i64 0, .int .i64 0, .bool false] 164)).heap.size := by simp
          obtain ⟨v11, hv_⟩ : ∃ v_, v_ = (v1.alloc (.cells #[.int .i64 0, .int .i64 0, .bool false] 164)) := ⟨_, rfl⟩
          rw [← hv_] at hb z6_0 z6_1 z6_2 g6_0 g6_1 g6_2 l6 ⊢
          clear hv_
          have hB : Below u2.heap.size u2 v11 := bl_call hb hB
          clear hb
          (try go_wp2_with fail); refine hK.out _ _ (hB) (fun hHeld => ?_); clear hK K; (try simp only [Act.put, List.setIfInBounds_toArray, List.set_cons_zero, List.set_cons_succ])
          refine wpAnyH_ready (rs := [5, 7]) (by kernel_rfl) (by simp) ?_
          refine AllReadyH.cons (o := ?_) ?_ (fun K hK => ?_) ?_; rotate_left 1; (next => simp only [List.getElem?_toArray, List.getElem?_cons_succ, List.getElem?_cons_zero]; rfl)
          · go_simp
            (go_at_call 146; (with_reducible refine (HPB.out _ (bl_call (by repeat' (first | with_reducible assumption | with_reducible refine bl_alloc ?_ _ | with_reducible refine bl_drew ?_)) HBW) _ _ _).mono ?_); rintro e v12 ⟨rfl, hb⟩)
            have hB : Below u2.heap.size u2 v12 := bl_call hb hB
            have z6_0 := keep_cell hb z6_0
            have z6_1 := keep_cell hb z6_1
            have z6_2 := keep_cell hb z6_2
            have g6_0 := (hb.frozen (p := ⟨v1.heap.size, 0, none⟩) l6).trans g6_0
            have g6_1 := (hb.frozen (p := ⟨v1.heap.size, 1, none⟩) l6).trans g6_1
            have g6_2 := (hb.frozen (p := ⟨v1.heap.size, 2, none⟩) l6).trans g6_2
            have l6 := Nat.lt_of_lt_of_le l6 hb.size
            clear hb
            (try go_wp2_with fail); refine hK.out _ _ (hB) (fun hHeld => ?_); clear hK K; (try simp only [Act.put, List.setIfInBounds_toArray, List.set_cons_zero, List.set_cons_succ])
            refine wpAnyH_ready (rs := [7]) (by kernel_rfl) (by simp) ?_; refine AllReadyH.cons (o := ?_) ?_ (fun K hK => ?_) AllReadyH.nil; rotate_left 1; (next => simp only [List.getElem?_toArray, List.getElem?_cons_succ, List.getElem?_cons_zero]; rfl); go_simp
            have ge7 : u2.heap.size ≤ v12.heap.size := hB.size
            have ne6_7 : v1.heap.size ≠ v12.heap.size := Nat.ne_of_lt l6
            have hb := bl_alloc (bl_refl v12) (.cells #[.int .i64 0, .int .i64 0, .bool false] 164)
            have z6_0 := keep_cell hb z6_0
            have z6_1 := keep_cell hb z6_1
            have z6_2 := keep_cell hb z6_2
            have g6_0 := (hb.frozen (p := ⟨v1.heap.size, 0, none⟩) l6).trans g6_0
            have g6_1 := (hb.frozen (p := ⟨v1.heap.size, 1, none⟩) l6).trans g6_1
            have g6_2 := (hb.frozen (p := ⟨v1.heap.size, 2, none⟩) l6).trans g6_2
            have l6 := Nat.lt_of_lt_of_le l6 hb.size
            have z7_0 : (v12.alloc (.cells #[.int .i64 0, .int .i64 0, .bool false] 164)).cell? ⟨v12.heap.size, 0, none⟩ = some (.int .i64 0) := by simp [go_sem]
            have z7_1 : (v12.alloc (.cells #[.int .i64 0, .int .i64 0, .bool false] 164)).cell? ⟨v12.heap.size, 1, none⟩ = some (.int .i64 0) := by simp [go_sem]
            have z7_2 : (v12.alloc (.cells #[.int .i64 0, .int .i64 0, .bool false] 164)).cell? ⟨v12.heap.size, 2, none⟩ = some (.bool false) := by simp [go_sem]
            have g7_0 : (v12.alloc (.cells #[.int .i64 0, .int .i64 0, .bool false] 164)).frozen? ⟨v12.heap.size, 0, none⟩ = false := by simp [go_sem]
            have g7_1 : (v12.alloc (.cells #[.int .i64 0, .int .i64 0, .bool false] 164)).frozen? ⟨v12.heap.size, 1, none⟩ = false := by simp [go_sem]
            have g7_2 : (v12.alloc (.cells #[.int .i64 0, .int .i64 0, .bool false] 164)).frozen? ⟨v12.heap.size, 2, none⟩ = false := by simp [go_sem]
            have l7 : v12.heap.size < (v12.alloc (.cells #[.int .i64 0, .int .i64 0, .bool false] 164)).heap.size := by simp
            obtain ⟨v13, hv_⟩ : ∃ v_, v_ = (v12.alloc (.cells #[.int .i64 0, .int .i64 0, .bool false] 164)) := ⟨_, rfl⟩
            rw [← hv_] at hb z6_0 g6_0 z6_1 g6_1 z6_2 g6_2 l6 z7_0 z7_1 z7_2 g7_0 g7_1 g7_2 l7 ⊢
            clear hv_
            have hB : Below u2.heap.size u2 v13 := bl_call hb hB
            clear hb
            (try go_wp2_with fail); refine hK.out _ _ (hB) (fun hHeld => ?_); clear hK K; (try simp only [Act.put, List.setIfInBounds_toArray, List.set_cons_zero, List.set_cons_succ])
            refine wpAnyH_ready (rs := [8]) (by kernel_rfl) (by simp) ?_; refine AllReadyH.cons (o := ?_) ?_ (fun K hK => ?_) AllReadyH.nil; rotate_left 1; (next => simp only [List.getElem?_toArray, List.getElem?_cons_succ, List.getElem?_cons_zero]; rfl); go_simp
            have hB : Below u2.heap.size u2 (((v13.setCell ⟨v1.heap.size, 0, none⟩ (.int .i64 x0)).setCell ⟨v1.heap.size, 1, none⟩ (.int .i64 x1)).setCell ⟨v1.heap.size, 2, none⟩ (.bool x2)) := bl_set (bl_set (bl_set hB ge6 _) ge6 _) ge6 _
            have y_0 : (((v13.setCell ⟨v1.heap.size, 0, none⟩ (.int .i64 x0)).setCell ⟨v1.heap.size, 1, none⟩ (.int .i64 x1)).setCell ⟨v1.heap.size, 2, none⟩ (.bool x2)).cell? ⟨v1.heap.size, 0, none⟩ = some (.int .i64 x0) := by simp [go_sem, z6_0, z6_1, z6_2]
            have y_1 : (((v13.setCell ⟨v1.heap.size, 0, none⟩ (.int .i64 x0)).setCell ⟨v1.heap.size, 1, none⟩ (.int .i64 x1)).setCell ⟨v1.heap.size, 2, none⟩ (.bool x2)).cell? ⟨v1.heap.size, 1, none⟩ = some (.int .i64 x1) := by simp [go_sem, z6_0, z6_1, z6_2]
            have y_2 : (((v13.setCell ⟨v1.heap.size, 0, none⟩ (.int .i64 x0)).setCell ⟨v1.heap.size, 1, none⟩ (.int .i64 x1)).setCell ⟨v1.heap.size, 2, none⟩ (.bool x2)).cell? ⟨v1.heap.size, 2, none⟩ = some (.bool x2) := by simp [go_sem, z6_0, z6_1, z6_2]
            have z6_0 := y_0
            have z6_1 := y_1
            have z6_2 := y_2
            clear y_0 y_1 y_2
            have g6_0 : (((v13.setCell ⟨v1.heap.size, 0, none⟩ (.int .i64 x0)).setCell ⟨v1.heap.size, 1, none⟩ (.int .i64 x1)).setCell ⟨v1.heap.size, 2, none⟩ (.bool x2)).frozen? ⟨v1.heap.size, 0, none⟩ = false := by simp only [World.frozen?_setCell]; exact g6_0
            have g6_1 : (((v13.setCell ⟨v1.heap.size, 0, none⟩ (.int .i64 x0)).setCell ⟨v1.heap.size, 1, none⟩ (.int .i64 x1)).setCell ⟨v1.heap.size, 2, none⟩ (.bool x2)).frozen? ⟨v1.heap.size, 1, none⟩ = false := by simp only [World.frozen?_setCell]; exact g6_1
            have g6_2 : (((v13.setCell ⟨v1.heap.size, 0, none⟩ (.int .i64 x0)).setCell ⟨v1.heap.size, 1, none⟩ (.int .i64 x1)).setCell ⟨v1.heap.size, 2, none⟩ (.bool x2)).frozen? ⟨v1.heap.size, 2, none⟩ = false := by simp only [World.frozen?_setCell]; exact g6_2
            have l6 : v1.heap.size < (((v13.setCell ⟨v1.heap.size, 0, none⟩ (.int .i64 x0)).setCell ⟨v1.heap.size, 1, none⟩ (.int .i64 x1)).setCell ⟨v1.heap.size, 2, none⟩ (.bool x2)).heap.size := by simpa using l6
            have z7_0 := keep_far3 (x := .int .i64 x0) (y := .int .i64 x1) (z := .bool x2) z7_0 ne6_7.symm
            have g7_0 : (((v13.setCell ⟨v1.heap.size, 0, none⟩ (.int .i64 x0)).setCell ⟨v1.heap.size, 1, none⟩ (.int .i64 x1)).setCell ⟨v1.heap.size, 2, none⟩ (.bool x2)).frozen? ⟨v12.heap.size, 0, none⟩ = false := by simp only [World.frozen?_setCell]; exact g7_0
            have z7_1 := keep_far3 (x := .int .i64 x0) (y := .int .i64 x1) (z := .bool x2) z7_1 ne6_7.symm
            have g7_1 : (((v13.setCell ⟨v1.heap.size, 0, none⟩ (.int .i64 x0)).setCell ⟨v1.heap.size, 1, none⟩ (.int .i64 x1)).setCell ⟨v1.heap.size, 2, none⟩ (.bool x2)).frozen? ⟨v12.heap.size, 1, none⟩ = false := by simp only [World.frozen?_setCell]; exact g7_1
            have z7_2 := keep_far3 (x := .int .i64 x0) (y := .int .i64 x1) (z := .bool x2) z7_2 ne6_7.symm
            have g7_2 : (((v13.setCell ⟨v1.heap.size, 0, none⟩ (.int .i64 x0)).setCell ⟨v1.heap.size, 1, none⟩ (.int .i64 x1)).setCell ⟨v1.heap.size, 2, none⟩ (.bool x2)).frozen? ⟨v12.heap.size, 2, none⟩ = false := by simp only [World.frozen?_setCell]; exact g7_2
            have l7 : v12.heap.size < (((v13.setCell ⟨v1.heap.size, 0, none⟩ (.int .i64 x0)).setCell ⟨v1.heap.size, 1, none⟩ (.int .i64 x1)).setCell ⟨v1.heap.size, 2, none⟩ (.bool x2)).heap.size := by simpa using l7
            obtain ⟨v14, hv_⟩ : ∃ v_, v_ = (((v13.setCell ⟨v1.heap.size, 0, none⟩ (.int .i64 x0)).setCell ⟨v1.heap.size, 1, none⟩ (.int .i64 x1)).setCell ⟨v1.heap.size, 2, none⟩ (.bool x2)) := ⟨_, rfl⟩
            rw [← hv_] at hB z6_0 z6_1 z6_2 g6_0 g6_1 g6_2 l6 z7_0 g7_0 z7_1 g7_1 z7_2 g7_2 l7 ⊢
            clear hv_
            (try go_wp2_with fail); refine hK.out _ _ (hB) (fun hHeld => ?_); clear hK K; (try simp only [Act.put, List.setIfInBounds_toArray, List.set_cons_zero, List.set_cons_succ])
            refine wpAnyH_ready (rs := [9]) (by kernel_rfl) (by simp) ?_; refine AllReadyH.cons (o := ?_) ?_ (fun K hK => ?_) AllReadyH.nil; rotate_left 1; (next => simp only [List.getElem?_toArray, List.getElem?_cons_succ, List.getElem?_cons_zero]; rfl); go_simp
            have hB : Below u2.heap.size u2 (((v14.setCell ⟨v12.heap.size, 0, none⟩ (.int .i64 y0)).setCell ⟨v12.heap.size, 1, none⟩ (.int .i64 y1)).setCell ⟨v12.heap.size, 2, none⟩ (.bool y2)) := bl_set (bl_set (bl_set hB ge7 _) ge7 _) ge7 _
            have y_0 : (((v14.setCell ⟨v12.heap.size, 0, none⟩ (.int .i64 y0)).setCell ⟨v12.heap.size, 1, none⟩ (.int .i64 y1)).setCell ⟨v12.heap.size, 2, none⟩ (.bool y2)).cell? ⟨v12.heap.size, 0, none⟩ = some (.int .i64 y0) := by simp [go_sem, z7_0, z7_1, z7_2]
            have y_1 : (((v14.setCell ⟨v12.heap.size, 0, none⟩ (.int .i64 y0)).setCell ⟨v12.heap.size, 1, none⟩ (.int .i64 y1)).setCell ⟨v12.heap.size, 2, none⟩ (.bool y2)).cell? ⟨v12.heap.size, 1, none⟩ = some (.int .i64 y1) := by simp [go_sem, z7_0, z7_1, z7_2]
            have y_2 : (((v14.setCell ⟨v12.heap.size, 0, none⟩ (.int .i64 y0)).setCell ⟨v12.heap.size, 1, none⟩ (.int .i64 y1)).setCell ⟨v12.heap.size, 2, none⟩ (.bool y2)).cell? ⟨v12.heap.size, 2, none⟩ = some (.bool y2) := by simp [go_sem, z7_0, z7_1, z7_2]
            have z7_0 := y_0
            have z7_1 := y_1
            have z7_2 := y_2
            clear y_0 y_1 y_2
            have z6_0 := keep_far3 (x := .int .i64 y0) (y := .int .i64 y1) (z := .bool y2) z6_0 ne6_7
            have g6_0 : (((v14.setCell ⟨v12.heap.size, 0, none⟩ (.int .i64 y0)).setCell ⟨v12.heap.size, 1, none⟩ (.int .i64 y1)).setCell ⟨v12.heap.size, 2, none⟩ (.bool y2)).frozen? ⟨v1.heap.size, 0, none⟩ = false := by simp only [World.frozen?_setCell]; exact g6_0
            have z6_1 := keep_far3 (x := .int .i64 y0) (y := .int .i64 y1) (z := .bool y2) z6_1 ne6_7
            have g6_1 : (((v14.setCell ⟨v12.heap.size, 0, none⟩ (.int .i64 y0)).setCell ⟨v12.heap.size, 1, none⟩ (.int .i64 y1)).setCell ⟨v12.heap.size, 2, none⟩ (.bool y2)).frozen? ⟨v1.heap.size, 1, none⟩ = false := by simp only [World.frozen?_setCell]; exact g6_1
            have z6_2 := keep_far3 (x := .int .i64 y0) (y := .int .i64 y1) (z := .bool y2) z6_2 ne6_7
            have g6_2 : (((v14.setCell ⟨v12.heap.size, 0, none⟩ (.int .i64 y0)).setCell ⟨v12.heap.size, 1, none⟩ (.int .i64 y1)).setCell ⟨v12.heap.size, 2, none⟩ (.bool y2)).frozen? ⟨v1.heap.size, 2, none⟩ = false := by simp only [World.frozen?_setCell]; exact g6_2
            have l6 : v1.heap.size < (((v14.setCell ⟨v12.heap.size, 0, none⟩ (.int .i64 y0)).setCell ⟨v12.heap.size, 1, none⟩ (.int .i64 y1)).setCell ⟨v12.heap.size, 2, none⟩ (.bool y2)).heap.size := by simpa using l6
            have g7_0 : (((v14.setCell ⟨v12.heap.size, 0, none⟩ (.int .i64 y0)).setCell ⟨v12.heap.size, 1, none⟩ (.int .i64 y1)).setCell ⟨v12.heap.size, 2, none⟩ (.bool y2)).frozen? ⟨v12.heap.size, 0, none⟩ = false := by simp only [World.frozen?_setCell]; exact g7_0
            have g7_1 : (((v14.setCell ⟨v12.heap.size, 0, none⟩ (.int .i64 y0)).setCell ⟨v12.heap.size, 1, none⟩ (.int .i64 y1)).setCell ⟨v12.heap.size, 2, none⟩ (.bool y2)).frozen? ⟨v12.heap.size, 1, none⟩ = false := by simp only [World.frozen?_setCell]; exact g7_1
            have g7_2 : (((v14.setCell ⟨v12.heap.size, 0, none⟩ (.int .i64 y0)).setCell ⟨v12.heap.size, 1, none⟩ (.int .i64 y1)).setCell ⟨v12.heap.size, 2, none⟩ (.bool y2)).frozen? ⟨v12.heap.size, 2, none⟩ = false := by simp only [World.frozen?_setCell]; exact g7_2
            have l7 : v12.heap.size < (((v14.setCell ⟨v12.heap.size, 0, none⟩ (.int .i64 y0)).setCell ⟨v12.heap.size, 1, none⟩ (.int .i64 y1)).setCell ⟨v12.heap.size, 2, none⟩ (.bool y2)).heap.size := by simpa using l7
            obtain ⟨v15, hv_⟩ : ∃ v_, v_ = (((v14.setCell ⟨v12.heap.size, 0, none⟩ (.int .i64 y0)).setCell ⟨v12.heap.size, 1, none⟩ (.int .i64 y1)).setCell ⟨v12.heap.size, 2, none⟩ (.bool y2)) := ⟨_, rfl⟩
            rw [← hv_] at hB z7_0 z7_1 z7_2 z6_0 g6_0 z6_1 g6_1 z6_2 g6_2 l6 g7_0 g7_1 g7_2 l7 ⊢
            clear hv_
            (try go_wp2_with fail); refine hK.out _ _ (hB) (fun hHeld => ?_); clear hK K; (try simp only [Act.put, List.setIfInBounds_toArray, List.set_cons_zero, List.set_cons_succ])
            refine wpAnyH_done (by kernel_rfl) ?_ _
            (go_wp2_with fail; go_meet)
            exact ⟨_, _, rfl, rfl, z6_2, z7_1, z7_2, hB⟩
          refine AllReadyH.cons (o := ?_) ?_ (fun K hK => ?_) AllReadyH.nil; rotate_left 1; (next => simp only [List.getElem?_toArray, List.getElem?_cons_succ, List.getElem?_cons_zero]; rfl)
          go_simp
          have ge7 : u2.heap.size ≤ v11.heap.size := hB.size
          have ne6_7 : v1.heap.size ≠ v11.heap.size := Nat.ne_of_lt l6
          have hb := bl_alloc (bl_refl v11) (.cells #[.int .i64 0, .int .i64 0, .bool false] 164)
          have z6_0 := keep_cell hb z6_0
          have z6_1 := keep_cell hb z6_1
          have z6_2 := keep_cell hb z6_2
          have g6_0 := (hb.frozen (p := ⟨v1.heap.size, 0, none⟩) l6).trans g6_0
          have g6_1 := (hb.frozen (p := ⟨v1.heap.size, 1, none⟩) l6).trans g6_1
          have g6_2 := (hb.frozen (p := ⟨v1.heap.size, 2, none⟩) l6).trans g6_2
          have l6 := Nat.lt_of_lt_of_le l6 hb.size
          have z7_0 : (v11.alloc (.cells #[.int .i64 0, .int .i64 0, .bool false] 164)).cell? ⟨v11.heap.size, 0, none⟩ = some (.int .i64 0) := by simp [go_sem]
          have z7_1 : (v11.alloc (.cells #[.int .i64 0, .int .i64 0, .bool false] 164)).cell? ⟨v11.heap.size, 1, none⟩ = some (.int .i64 0) := by simp [go_sem]
          have z7_2 : (v11.alloc (.cells #[.int .i64 0, .int .i64 0, .bool false] 164)).cell? ⟨v11.heap.size, 2, none⟩ = some (.bool false) := by simp [go_sem]
          have g7_0 : (v11.alloc (.cells #[.int .i64 0, .int .i64 0, .bool false] 164)).frozen? ⟨v11.heap.size, 0, none⟩ = false := by simp [go_sem]
          have g7_1 : (v11.alloc (.cells #[.int .i64 0, .int .i64 0, .bool false] 164)).frozen? ⟨v11.heap.size, 1, none⟩ = false := by simp [go_sem]
          have g7_2 : (v11.alloc (.cells #[.int .i64 0, .int .i64 0, .bool false] 164)).frozen? ⟨v11.heap.size, 2, none⟩ = false := by simp [go_sem]
          have l7 : v11.heap.size < (v11.alloc (.cells #[.int .i64 0, .int .i64 0, .bool false] 164)).heap.size := by simp
          obtain ⟨v16, hv_⟩ : ∃ v_, v_ = (v11.alloc (.cells #[.int .i64 0, .int .i64 0, .bool false] 164)) := ⟨_, rfl⟩
          rw [← hv_] at hb z6_0 g6_0 z6_1 g6_1 z6_2 g6_2 l6 z7_0 z7_1 z7_2 g7_0 g7_1 g7_2 l7 ⊢
          clear hv_
          have hB : Below u2.heap.size u2 v16 := bl_call hb hB
          clear hb
          (try go_wp2_with fail); refine hK.out _ _ (hB) (fun hHeld => ?_); clear hK K; (try simp only [Act.put, List.setIfInBounds_toArray, List.set_cons_zero, List.set_cons_succ])
          refine wpAnyH_ready (rs := [5]) (by kernel_rfl) (by simp) ?_; refine AllReadyH.cons (o := ?_) ?_ (fun K hK => ?_) AllReadyH.nil; rotate_left 1; (next => simp only [List.getElem?_toArray, List.getElem?_cons_succ, List.getElem?_cons_zero]; rfl); go_simp
          (go_at_call 146; (with_reducible refine (HPB.out _ (bl_call (by repeat' (first | with_reducible assumption | with_reducible refine bl_alloc ?_ _ | with_reducible refine bl_drew ?_)) HBW) _ _ _).mono ?_); rintro e v17 ⟨rfl, hb⟩)
          have hB : Below u2.heap.size u2 v17 := bl_call hb hB
          have z6_0 := keep_cell hb z6_0
          have z6_1 := keep_cell hb z6_1
          have z6_2 := keep_cell hb z6_2
          have g6_0 := (hb.frozen (p := ⟨v1.heap.size, 0, none⟩) l6).trans g6_0
          have g6_1 := (hb.frozen (p := ⟨v1.heap.size, 1, none⟩) l6).trans g6_1
          have g6_2 := (hb.frozen (p := ⟨v1.heap.size, 2, none⟩) l6).trans g6_2
          have l6 := Nat.lt_of_lt_of_le l6 hb.size
          have z7_0 := keep_cell hb z7_0
          have z7_1 := keep_cell hb z7_1
          have z7_2 := keep_cell hb z7_2
          have g7_0 := (hb.frozen (p := ⟨v11.heap.size, 0, none⟩) l7).trans g7_0
          have g7_1 := (hb.frozen (p := ⟨v11.heap.size, 1, none⟩) l7).trans g7_1
          have g7_2 := (hb.frozen (p := ⟨v11.heap.size, 2, none⟩) l7).trans g7_2
          have l7 := Nat.lt_of_lt_of_le l7 hb.size
          clear hb
          (try go_wp2_with fail); refine hK.out _ _ (hB) (fun hHeld => ?_); clear hK K; (try simp only [Act.put, List.setIfInBounds_toArray, List.set_cons_zero, List.set_cons_succ])
          refine wpAnyH_ready (rs := [8]) (by kernel_rfl) (by simp) ?_; refine AllReadyH.cons (o := ?_) ?_ (fun K hK => ?_) AllReadyH.nil; rotate_left 1; (next => simp only [List.getElem?_toArray, List.getElem?_cons_succ, List.getElem?_cons_zero]; rfl); go_simp
          have hB : Below u2.heap.size u2 (((v17.setCell ⟨v1.heap.size, 0, none⟩ (.int .i64 x0)).setCell ⟨v1.heap.size, 1, none⟩ (.int .i64 x1)).setCell ⟨v1.heap.size, 2, none⟩ (.bool x2)) := bl_set (bl_set (bl_set hB ge6 _) ge6 _) ge6 _
          have y_0 : (((v17.setCell ⟨v1.heap.size, 0, none⟩ (.int .i64 x0)).setCell ⟨v1.heap.size, 1, none⟩ (.int .i64 x1)).setCell ⟨v1.heap.size, 2, none⟩ (.bool x2)).cell? ⟨v1.heap.size, 0, none⟩ = some (.int .i64 x0) := by simp [go_sem, z6_0, z6_1, z6_2]
          have y_1 : (((v17.setCell ⟨v1.heap.size, 0, none⟩ (.int .i64 x0)).setCell ⟨v1.heap.size, 1, none⟩ (.int .i64 x1)).setCell ⟨v1.heap.size, 2, none⟩ (.bool x2)).cell? ⟨v1.heap.size, 1, none⟩ = some (.int .i64 x1) := by simp [go_sem, z6_0, z6_1, z6_2]
          have y_2 : (((v17.setCell ⟨v1.heap.size, 0, none⟩ (.int .i64 x0)).setCell ⟨v1.heap.size, 1, none⟩ (.int .i64 x1)).setCell ⟨v1.heap.size, 2, none⟩ (.bool x2)).cell? ⟨v1.heap.size, 2, none⟩ = some (.bool x2) := by simp [go_sem, z6_0, z6_1, z6_2]
          have z6_0 := y_0
          have z6_1 := y_1
          have z6_2 := y_2
          clear y_0 y_1 y_2
          have g6_0 : (((v17.setCell ⟨v1.heap.size, 0, none⟩ (.int .i64 x0)).setCell ⟨v1.heap.size, 1, none⟩ (.int .i64 x1)).setCell ⟨v1.heap.size, 2, none⟩ (.bool x2)).frozen? ⟨v1.heap.size, 0, none⟩ = false := by simp only [World.frozen?_setCell]; exact g6_0
          have g6_1 : (((v17.setCell ⟨v1.heap.size, 0, none⟩ (.int .i64 x0)).setCell ⟨v1.heap.size, 1, none⟩ (.int .i64 x1)).setCell ⟨v1.heap.size, 2, none⟩ (.bool x2)).frozen? ⟨v1.heap.size, 1, none⟩ = false := by simp only [World.frozen?_setCell]; exact g6_1
          have g6_2 : (((v17.setCell ⟨v1.heap.size, 0, none⟩ (.int .i64 x0)).setCell ⟨v1.heap.size, 1, none⟩ (.int .i64 x1)).setCell ⟨v1.heap.size, 2, none⟩ (.bool x2)).frozen? ⟨v1.heap.size, 2, none⟩ = false := by simp only [World.frozen?_setCell]; exact g6_2
          have l6 : v1.heap.size < (((v17.setCell ⟨v1.heap.size, 0, none⟩ (.int .i64 x0)).setCell ⟨v1.heap.size, 1, none⟩ (.int .i64 x1)).setCell ⟨v1.heap.size, 2, none⟩ (.bool x2)).heap.size := by simpa using l6
          have z7_0 := keep_far3 (x := .int .i64 x0) (y := .int .i64 x1) (z := .bool x2) z7_0 ne6_7.symm
          have g7_0 : (((v17.setCell ⟨v1.heap.size, 0, none⟩ (.int .i64 x0)).setCell ⟨v1.heap.size, 1, none⟩ (.int .i64 x1)).setCell ⟨v1.heap.size, 2, none⟩ (.bool x2)).frozen? ⟨v11.heap.size, 0, none⟩ = false := by simp only [World.frozen?_setCell]; exact g7_0
          have z7_1 := keep_far3 (x := .int .i64 x0) (y := .int .i64 x1) (z := .bool x2) z7_1 ne6_7.symm
          have g7_1 : (((v17.setCell ⟨v1.heap.size, 0, none⟩ (.int .i64 x0)).setCell ⟨v1.heap.size, 1, none⟩ (.int .i64 x1)).setCell ⟨v1.heap.size, 2, none⟩ (.bool x2)).frozen? ⟨v11.heap.size, 1, none⟩ = false := by simp only [World.frozen?_setCell]; exact g7_1
          have z7_2 := keep_far3 (x := .int .i64 x0) (y := .int .i64 x1) (z := .bool x2) z7_2 ne6_7.symm
          have g7_2 : (((v17.setCell ⟨v1.heap.size, 0, none⟩ (.int .i64 x0)).setCell ⟨v1.heap.size, 1, none⟩ (.int .i64 x1)).setCell ⟨v1.heap.size, 2, none⟩ (.bool x2)).frozen? ⟨v11.heap.size, 2, none⟩ = false := by simp only [World.frozen?_setCell]; exact g7_2
          have l7 : v11.heap.size < (((v17.setCell ⟨v1.heap.size, 0, none⟩ (.int .i64 x0)).setCell ⟨v1.heap.size, 1, none⟩ (.int .i64 x1)).setCell ⟨v1.heap.size, 2, none⟩ (.bool x2)).heap.size := by simpa using l7
          obtain ⟨v18, hv_⟩ : ∃ v_, v_ = (((v17.setCell ⟨v1.heap.size, 0, none⟩ (.int .i64 x0)).setCell ⟨v1.heap.size, 1, none⟩ (.int .i64 x1)).setCell ⟨v1.heap.size, 2, none⟩ (.bool x2)) := ⟨_, rfl⟩
          rw [← hv_] at hB z6_0 z6_1 z6_2 g6_0 g6_1 g6_2 l6 z7_0 g7_0 z7_1 g7_1 z7_2 g7_2 l7 ⊢
          clear hv_
          (try go_wp2_with fail); refine hK.out _ _ (hB) (fun hHeld => ?_); clear hK K; (try simp only [Act.put, List.setIfInBounds_toArray, List.set_cons_zero, List.set_cons_succ])
          refine wpAnyH_ready (rs := [9]) (by kernel_rfl) (by simp) ?_; refine AllReadyH.cons (o := ?_) ?_ (fun K hK => ?_) AllReadyH.nil; rotate_left 1; (next => simp only [List.getElem?_toArray, List.getElem?_cons_succ, List.getElem?_cons_zero]; rfl); go_simp
          have hB : Below u2.heap.size u2 (((v18.setCell ⟨v11.heap.size, 0, none⟩ (.int .i64 y0)).setCell ⟨v11.heap.size, 1, none⟩ (.int .i64 y1)).setCell ⟨v11.heap.size, 2, none⟩ (.bool y2)) := bl_set (bl_set (bl_set hB ge7 _) ge7 _) ge7 _
          have y_0 : (((v18.setCell ⟨v11.heap.size, 0, none⟩ (.int .i64 y0)).setCell ⟨v11.heap.size, 1, none⟩ (.int .i64 y1)).setCell ⟨v11.heap.size, 2, none⟩ (.bool y2)).cell? ⟨v11.heap.size, 0, none⟩ = some (.int .i64 y0) := by simp [go_sem, z7_0, z7_1, z7_2]
          have y_1 : (((v18.setCell ⟨v11.heap.size, 0, none⟩ (.int .i64 y0)).setCell ⟨v11.heap.size, 1, none⟩ (.int .i64 y1)).setCell ⟨v11.heap.size, 2, none⟩ (.bool y2)).cell? ⟨v11.heap.size, 1, none⟩ = some (.int .i64 y1) := by simp [go_sem, z7_0, z7_1, z7_2]
          have y_2 : (((v18.setCell ⟨v11.heap.size, 0, none⟩ (.int .i64 y0)).setCell ⟨v11.heap.size, 1, none⟩ (.int .i64 y1)).setCell ⟨v11.heap.size, 2, none⟩ (.bool y2)).cell? ⟨v11.heap.size, 2, none⟩ = some (.bool y2) := by simp [go_sem, z7_0, z7_1, z7_2]
          have z7_0 := y_0
          have z7_1 := y_1
          have z7_2 := y_2
          clear y_0 y_1 y_2
          have z6_0 := keep_far3 (x := .int .i64 y0) (y := .int .i64 y1) (z := .bool y2) z6_0 ne6_7
          have g6_0 : (((v18.setCell ⟨v11.heap.size, 0, none⟩ (.int .i64 y0)).setCell ⟨v11.heap.size, 1, none⟩ (.int .i64 y1)).setCell ⟨v11.heap.size, 2, none⟩ (.bool y2)).frozen? ⟨v1.heap.size, 0, none⟩ = false := by simp only [World.frozen?_setCell]; exact g6_0
          have z6_1 := keep_far3 (x := .int .i64 y0) (y := .int .i64 y1) (z := .bool y2) z6_1 ne6_7
          have g6_1 : (((v18.setCell ⟨v11.heap.size, 0, none⟩ (.int .i64 y0)).setCell ⟨v11.heap.size, 1, none⟩ (.int .i64 y1)).setCell ⟨v11.heap.size, 2, none⟩ (.bool y2)).frozen? ⟨v1.heap.size, 1, none⟩ = false := by simp only [World.frozen?_setCell]; exact g6_1
          have z6_2 := keep_far3 (x := .int .i64 y0) (y := .int .i64 y1) (z := .bool y2) z6_2 ne6_7
          have g6_2 : (((v18.setCell ⟨v11.heap.size, 0, none⟩ (.int .i64 y0)).setCell ⟨v11.heap.size, 1, none⟩ (.int .i64 y1)).setCell ⟨v11.heap.size, 2, none⟩ (.bool y2)).frozen? ⟨v1.heap.size, 2, none⟩ = false := by simp only [World.frozen?_setCell]; exact g6_2
          have l6 : v1.heap.size < (((v18.setCell ⟨v11.heap.size, 0, none⟩ (.int .i64 y0)).setCell ⟨v11.heap.size, 1, none⟩ (.int .i64 y1)).setCell ⟨v11.heap.size, 2, none⟩ (.bool y2)).heap.size := by simpa using l6
          have g7_0 : (((v18.setCell ⟨v11.heap.size, 0, none⟩ (.int .i64 y0)).setCell ⟨v11.heap.size, 1, none⟩ (.int .i64 y1)).setCell ⟨v11.heap.size, 2, none⟩ (.bool y2)).frozen? ⟨v11.heap.size, 0, none⟩ = false := by simp only [World.frozen?_setCell]; exact g7_0
          have g7_1 : (((v18.setCell ⟨v11.heap.size, 0, none⟩ (.int .i64 y0)).setCell ⟨v11.heap.size, 1, none⟩ (.int .i64 y1)).setCell ⟨v11.heap.size, 2, none⟩ (.bool y2)).frozen? ⟨v11.heap.size, 1, none⟩ = false := by simp only [World.frozen?_setCell]; exact g7_1
          have g7_2 : (((v18.setCell ⟨v11.heap.size, 0, none⟩ (.int .i64 y0)).setCell ⟨v11.heap.size, 1, none⟩ (.int .i64 y1)).setCell ⟨v11.heap.size, 2, none⟩ (.bool y2)).frozen? ⟨v11.heap.size, 2, none⟩ = false := by simp only [World.frozen?_setCell]; exact g7_2
          have l7 : v11.heap.size < (((v18.setCell ⟨v11.heap.size, 0, none⟩ (.int .i64 y0)).setCell ⟨v11.heap.size, 1, none⟩ (.int .i64 y1)).setCell ⟨v11.heap.size, 2, none⟩ (.bool y2)).heap.size := by simpa using l7
          obtain ⟨v19, hv_⟩ : ∃ v_, v_ = (((v18.setCell ⟨v11.heap.size, 0, none⟩ (.int .i64 y0)).setCell ⟨v11.heap.size, 1, none⟩ (.int .i64 y1)).setCell ⟨v11.heap.size, 2, none⟩ (.bool y2)) := ⟨_, rfl⟩
          rw [← hv_] at hB z7_0 z7_1 z7_2 z6_0 g6_0 z6_1 g6_1 z6_2 g6_2 l6 g7_0 g7_1 g7_2 l7 ⊢
          clear hv_
          (try go_wp2_with fail); refine hK.out _ _ (hB) (fun hHeld => ?_); clear hK K; (try simp only [Act.put, List.setIfInBounds_toArray, List.set_cons_zero, List.set_cons_succ])
          refine wpAnyH_done (by kernel_rfl) ?_ _
          (go_wp2_with fail; go_meet)
          exact ⟨_, _, rfl, rfl, z6_2, z7_1, z7_2, hB⟩
        refine AllReadyH.cons (o := ?_) ?_ (fun K hK => ?_) AllReadyH.nil; rotate_left 1; (next => simp only [List.getElem?_toArray, List.getElem?_cons_succ, List.getElem?_cons_zero]; rfl)
        go_simp
        have ge7 : u2.heap.size ≤ v1.heap.size := hB.size
        have hb := bl_alloc (bl_refl v1) (.cells #[.int .i64 0, .int .i64 0, .bool false] 164)
        have z7_0 : (v1.alloc (.cells #[.int .i64 0, .int .i64 0, .bool false] 164)).cell? ⟨v1.heap.size, 0, none⟩ = some (.int .i64 0) := by simp [go_sem]
        have z7_1 : (v1.alloc (.cells #[.int .i64 0, .int .i64 0, .bool false] 164)).cell? ⟨v1.heap.size, 1, none⟩ = some (.int .i64 0) := by simp [go_sem]
        have z7_2 : (v1.alloc (.cells #[.int .i64 0, .int .i64 0, .bool false] 164)).cell? ⟨v1.heap.size, 2, none⟩ = some (.bool false) := by simp [go_sem]
        have g7_0 : (v1.alloc (.cells #[.int .i64 0, .int .i64 0, .bool false] 164)).frozen? ⟨v1.heap.size, 0, none⟩ = false := by simp [go_sem]
        have g7_1 : (v1.alloc (.cells #[.int .i64 0, .int .i64 0, .bool false] 164)).frozen? ⟨v1.heap.size, 1, none⟩ = false := by simp [go_sem]
        have g7_2 : (v1.alloc (.cells #[.int .i64 0, .int .i64 0, .bool false] 164)).frozen? ⟨v1.heap.size, 2, none⟩ = false := by simp [go_sem]
        have l7 : v1.heap.size < (v1.alloc (.cells #[.int .i64 0, .int .i64 0, .bool false] 164)).heap.size := by simp
        obtain ⟨v20, hv_⟩ : ∃ v_, v_ = (v1.alloc (.cells #[.int .i64 0, .int .i64 0, .bool false] 164)) := ⟨_, rfl⟩
        rw [← hv_] at hb z7_0 z7_1 z7_2 g7_0 g7_1 g7_2 l7 ⊢
        clear hv_
        have hB : Below u2.heap.size u2 v20 := bl_call hb hB
        clear hb
        (try go_wp2_with fail); refine hK.out _ _ (hB) (fun hHeld => ?_); clear hK K; (try simp only [Act.put, List.setIfInBounds_toArray, List.set_cons_zero, List.set_cons_succ])
        refine wpAnyH_ready (rs := [5, 6]) (by kernel_rfl) (by simp) ?_
        refine AllReadyH.cons (o := ?_) ?_ (fun K hK => ?_) ?_; rotate_left 1; (next => simp only [List.getElem?_toArray, List.getElem?_cons_succ, List.getElem?_cons_zero]; rfl)
        · go_simp
          (go_at_call 146; (with_reducible refine (HPB.out _ (bl_call (by repeat' (first | with_reducible assumption | with_reducible refine bl_alloc ?_ _ | with_reducible refine bl_drew ?_)) HBW) _ _ _).mono ?_); rintro e v21 ⟨rfl, hb⟩)
          have hB : Below u2.heap.size u2 v21 := bl_call hb hB
          have z7_0 := keep_cell hb z7_0
          have z7_1 := keep_cell hb z7_1
          have z7_2 := keep_cell hb z7_2
          have g7_0 := (hb.frozen (p := ⟨v1.heap.size, 0, none⟩) l7).trans g7_0
          have g7_1 := (hb.frozen (p := ⟨v1.heap.size, 1, none⟩) l7).trans g7_1
          have g7_2 := (hb.frozen (p := ⟨v1.heap.size, 2, none⟩) l7).trans g7_2
          have l7 := Nat.lt_of_lt_of_le l7 hb.size
          clear hb
          (try go_wp2_with fail); refine hK.out _ _ (hB) (fun hHeld => ?_); clear hK K; (try simp only [Act.put, List.setIfInBounds_toArray, List.set_cons_zero, List.set_cons_succ])
          refine wpAnyH_ready (rs := [6]) (by kernel_rfl) (by simp) ?_; refine AllReadyH.cons (o := ?_) ?_ (fun K hK => ?_) AllReadyH.nil; rotate_left 1; (next => simp only [List.getElem?_toArray, List.getElem?_cons_succ, List.getElem?_cons_zero]; rfl); go_simp
          have ge6 : u2.heap.size ≤ v21.heap.size := hB.size
          have ne7_6 : v1.heap.size ≠ v21.heap.size := Nat.ne_of_lt l7
          have hb := bl_alloc (bl_refl v21) (.cells #[.int .i64 0, .int .i64 0, .bool false] 164)
          have z7_0 := keep_cell hb z7_0
          have z7_1 := keep_cell hb z7_1
          have z7_2 := keep_cell hb z7_2
          have g7_0 := (hb.frozen (p := ⟨v1.heap.size, 0, none⟩) l7).trans g7_0
          have g7_1 := (hb.frozen (p := ⟨v1.heap.size, 1, none⟩) l7).trans g7_1
          have g7_2 := (hb.frozen (p := ⟨v1.heap.size, 2, none⟩) l7).trans g7_2
          have l7 := Nat.lt_of_lt_of_le l7 hb.size
          have z6_0 : (v21.alloc (.cells #[.int .i64 0, .int .i64 0, .bool false] 164)).cell? ⟨v21.heap.size, 0, none⟩ = some (.int .i64 0) := by simp [go_sem]
          have z6_1 : (v21.alloc (.cells #[.int .i64 0, .int .i64 0, .bool false] 164)).cell? ⟨v21.heap.size, 1, none⟩ = some (.int .i64 0) := by simp [go_sem]
          have z6_2 : (v21.alloc (.cells #[.int .i64 0, .int .i64 0, .bool false] 164)).cell? ⟨v21.heap.size, 2, none⟩ = some (.bool false) := by simp [go_sem]
          have g6_0 : (v21.alloc (.cells #[.int .i64 0, .int .i64 0, .bool false] 164)).frozen? ⟨v21.heap.size, 0, none⟩ = false := by simp [go_sem]
          have g6_1 : (v21.alloc (.cells #[.int .i64 0, .int .i64 0, .bool false] 164)).frozen? ⟨v21.heap.size, 1, none⟩ = false := by simp [go_sem]
          have g6_2 : (v21.alloc (.cells #[.int .i64 0, .int .i64 0, .bool false] 164)).frozen? ⟨v21.heap.size, 2, none⟩ = false := by simp [go_sem]
          have l6 : v21.heap.size < (v21.alloc (.cells #[.int .i64 0, .int .i64 0, .bool false] 164)).heap.size := by simp
          obtain ⟨v22, hv_⟩ : ∃ v_, v_ = (v21.alloc (.cells #[.int .i64 0, .int .i64 0, .bool false] 164)) := ⟨_, rfl⟩
          rw [← hv_] at hb z7_0 g7_0 z7_1 g7_1 z7_2 g7_2 l7 z6_0 z6_1 z6_2 g6_0 g6_1 g6_2 l6 ⊢
          clear hv_
          have hB : Below u2.heap.size u2 v22 := bl_call hb hB
          clear hb
          (try go_wp2_with fail); refine hK.out _ _ (hB) (fun hHeld => ?_); clear hK K; (try simp only [Act.put, List.setIfInBounds_toArray, List.set_cons_zero, List.set_cons_succ])
          refine wpAnyH_ready (rs := [8]) (by kernel_rfl) (by simp) ?_; refine AllReadyH.cons (o := ?_) ?_ (fun K hK => ?_) AllReadyH.nil; rotate_left 1; (next => simp only [List.getElem?_toArray, List.getElem?_cons_succ, List.getElem?_cons_zero]; rfl); go_simp
          have hB : Below u2.heap.size u2 (((v22.setCell ⟨v21.heap.size, 0, none⟩ (.int .i64 x0)).setCell ⟨v21.heap.size, 1, none⟩ (.int .i64 x1)).setCell ⟨v21.heap.size, 2, none⟩ (.bool x2)) := bl_set (bl_set (bl_set hB ge6 _) ge6 _) ge6 _
          have y_0 : (((v22.setCell ⟨v21.heap.size, 0, none⟩ (.int .i64 x0)).setCell ⟨v21.heap.size, 1, none⟩ (.int .i64 x1)).setCell ⟨v21.heap.size, 2, none⟩ (.bool x2)).cell? ⟨v21.heap.size, 0, none⟩ = some (.int .i64 x0) := by simp [go_sem, z6_0, z6_1, z6_2]
          have y_1 : (((v22.setCell ⟨v21.heap.size, 0, none⟩ (.int .i64 x0)).setCell ⟨v21.heap.size, 1, none⟩ (.int .i64 x1)).setCell ⟨v21.heap.size, 2, none⟩ (.bool x2)).cell? ⟨v21.heap.size, 1, none⟩ = some (.int .i64 x1) := by simp [go_sem, z6_0, z6_1, z6_2]
          have y_2 : (((v22.setCell ⟨v21.heap.size, 0, none⟩ (.int .i64 x0)).setCell ⟨v21.heap.size, 1, none⟩ (.int .i64 x1)).setCell ⟨v21.heap.size, 2, none⟩ (.bool x2)).cell? ⟨v21.heap.size, 2, none⟩ = some (.bool x2) := by simp [go_sem, z6_0, z6_1, z6_2]
          have z6_0 := y_0
          have z6_1 := y_1
          have z6_2 := y_2
          clear y_0 y_1 y_2
          have z7_0 := keep_far3 (x := .int .i64 x0) (y := .int .i64 x1) (z := .bool x2) z7_0 ne7_6
          have g7_0 : (((v22.setCell ⟨v21.heap.size, 0, none⟩ (.int .i64 x0)).setCell ⟨v21.heap.size, 1, none⟩ (.int .i64 x1)).setCell ⟨v21.heap.size, 2, none⟩ (.bool x2)).frozen? ⟨v1.heap.size, 0, none⟩ = false := by simp only [World.frozen?_setCell]; exact g7_0
          have z7_1 := keep_far3 (x := .int .i64 x0) (y := .int .i64 x1) (z := .bool x2) z7_1 ne7_6
          have g7_1 : (((v22.setCell ⟨v21.heap.size, 0, none⟩ (.int .i64 x0)).setCell ⟨v21.heap.size, 1, none⟩ (.int .i64 x1)).setCell ⟨v21.heap.size, 2, none⟩ (.bool x2)).frozen? ⟨v1.heap.size, 1, none⟩ = false := by simp only [World.frozen?_setCell]; exact g7_1
          have z7_2 := keep_far3 (x := .int .i64 x0) (y := .int .i64 x1) (z := .bool x2) z7_2 ne7_6
          have g7_2 : (((v22.setCell ⟨v21.heap.size, 0, none⟩ (.int .i64 x0)).setCell ⟨v21.heap.size, 1, none⟩ (.int .i64 x1)).setCell ⟨v21.heap.size, 2, none⟩ (.bool x2)).frozen? ⟨v1.heap.size, 2, none⟩ = false := by simp only [World.frozen?_setCell]; exact g7_2
          have l7 : v1.heap.size < (((v22.setCell ⟨v21.heap.size, 0, none⟩ (.int .i64 x0)).setCell ⟨v21.heap.size, 1, none⟩ (.int .i64 x1)).setCell ⟨v21.heap.size, 2, none⟩ (.bool x2)).heap.size := by simpa using l7
          have g6_0 : (((v22.setCell ⟨v21.heap.size, 0, none⟩ (.int .i64 x0)).setCell ⟨v21.heap.size, 1, none⟩ (.int .i64 x1)).setCell ⟨v21.heap.size, 2, none⟩ (.bool x2)).frozen? ⟨v21.heap.size, 0, none⟩ = false := by simp only [World.frozen?_setCell]; exact g6_0
          have g6_1 : (((v22.setCell ⟨v21.heap.size, 0, none⟩ (.int .i64 x0)).setCell ⟨v21.heap.size, 1, none⟩ (.int .i64 x1)).setCell ⟨v21.heap.size, 2, none⟩ (.bool x2)).frozen? ⟨v21.heap.size, 1, none⟩ = false := by simp only [World.frozen?_setCell]; exact g6_1
          have g6_2 : (((v22.setCell ⟨v21.heap.size, 0, none⟩ (.int .i64 x0)).setCell ⟨v21.heap.size, 1, none⟩ (.int .i64 x1)).setCell ⟨v21.heap.size, 2, none⟩ (.bool x2)).frozen? ⟨v21.heap.size, 2, none⟩ = false := by simp only [World.frozen?_setCell]; exact g6_2
          have l6 : v21.heap.size < (((v22.setCell ⟨v21.heap.size, 0, none⟩ (.int .i64 x0)).setCell ⟨v21.heap.size, 1, none⟩ (.int .i64 x1)).setCell ⟨v21.heap.size, 2, none⟩ (.bool x2)).heap.size := by simpa using l6
          obtain ⟨v23, hv_⟩ : ∃ v_, v_ = (((v22.setCell ⟨v21.heap.size, 0, none⟩ (.int .i64 x0)).setCell ⟨v21.heap.size, 1, none⟩ (.int .i64 x1)).setCell ⟨v21.heap.size, 2, none⟩ (.bool x2)) := ⟨_, rfl⟩
          rw [← hv_] at hB z6_0 z6_1 z6_2 z7_0 g7_0 z7_1 g7_1 z7_2 g7_2 l7 g6_0 g6_1 g6_2 l6 ⊢
          clear hv_
          (try go_wp2_with fail); refine hK.out _ _ (hB) (fun hHeld => ?_); clear hK K; (try simp only [Act.put, List.setIfInBounds_toArray, List.set_cons_zero, List.set_cons_succ])
          refine wpAnyH_ready (rs := [9]) (by kernel_rfl) (by simp) ?_; refine AllReadyH.cons (o := ?_) ?_ (fun K hK => ?_) AllReadyH.nil; rotate_left 1; (next => simp only [List.getElem?_toArray, List.getElem?_cons_succ, List.getElem?_cons_zero]; rfl); go_simp
          have hB : Below u2.heap.size u2 (((v23.setCell ⟨v1.heap.size, 0, none⟩ (.int .i64 y0)).setCell ⟨v1.heap.size, 1, none⟩ (.int .i64 y1)).setCell ⟨v1.heap.size, 2, none⟩ (.bool y2)) := bl_set (bl_set (bl_set hB ge7 _) ge7 _) ge7 _
          have y_0 : (((v23.setCell ⟨v1.heap.size, 0, none⟩ (.int .i64 y0)).setCell ⟨v1.heap.size, 1, none⟩ (.int .i64 y1)).setCell ⟨v1.heap.size, 2, none⟩ (.bool y2)).cell? ⟨v1.heap.size, 0, none⟩ = some (.int .i64 y0) := by simp [go_sem, z7_0, z7_1, z7_2]
          have y_1 : (((v23.setCell ⟨v1.heap.size, 0, none⟩ (.int .i64 y0)).setCell ⟨v1.heap.size, 1, none⟩ (.int .i64 y1)).setCell ⟨v1.heap.size, 2, none⟩ (.bool y2)).cell? ⟨v1.heap.size, 1, none⟩ = some (.int .i64 y1) := by simp [go_sem, z7_0, z7_1, z7_2]
          have y_2 : (((v23.setCell ⟨v1.heap.size, 0, none⟩ (.int .i64 y0)).setCell ⟨v1.heap.size, 1, none⟩ (.int .i64 y1)).setCell ⟨v1.heap.size, 2, none⟩ (.bool y2)).cell? ⟨v1.heap.size, 2, none⟩ = some (.bool y2) := by simp [go_sem, z7_0, z7_1, z7_2]
          have z7_0 := y_0
          have z7_1 := y_1
          have z7_2 := y_2
          clear y_0 y_1 y_2
          have g7_0 : (((v23.setCell ⟨v1.heap.size, 0, none⟩ (.int .i64 y0)).setCell ⟨v1.heap.size, 1, none⟩ (.int .i64 y1)).setCell ⟨v1.heap.size, 2, none⟩ (.bool y2)).frozen? ⟨v1.heap.size, 0, none⟩ = false := by simp only [World.frozen?_setCell]; exact g7_0
          have g7_1 : (((v23.setCell ⟨v1.heap.size, 0, none⟩ (.int .i64 y0)).setCell ⟨v1.heap.size, 1, none⟩ (.int .i64 y1)).setCell ⟨v1.heap.size, 2, none⟩ (.bool y2)).frozen? ⟨v1.heap.size, 1, none⟩ = false := by simp only [World.frozen?_setCell]; exact g7_1
          have g7_2 : (((v23.setCell ⟨v1.heap.size, 0, none⟩ (.int .i64 y0)).setCell ⟨v1.heap.size, 1, none⟩ (.int .i64 y1)).setCell ⟨v1.heap.size, 2, none⟩ (.bool y2)).frozen? ⟨v1.heap.size, 2, none⟩ = false := by simp only [World.frozen?_setCell]; exact g7_2
          have l7 : v1.heap.size < (((v23.setCell ⟨v1.heap.size, 0, none⟩ (.int .i64 y0)).setCell ⟨v1.heap.size, 1, none⟩ (.int .i64 y1)).setCell ⟨v1.heap.size, 2, none⟩ (.bool y2)).heap.size := by simpa using l7
          have z6_0 := keep_far3 (x := .int .i64 y0) (y := .int .i64 y1) (z := .bool y2) z6_0 ne7_6.symm
          have g6_0 : (((v23.setCell ⟨v1.heap.size, 0, none⟩ (.int .i64 y0)).setCell ⟨v1.heap.size, 1, none⟩ (.int .i64 y1)).setCell ⟨v1.heap.size, 2, none⟩ (.bool y2)).frozen? ⟨v21.heap.size, 0, none⟩ = false := by simp only [World.frozen?_setCell]; exact g6_0
          have z6_1 := keep_far3 (x := .int .i64 y0) (y := .int .i64 y1) (z := .bool y2) z6_1 ne7_6.symm
          have g6_1 : (((v23.setCell ⟨v1.heap.size, 0, none⟩ (.int .i64 y0)).setCell ⟨v1.heap.size, 1, none⟩ (.int .i64 y1)).setCell ⟨v1.heap.size, 2, none⟩ (.bool y2)).frozen? ⟨v21.heap.size, 1, none⟩ = false := by simp only [World.frozen?_setCell]; exact g6_1
          have z6_2 := keep_far3 (x := .int .i64 y0) (y := .int .i64 y1) (z := .bool y2) z6_2 ne7_6.symm
          have g6_2 : (((v23.setCell ⟨v1.heap.size, 0, none⟩ (.int .i64 y0)).setCell ⟨v1.heap.size, 1, none⟩ (.int .i64 y1)).setCell ⟨v1.heap.size, 2, none⟩ (.bool y2)).frozen? ⟨v21.heap.size, 2, none⟩ = false := by simp only [World.frozen?_setCell]; exact g6_2
          have l6 : v21.heap.size < (((v23.setCell ⟨v1.heap.size, 0, none⟩ (.int .i64 y0)).setCell ⟨v1.heap.size, 1, none⟩ (.int .i64 y1)).setCell ⟨v1.heap.size, 2, none⟩ (.bool y2)).heap.size := by simpa using l6
          obtain ⟨v24, hv_⟩ : ∃ v_, v_ = (((v23.setCell ⟨v1.heap.size, 0, none⟩ (.int .i64 y0)).setCell ⟨v1.heap.size, 1, none⟩ (.int .i64 y1)).setCell ⟨v1.heap.size, 2, none⟩ (.bool y2)) := ⟨_, rfl⟩
          rw [← hv_] at hB z7_0 z7_1 z7_2 g7_0 g7_1 g7_2 l7 z6_0 g6_0 z6_1 g6_1 z6_2 g6_2 l6 ⊢
          clear hv_
          (try go_wp2_with fail); refine hK.out _ _ (hB) (fun hHeld => ?_); clear hK K; (try simp only [Act.put, List.setIfInBounds_toArray, List.set_cons_zero, List.set_cons_succ])
          refine wpAnyH_done (by kernel_rfl) ?_ _
          (go_wp2_with fail; go_meet)
          exact ⟨_, _, rfl, rfl, z6_2, z7_1, z7_2, hB⟩
        refine AllReadyH.cons (o := ?_) ?_ (fun K hK => ?_) AllReadyH.nil; rotate_left 1; (next => simp only [List.getElem?_toArray, List.getElem?_cons_succ, List.getElem?_cons_zero]; rfl)
        go_simp
        have ge6 : u2.heap.size ≤ v20.heap.size := hB.size
        have ne7_6 : v1.heap.size ≠ v20.heap.size := Nat.ne_of_lt l7
        have hb := bl_alloc (bl_refl v20) (.cells #[.int .i64 0, .int .i64 0, .bool false] 164)
        have z7_0 := keep_cell hb z7_0
        have z7_1 := keep_cell hb z7_1
        have z7_2 := keep_cell hb z7_2
        have g7_0 := (hb.frozen (p := ⟨v1.heap.size, 0, none⟩) l7).trans g7_0
        have g7_1 := (hb.frozen (p := ⟨v1.heap.size, 1, none⟩) l7).trans g7_1
        have g7_2 := (hb.frozen (p := ⟨v1.heap.size, 2, none⟩) l7).trans g7_2
        have l7 := Nat.lt_of_lt_of_le l7 hb.size
        have z6_0 : (v20.alloc (.cells #[.int .i64 0, .int .i64 0, .bool false] 164)).cell? ⟨v20.heap.size, 0, none⟩ = some (.int .i64 0) := by simp [go_sem]
        have z6_1 : (v20.alloc (.cells #[.int .i64 0, .int .i64 0, .bool false] 164)).cell? ⟨v20.heap.size, 1, none⟩ = some (.int .i64 0) := by simp [go_sem]
        have z6_2 : (v20.alloc (.cells #[.int .i64 0, .int .i64 0, .bool false] 164)).cell? ⟨v20.heap.size, 2, none⟩ = some (.bool false) := by simp [go_sem]
        have g6_0 : (v20.alloc (.cells #[.int .i64 0, .int .i64 0, .bool false] 164)).frozen? ⟨v20.heap.size, 0, none⟩ = false := by simp [go_sem]
        have g6_1 : (v20.alloc (.cells #[.int .i64 0, .int .i64 0, .bool false] 164)).frozen? ⟨v20.heap.size, 1, none⟩ = false := by simp [go_sem]
        have g6_2 : (v20.alloc (.cells #[.int .i64 0, .int .i64 0, .bool false] 164)).frozen? ⟨v20.heap.size, 2, none⟩ = false := by simp [go_sem]
        have l6 : v20.heap.size < (v20.alloc (.cells #[.int .i64 0, .int .i64 0, .bool false] 164)).heap.size := by simp
        obtain ⟨v25, hv_⟩ : ∃ v_, v_ = (v20.alloc (.cells #[.int .i64 0, .int .i64 0, .bool false] 164)) := ⟨_, rfl⟩
        rw [← hv_] at hb z7_0 g7_0 z7_1 g7_1 z7_2 g7_2 l7 z6_0 z6_1 z6_2 g6_0 g6_1 g6_2 l6 ⊢
        clear hv_
        have hB : Below u2.heap.size u2 v25 := bl_call hb hB
        clear hb
        (try go_wp2_with fail); refine hK.out _ _ (hB) (fun hHeld => ?_); clear hK K; (try simp only [Act.put, List.setIfInBounds_toArray, List.set_cons_zero, List.set_cons_succ])
        refine wpAnyH_ready (rs := [5]) (by kernel_rfl) (by simp) ?_; refine AllReadyH.cons (o := ?_) ?_ (fun K hK => ?_) AllReadyH.nil; rotate_left 1; (next => simp only [List.getElem?_toArray, List.getElem?_cons_succ, List.getElem?_cons_zero]; rfl); go_simp
        (go_at_call 146; (with_reducible refine (HPB.out _ (bl_call (by repeat' (first | with_reducible assumption | with_reducible refine bl_alloc ?_ _ | with_reducible refine bl_drew ?_)) HBW) _ _ _).mono ?_); rintro e v26 ⟨rfl, hb⟩)
        have hB : Below u2.heap.size u2 v26 := bl_call hb hB
        have z7_0 := keep_cell hb z7_0
        have z7_1 := keep_cell hb z7_1
        have z7_2 := keep_cell hb z7_2
        have g7_0 := (hb.frozen (p := ⟨v1.heap.size, 0, none⟩) l7).trans g7_0
        have g7_1 := (hb.frozen (p := ⟨v1.heap.size, 1, none⟩) l7).trans g7_1
        have g7_2 := (hb.frozen (p := ⟨v1.heap.size, 2, none⟩) l7).trans g7_2
        have l7 := Nat.lt_of_lt_of_le l7 hb.size
        have z6_0 := keep_cell hb z6_0
        have z6_1 := keep_cell hb z6_1
        have z6_2 := keep_cell hb z6_2
        have g6_0 := (hb.frozen (p := ⟨v20.heap.size, 0, none⟩) l6).trans g6_0
        have g6_1 := (hb.frozen (p := ⟨v20.heap.size, 1, none⟩) l6).trans g6_1
        have g6_2 := (hb.frozen (p := ⟨v20.heap.size, 2, none⟩) l6).trans g6_2
        have l6 := Nat.lt_of_lt_of_le l6 hb.size
        clear hb
        (try go_wp2_with fail); refine hK.out _ _ (hB) (fun hHeld => ?_); clear hK K; (try simp only [Act.put, List.setIfInBounds_toArray, List.set_cons_zero, List.set_cons_succ])
        refine wpAnyH_ready (rs := [8]) (by kernel_rfl) (by simp) ?_; refine AllReadyH.cons (o := ?_) ?_ (fun K hK => ?_) AllReadyH.nil; rotate_left 1; (next => simp only [List.getElem?_toArray, List.getElem?_cons_succ, List.getElem?_cons_zero]; rfl); go_simp
        have hB : Below u2.heap.size u2 (((v26.setCell ⟨v20.heap.size, 0, none⟩ (.int .i64 x0)).setCell ⟨v20.heap.size, 1, none⟩ (.int .i64 x1)).setCell ⟨v20.heap.size, 2, none⟩ (.bool x2)) := bl_set (bl_set (bl_set hB ge6 _) ge6 _) ge6 _
        have y_0 : (((v26.setCell ⟨v20.heap.size, 0, none⟩ (.int .i64 x0)).setCell ⟨v20.heap.size, 1, none⟩ (.int .i64 x1)).setCell ⟨v20.heap.size, 2, none⟩ (.bool x2)).cell? ⟨v20.heap.size, 0, none⟩ = some (.int .i64 x0) := by simp [go_sem, z6_0, z6_1, z6_2]
        have y_1 : (((v26.setCell ⟨v20.heap.size, 0, none⟩ (.int .i64 x0)).setCell ⟨v20.heap.size, 1, none⟩ (.int .i64 x1)).setCell ⟨v20.heap.size, 2, none⟩ (.bool x2)).cell? ⟨v20.heap.size, 1, none⟩ = some (.int .i64 x1) := by simp [go_sem, z6_0, z6_1, z6_2]
        have y_2 : (((v26.setCell ⟨v20.heap.size, 0, none⟩ (.int .i64 x0)).setCell ⟨v20.heap.size, 1, none⟩ (.int .i64 x1)).setCell ⟨v20.heap.size, 2, none⟩ (.bool x2)).cell? ⟨v20.heap.size, 2, none⟩ = some (.bool x2) := by simp [go_sem, z6_0, z6_1, z6_2]
        have z6_0 := y_0
        have z6_1 := y_1
        have z6_2 := y_2
        clear y_0 y_1 y_2
        have z7_0 := keep_far3 (x := .int .i64 x0) (y := .int .i64 x1) (z := .bool x2) z7_0 ne7_6
        have g7_0 : (((v26.setCell ⟨v20.heap.size, 0, none⟩ (.int .i64 x0)).setCell ⟨v20.heap.size, 1, none⟩ (.int .i64 x1)).setCell ⟨v20.heap.size, 2, none⟩ (.bool x2)).frozen? ⟨v1.heap.size, 0, none⟩ = false := by simp only [World.frozen?_setCell]; exact g7_0
        have z7_1 := keep_far3 (x := .int .i64 x0) (y := .int .i64 x1) (z := .bool x2) z7_1 ne7_6
        have g7_1 : (((v26.setCell ⟨v20.heap.size, 0, none⟩ (.int .i64 x0)).setCell ⟨v20.heap.size, 1, none⟩ (.int .i64 x1)).setCell ⟨v20.heap.size, 2, none⟩ (.bool x2)).frozen? ⟨v1.heap.size, 1, none⟩ = false := by simp only [World.frozen?_setCell]; exact g7_1
        have z7_2 := keep_far3 (x := .int .i64 x0) (y := .int .i64 x1) (z := .bool x2) z7_2 ne7_6
        have g7_2 : (((v26.setCell ⟨v20.heap.size, 0, none⟩ (.int .i64 x0)).setCell ⟨v20.heap.size, 1, none⟩ (.int .i64 x1)).setCell ⟨v20.heap.size, 2, none⟩ (.bool x2)).frozen? ⟨v1.heap.size, 2, none⟩ = false := by simp only [World.frozen?_setCell]; exact g7_2
        have l7 : v1.heap.size < (((v26.setCell ⟨v20.heap.size, 0, none⟩ (.int .i64 x0)).setCell ⟨v20.heap.size, 1, none⟩ (.int .i64 x1)).setCell ⟨v20.heap.size, 2, none⟩ (.bool x2)).heap.size := by simpa using l7
        have g6_0 : (((v26.setCell ⟨v20.heap.size, 0, none⟩ (.int .i64 x0)).setCell ⟨v20.heap.size, 1, none⟩ (.int .i64 x1)).setCell ⟨v20.heap.size, 2, none⟩ (.bool x2)).frozen? ⟨v20.heap.size, 0, none⟩ = false := by simp only [World.frozen?_setCell]; exact g6_0
        have g6_1 : (((v26.setCell ⟨v20.heap.size, 0, none⟩ (.int .i64 x0)).setCell ⟨v20.heap.size, 1, none⟩ (.int .i64 x1)).setCell ⟨v20.heap.size, 2, none⟩ (.bool x2)).frozen? ⟨v20.heap.size, 1, none⟩ = false := by simp only [World.frozen?_setCell]; exact g6_1
        have g6_2 : (((v26.setCell ⟨v20.heap.size, 0, none⟩ (.int .i64 x0)).setCell ⟨v20.heap.size, 1, none⟩ (.int .i64 x1)).setCell ⟨v20.heap.size, 2, none⟩ (.bool x2)).frozen? ⟨v20.heap.size, 2, none⟩ = false := by simp only [World.frozen?_setCell]; exact g6_2
        have l6 : v20.heap.size < (((v26.setCell ⟨v20.heap.size, 0, none⟩ (.int .i64 x0)).setCell ⟨v20.heap.size, 1, none⟩ (.int .i64 x1)).setCell ⟨v20.heap.size, 2, none⟩ (.bool x2)).heap.size := by simpa using l6
        obtain ⟨v27, hv_⟩ : ∃ v_, v_ = (((v26.setCell ⟨v20.heap.size, 0, none⟩ (.int .i64 x0)).setCell ⟨v20.heap.size, 1, none⟩ (.int .i64 x1)).setCell ⟨v20.heap.size, 2, none⟩ (.bool x2)) := ⟨_, rfl⟩
        rw [← hv_] at hB z6_0 z6_1 z6_2 z7_0 g7_0 z7_1 g7_1 z7_2 g7_2 l7 g6_0 g6_1 g6_2 l6 ⊢
        clear hv_
        (try go_wp2_with fail); refine hK.out _ _ (hB) (fun hHeld => ?_); clear hK K; (try simp only [Act.put, List.setIfInBounds_toArray, List.set_cons_zero, List.set_cons_succ])
        refine wpAnyH_ready (rs := [9]) (by kernel_rfl) (by simp) ?_; refine AllReadyH.cons (o := ?_) ?_ (fun K hK => ?_) AllReadyH.nil; rotate_left 1; (next => simp only [List.getElem?_toArray, List.getElem?_cons_succ, List.getElem?_cons_zero]; rfl); go_simp
        have hB : Below u2.heap.size u2 (((v27.setCell ⟨v1.heap.size, 0, none⟩ (.int .i64 y0)).setCell ⟨v1.heap.size, 1, none⟩ (.int .i64 y1)).setCell ⟨v1.heap.size, 2, none⟩ (.bool y2)) := bl_set (bl_set (bl_set hB ge7 _) ge7 _) ge7 _
        have y_0 : (((v27.setCell ⟨v1.heap.size, 0, none⟩ (.int .i64 y0)).setCell ⟨v1.heap.size, 1, none⟩ (.int .i64 y1)).setCell ⟨v1.heap.size, 2, none⟩ (.bool y2)).cell? ⟨v1.heap.size, 0, none⟩ = some (.int .i64 y0) := by simp [go_sem, z7_0, z7_1, z7_2]
        have y_1 : (((v27.setCell ⟨v1.heap.size, 0, none⟩ (.int .i64 y0)).setCell ⟨v1.heap.size, 1, none⟩ (.int .i64 y1)).setCell ⟨v1.heap.size, 2, none⟩ (.bool y2)).cell? ⟨v1.heap.size, 1, none⟩ = some (.int .i64 y1) := by simp [go_sem, z7_0, z7_1, z7_2]
        have y_2 : (((v27.setCell ⟨v1.heap.size, 0, none⟩ (.int .i64 y0)).setCell ⟨v1.heap.size, 1, none⟩ (.int .i64 y1)).setCell ⟨v1.heap.size, 2, none⟩ (.bool y2)).cell? ⟨v1.heap.size, 2, none⟩ = some (.bool y2) := by simp [go_sem, z7_0, z7_1, z7_2]
        have z7_0 := y_0
        have z7_1 := y_1
        have z7_2 := y_2
        clear y_0 y_1 y_2
        have g7_0 : (((v27.setCell ⟨v1.heap.size, 0, none⟩ (.int .i64 y0)).setCell ⟨v1.heap.size, 1, none⟩ (.int .i64 y1)).setCell ⟨v1.heap.size, 2, none⟩ (.bool y2)).frozen? ⟨v1.heap.size, 0, none⟩ = false := by simp only [World.frozen?_setCell]; exact g7_0
        have g7_1 : (((v27.setCell ⟨v1.heap.size, 0, none⟩ (.int .i64 y0)).setCell ⟨v1.heap.size, 1, none⟩ (.int .i64 y1)).setCell ⟨v1.heap.size, 2, none⟩ (.bool y2)).frozen? ⟨v1.heap.size, 1, none⟩ = false := by simp only [World.frozen?_setCell]; exact g7_1
        have g7_2 : (((v27.setCell ⟨v1.heap.size, 0, none⟩ (.int .i64 y0)).setCell ⟨v1.heap.size, 1, none⟩ (.int .i64 y1)).setCell ⟨v1.heap.size, 2, none⟩ (.bool y2)).frozen? ⟨v1.heap.size, 2, none⟩ = false := by simp only [World.frozen?_setCell]; exact g7_2
        have l7 : v1.heap.size < (((v27.setCell ⟨v1.heap.size, 0, none⟩ (.int .i64 y0)).setCell ⟨v1.heap.size, 1, none⟩ (.int .i64 y1)).setCell ⟨v1.heap.size, 2, none⟩ (.bool y2)).heap.size := by simpa using l7
        have z6_0 := keep_far3 (x := .int .i64 y0) (y := .int .i64 y1) (z := .bool y2) z6_0 ne7_6.symm
        have g6_0 : (((v27.setCell ⟨v1.heap.size, 0, none⟩ (.int .i64 y0)).setCell ⟨v1.heap.size, 1, none⟩ (.int .i64 y1)).setCell ⟨v1.heap.size, 2, none⟩ (.bool y2)).frozen? ⟨v20.heap.size, 0, none⟩ = false := by simp only [World.frozen?_setCell]; exact g6_0
        have z6_1 := keep_far3 (x := .int .i64 y0) (y := .int .i64 y1) (z := .bool y2) z6_1 ne7_6.symm
        have g6_1 : (((v27.setCell ⟨v1.heap.size, 0, none⟩ (.int .i64 y0)).setCell ⟨v1.heap.size, 1, none⟩ (.int .i64 y1)).setCell ⟨v1.heap.size, 2, none⟩ (.bool y2)).frozen? ⟨v20.heap.size, 1, none⟩ = false := by simp only [World.frozen?_setCell]; exact g6_1
        have z6_2 := keep_far3 (x := .int .i64 y0) (y := .int .i64 y1) (z := .bool y2) z6_2 ne7_6.symm
        have g6_2 : (((v27.setCell ⟨v1.heap.size, 0, none⟩ (.int .i64 y0)).setCell ⟨v1.heap.size, 1, none⟩ (.int .i64 y1)).setCell ⟨v1.heap.size, 2, none⟩ (.bool y2)).frozen? ⟨v20.heap.size, 2, none⟩ = false := by simp only [World.frozen?_setCell]; exact g6_2
        have l6 : v20.heap.size < (((v27.setCell ⟨v1.heap.size, 0, none⟩ (.int .i64 y0)).setCell ⟨v1.heap.size, 1, none⟩ (.int .i64 y1)).setCell ⟨v1.heap.size, 2, none⟩ (.bool y2)).heap.size := by simpa using l6
        obtain ⟨v28, hv_⟩ : ∃ v_, v_ = (((v27.setCell ⟨v1.heap.size, 0, none⟩ (.int .i64 y0)).setCell ⟨v1.heap.size, 1, none⟩ (.int .i64 y1)).setCell ⟨v1.heap.size, 2, none⟩ (.bool y2)) := ⟨_, rfl⟩
        rw [← hv_] at hB z7_0 z7_1 z7_2 g7_0 g7_1 g7_2 l7 z6_0 g6_0 z6_1 g6_1 z6_2 g6_2 l6 ⊢
        clear hv_
        (try go_wp2_with fail); refine hK.out _ _ (hB) (fun hHeld => ?_); clear hK K; (try simp only [Act.put, List.setIfInBounds_toArray, List.set_cons_zero, List.set_cons_succ])
        refine wpAnyH_done (by kernel_rfl) ?_ _
        (go_wp2_with fail; go_meet)
        exact ⟨_, _, rfl, rfl, z6_2, z7_1, z7_2, hB⟩
      refine AllReadyH.cons (o := ?_) ?_ (fun K hK => ?_) ?_; rotate_left 1; (next => simp only [List.getElem?_toArray, List.getElem?_cons_succ, List.getElem?_cons_zero]; rfl)
      · go_simp
        have ge6 : u2.heap.size ≤ u2.heap.size := Nat.le_refl _
        have hb := bl_drew (bl_alloc (bl_refl u2) (.cells #[.int .i64 0, .int .i64 0, .bool false] 164))
        have z6_0 : (u2.alloc (.cells #[.int .i64 0, .int .i64 0, .bool false] 164)).drew.cell? ⟨u2.heap.size, 0, none⟩ = some (.int .i64 0) := by simp [go_sem]
        have z6_1 : (u2.alloc (.cells #[.int .i64 0, .int .i64 0, .bool false] 164)).drew.cell? ⟨u2.heap.size, 1, none⟩ = some (.int .i64 0) := by simp [go_sem]
        have z6_2 : (u2.alloc (.cells #[.int .i64 0, .int .i64 0, .bool false] 164)).drew.cell? ⟨u2.heap.size, 2, none⟩ = some (.bool false) := by simp [go_sem]
        have g6_0 : (u2.alloc (.cells #[.int .i64 0, .int .i64 0, .bool false] 164)).drew.frozen? ⟨u2.heap.size, 0, none⟩ = false := by simp [go_sem]
        have g6_1 : (u2.alloc (.cells #[.int .i64 0, .int .i64 0, .bool false] 164)).drew.frozen? ⟨u2.heap.size, 1, none⟩ = false := by simp [go_sem]
        have g6_2 : (u2.alloc (.cells #[.int .i64 0, .int .i64 0, .bool false] 164)).drew.frozen? ⟨u2.heap.size, 2, none⟩ = false := by simp [go_sem]
        have l6 : u2.heap.size < (u2.alloc (.cells #[.int .i64 0, .int .i64 0, .bool false] 164)).drew.heap.size := by simp
        obtain ⟨v29, hv_⟩ : ∃ v_, v_ = (u2.alloc (.cells #[.int .i64 0, .int .i64 0, .bool false] 164)).drew := ⟨_, rfl⟩
        rw [← hv_] at hb z6_0 z6_1 z6_2 g6_0 g6_1 g6_2 l6 ⊢
        clear hv_
        have hB : Below u2.heap.size u2 v29 := hb
        clear hb
        (try go_wp2_with fail); refine hK.out _ _ (hB) (fun hHeld => ?_); clear hK K; (try simp only [Act.put, List.setIfInBounds_toArray, List.set_cons_zero, List.set_cons_succ])
        refine wpAnyH_ready (rs := [2, 7]) (by kernel_rfl) (by simp) ?_
        refine AllReadyH.cons (o := ?_) ?_ (fun K hK => ?_) ?_; rotate_left 1; (next => simp only [List.getElem?_toArray, List.getElem?_cons_succ, List.getElem?_cons_zero]; rfl)
        · go_simp
          (go_at_call 146; (with_reducible refine (HPA.out _ (bl_call (by repeat' (first | with_reducible assumption | with_reducible refine bl_alloc ?_ _ | with_reducible refine bl_drew ?_)) HBW) _ _ _).mono ?_); rintro e v30 ⟨rfl, hb⟩)
          have hB : Below u2.heap.size u2 v30 := bl_call hb hB
          have z6_0 := keep_cell hb z6_0
          have z6_1 := keep_cell hb z6_1
          have z6_2 := keep_cell hb z6_2
          have g6_0 := (hb.frozen (p := ⟨u2.heap.size, 0, none⟩) l6).trans g6_0
          have g6_1 := (hb.frozen (p := ⟨u2.heap.size, 1, none⟩) l6).trans g6_1
          have g6_2 := (hb.frozen (p := ⟨u2.heap.size, 2, none⟩) l6).trans g6_2
          have l6 := Nat.lt_of_lt_of_le l6 hb.size
          clear hb
          (try go_wp2_with fail); refine hK.out _ _ (hB) (fun hHeld => ?_); clear hK K; (try simp only [Act.put, List.setIfInBounds_toArray, List.set_cons_zero, List.set_cons_succ])
          refine wpAnyH_ready (rs := [5, 7]) (by kernel_rfl) (by simp) ?_
          refine AllReadyH.cons (o := ?_) ?_ (fun K hK => ?_) ?_; rotate_left 1; (next => simp only [List.getElem?_toArray, List.getElem?_cons_succ, List.getElem?_cons_zero]; rfl)
          · go_simp
            (go_at_call 146; (with_reducible refine (HPB.out _ (bl_call (by repeat' (first | with_reducible assumption | with_reducible refine bl_alloc ?_ _ | with_reducible refine bl_drew ?_)) HBW) _ _ _).mono ?_); rintro e v31 ⟨rfl, hb⟩)
            have hB : Below u2.heap.size u2 v31 := bl_call hb hB
            have z6_0 := keep_cell hb z6_0
            have z6_1 := keep_cell hb z6_1
            have z6_2 := keep_cell hb z6_2
            have g6_0 := (hb.frozen (p := ⟨u2.heap.size, 0, none⟩) l6).trans g6_0
            have g6_1 := (hb.frozen (p := ⟨u2.heap.size, 1, none⟩) l6).trans g6_1
            have g6_2 := (hb.frozen (p := ⟨u2.heap.size, 2, none⟩) l6).trans g6_2
            have l6 := Nat.lt_of_lt_of_le l6 hb.size
            clear hb
            (try go_wp2_with fail); refine hK.out _ _ (hB) (fun hHeld => ?_); clear hK K; (try simp only [Act.put, List.setIfInBounds_toArray, List.set_cons_zero, List.set_cons_succ])
            refine wpAnyH_ready (rs := [7]) (by kernel_rfl) (by simp) ?_; refine AllReadyH.cons (o := ?_) ?_ (fun K hK => ?_) AllReadyH.nil; rotate_left 1; (next => simp only [List.getElem?_toArray, List.getElem?_cons_succ, List.getElem?_cons_zero]; rfl); go_simp
            have ge7 : u2.heap.size ≤ v31.heap.size := hB.size
            have ne6_7 : u2.heap.size ≠ v31.heap.size := Nat.ne_of_lt l6
            have hb := bl_alloc (bl_refl v31) (.cells #[.int .i64 0, .int .i64 0, .bool false] 164)
            have z6_0 := keep_cell hb z6_0
            have z6_1 := keep_cell hb z6_1
            have z6_2 := keep_cell hb z6_2
            have g6_0 := (hb.frozen (p := ⟨u2.heap.size, 0, none⟩) l6).trans g6_0
            have g6_1 := (hb.frozen (p := ⟨u2.heap.size, 1, none⟩) l6).trans g6_1
            have g6_2 := (hb.frozen (p := ⟨u2.heap.size, 2, none⟩) l6).trans g6_2
            have l6 := Nat.lt_of_lt_of_le l6 hb.size
            have z7_0 : (v31.alloc (.cells #[.int .i64 0, .int .i64 0, .bool false] 164)).cell? ⟨v31.heap.size, 0, none⟩ = some (.int .i64 0) := by simp [go_sem]
            have z7_1 : (v31.alloc (.cells #[.int .i64 0, .int .i64 0, .bool false] 164)).cell? ⟨v31.heap.size, 1, none⟩ = some (.int .i64 0) := by simp [go_sem]
            have z7_2 : (v31.alloc (.cells #[.int .i64 0, .int .i64 0, .bool false] 164)).cell? ⟨v31.heap.size, 2, none⟩ = some (.bool false) := by simp [go_sem]
            have g7_0 : (v31.alloc (.cells #[.int .i64 0, .int .i64 0, .bool false] 164)).frozen? ⟨v31.heap.size, 0, none⟩ = false := by simp [go_sem]
            have g7_1 : (v31.alloc (.cells #[.int .i64 0, .int .i64 0, .bool false] 164)).frozen? ⟨v31.heap.size, 1, none⟩ = false := by simp [go_sem]
            have g7_2 : (v31.alloc (.cells #[.int .i64 0, .int .i64 0, .bool false] 164)).frozen? ⟨v31.heap.size, 2, none⟩ = false := by simp [go_sem]
            have l7 : v31.heap.size < (v31.alloc (.cells #[.int .i64 0, .int .i64 0, .bool false] 164)).heap.size := by simp
            obtain ⟨v32, hv_⟩ : ∃ v_, v_ = (v31.alloc (.cells #[.int .i64 0, .int .i64 0, .bool false] 164)) := ⟨_, rfl⟩
            rw [← hv_] at hb z6_0 g6_0 z6_1 g6_1 z6_2 g6_2 l6 z7_0 z7_1 z7_2 g7_0 g7_1 g7_2 l7 ⊢
            clear hv_
            have hB : Below u2.heap.size u2 v32 := bl_call hb hB
            clear hb
            (try go_wp2_with fail); refine hK.out _ _ (hB) (fun hHeld => ?_); clear hK K; (try simp only [Act.put, List.setIfInBounds_toArray, List.set_cons_zero, List.set_cons_succ])
            refine wpAnyH_ready (rs := [8]) (by kernel_rfl) (by simp) ?_; refine AllReadyH.cons (o := ?_) ?_ (fun K hK => ?_) AllReadyH.nil; rotate_left 1; (next => simp only [List.getElem?_toArray, List.getElem?_cons_succ, List.getElem?_cons_zero]; rfl); go_simp
            have hB : Below u2.heap.size u2 (((v32.setCell ⟨u2.heap.size, 0, none⟩ (.int .i64 x0)).setCell ⟨u2.heap.size, 1, none⟩ (.int .i64 x1)).setCell ⟨u2.heap.size, 2, none⟩ (.bool x2)) := bl_set (bl_set (bl_set hB ge6 _) ge6 _) ge6 _
            have y_0 : (((v32.setCell ⟨u2.heap.size, 0, none⟩ (.int .i64 x0)).setCell ⟨u2.heap.size, 1, none⟩ (.int .i64 x1)).setCell ⟨u2.heap.size, 2, none⟩ (.bool x2)).cell? ⟨u2.heap.size, 0, none⟩ = some (.int .i64 x0) := by simp [go_sem, z6_0, z6_1, z6_2]
            have y_1 : (((v32.setCell ⟨u2.heap.size, 0, none⟩ (.int .i64 x0)).setCell ⟨u2.heap.size, 1, none⟩ (.int .i64 x1)).setCell ⟨u2.heap.size, 2, none⟩ (.bool x2)).cell? ⟨u2.heap.size, 1, none⟩ = some (.int .i64 x1) := by simp [go_sem, z6_0, z6_1, z6_2]
            have y_2 : (((v32.setCell ⟨u2.heap.size, 0, none⟩ (.int .i64 x0)).setCell ⟨u2.heap.size, 1, none⟩ (.int .i64 x1)).setCell ⟨u2.heap.size, 2, none⟩ (.bool x2)).cell? ⟨u2.heap.size, 2, none⟩ = some (.bool x2) := by simp [go_sem, z6_0, z6_1, z6_2]
            have z6_0 := y_0
            have z6_1 := y_1
            have z6_2 := y_2
            clear y_0 y_1 y_2
            have g6_0 : (((v32.setCell ⟨u2.heap.size, 0, none⟩ (.int .i64 x0)).setCell ⟨u2.heap.size, 1, none⟩ (.int .i64 x1)).setCell ⟨u2.heap.size, 2, none⟩ (.bool x2)).frozen? ⟨u2.heap.size, 0, none⟩ = false := by simp only [World.frozen?_setCell]; exact g6_0
            have g6_1 : (((v32.setCell ⟨u2.heap.size, 0, none⟩ (.int .i64 x0)).setCell ⟨u2.heap.size, 1, none⟩ (.int .i64 x1)).setCell ⟨u2.heap.size, 2, none⟩ (.bool x2)).frozen? ⟨u2.heap.size, 1, none⟩ = false := by simp only [World.frozen?_setCell]; exact g6_1
            have g6_2 : (((v32.setCell ⟨u2.heap.size, 0, none⟩ (.int .i64 x0)).setCell ⟨u2.heap.size, 1, none⟩ (.int .i64 x1)).setCell ⟨u2.heap.size, 2, none⟩ (.bool x2)).frozen? ⟨u2.heap.size, 2, none⟩ = false := by simp only [World.frozen?_setCell]; exact g6_2
            have l6 : u2.heap.size < (((v32.setCell ⟨u2.heap.size, 0, none⟩ (.int .i64 x0)).setCell ⟨u2.heap.size, 1, none⟩ (.int .i64 x1)).setCell ⟨u2.heap.size, 2, none⟩ (.bool x2)).heap.size := by simpa using l6
            have z7_0 := keep_far3 (x := .int .i64 x0) (y := .int .i64 x1) (z := .bool x2) z7_0 ne6_7.symm
            have g7_0 : (((v32.setCell ⟨u2.heap.size, 0, none⟩ (.int .i64 x0)).setCell ⟨u2.heap.size, 1, none⟩ (.int .i64 x1)).setCell ⟨u2.heap.size, 2, none⟩ (.bool x2)).frozen? ⟨v31.heap.size, 0, none⟩ = false := by simp only [World.frozen?_setCell]; exact g7_0
            have z7_1 := keep_far3 (x := .int .i64 x0) (y := .int .i64 x1) (z := .bool x2) z7_1 ne6_7.symm
            have g7_1 : (((v32.setCell ⟨u2.heap.size, 0, none⟩ (.int .i64 x0)).setCell ⟨u2.heap.size, 1, none⟩ (.int .i64 x1)).setCell ⟨u2.heap.size, 2, none⟩ (.bool x2)).frozen? ⟨v31.heap.size, 1, none⟩ = false := by simp only [World.frozen?_setCell]; exact g7_1
            have z7_2 := keep_far3 (x := .int .i64 x0) (y := .int .i64 x1) (z := .bool x2) z7_2 ne6_7.symm
            have g7_2 : (((v32.setCell ⟨u2.heap.size, 0, none⟩ (.int .i64 x0)).setCell ⟨u2.heap.size, 1, none⟩ (.int .i64 x1)).setCell ⟨u2.heap.size, 2, none⟩ (.bool x2)).frozen? ⟨v31.heap.size, 2, none⟩ = false := by simp only [World.frozen?_setCell]; exact g7_2
            have l7 : v31.heap.size < (((v32.setCell ⟨u2.heap.size, 0, none⟩ (.int .i64 x0)).setCell ⟨u2.heap.size, 1, none⟩ (.int .i64 x1)).setCell ⟨u2.heap.size, 2, none⟩ (.bool x2)).heap.size := by simpa using l7
            obtain ⟨v33, hv_⟩ : ∃ v_, v_ = (((v32.setCell ⟨u2.heap.size, 0, none⟩ (.int .i64 x0)).setCell ⟨u2.heap.size, 1, none⟩ (.int .i64 x1)).setCell ⟨u2.heap.size, 2, none⟩ (.bool x2)) := ⟨_, rfl⟩
            rw [← hv_] at hB z6_0 z6_1 z6_2 g6_0 g6_1 g6_2 l6 z7_0 g7_0 z7_1 g7_1 z7_2 g7_2 l7 ⊢
            clear hv_
            (try go_wp2_with fail); refine hK.out _ _ (hB) (fun hHeld => ?_); clear hK K; (try simp only [Act.put, List.setIfInBounds_toArray, List.set_cons_zero, List.set_cons_succ])
            refine wpAnyH_ready (rs := [9]) (by kernel_rfl) (by simp) ?_; refine AllReadyH.cons (o := ?_) ?_ (fun K hK => ?_) AllReadyH.nil; rotate_left 1; (next => simp only [List.getElem?_toArray, List.getElem?_cons_succ, List.getElem?_cons_zero]; rfl); go_simp
            have hB : Below u2.heap.size u2 (((v33.setCell ⟨v31.heap.size, 0, none⟩ (.int .i64 y0)).setCell ⟨v31.heap.size, 1, none⟩ (.int .i64 y1)).setCell ⟨v31.heap.size, 2, none⟩ (.bool y2)) := bl_set (bl_set (bl_set hB ge7 _) ge7 _) ge7 _
            have y_0 : (((v33.setCell ⟨v31.heap.size, 0, none⟩ (.int .i64 y0)).setCell ⟨v31.heap.size, 1, none⟩ (.int .i64 y1)).setCell ⟨v31.heap.size, 2, none⟩ (.bool y2)).cell? ⟨v31.heap.size, 0, none⟩ = some (.int .i64 y0) := by simp [go_sem, z7_0, z7_1, z7_2]
            have y_1 : (((v33.setCell ⟨v31.heap.size, 0, none⟩ (.int .i64 y0)).setCell ⟨v31.heap.size, 1, none⟩ (.int .i64 y1)).setCell ⟨v31.heap.size, 2, none⟩ (.bool y2)).cell? ⟨v31.heap.size, 1, none⟩ = some (.int .i64 y1) := by simp [go_sem, z7_0, z7_1, z7_2]
            have y_2 : (((v33.setCell ⟨v31.heap.size, 0, none⟩ (.int .i64 y0)).setCell ⟨v31.heap.size, 1, none⟩ (.int .i64 y1)).setCell ⟨v31.heap.size, 2, none⟩ (.bool y2)).cell? ⟨v31.heap.size, 2, none⟩ = some (.bool y2) := by simp [go_sem, z7_0, z7_1, z7_2]
            have z7_0 := y_0
            have z7_1 := y_1
            have z7_2 := y_2
            clear y_0 y_1 y_2
            have z6_0 := keep_far3 (x := .int .i64 y0) (y := .int .i64 y1) (z := .bool y2) z6_0 ne6_7
            have g6_0 : (((v33.setCell ⟨v31.heap.size, 0, none⟩ (.int .i64 y0)).setCell ⟨v31.heap.size, 1, none⟩ (.int .i64 y1)).setCell ⟨v31.heap.size, 2, none⟩ (.bool y2)).frozen? ⟨u2.heap.size, 0, none⟩ = false := by simp only [World.frozen?_setCell]; exact g6_0
            have z6_1 := keep_far3 (x := .int .i64 y0) (y := .int .i64 y1) (z := .bool y2) z6_1 ne6_7
            have g6_1 : (((v33.setCell ⟨v31.heap.size, 0, none⟩ (.int .i64 y0)).setCell ⟨v31.heap.size, 1, none⟩ (.int .i64 y1)).setCell ⟨v31.heap.size, 2, none⟩ (.bool y2)).frozen? ⟨u2.heap.size, 1, none⟩ = false := by simp only [World.frozen?_setCell]; exact g6_1
            have z6_2 := keep_far3 (x := .int .i64 y0) (y := .int .i64 y1) (z := .bool y2) z6_2 ne6_7
            have g6_2 : (((v33.setCell ⟨v31.heap.size, 0, none⟩ (.int .i64 y0)).setCell ⟨v31.heap.size, 1, none⟩ (.int .i64 y1)).setCell ⟨v31.heap.size, 2, none⟩ (.bool y2)).frozen? ⟨u2.heap.size, 2, none⟩ = false := by simp only [World.frozen?_setCell]; exact g6_2
            have l6 : u2.heap.size < (((v33.setCell ⟨v31.heap.size, 0, none⟩ (.int .i64 y0)).setCell ⟨v31.heap.size, 1, none⟩ (.int .i64 y1)).setCell ⟨v31.heap.size, 2, none⟩ (.bool y2)).heap.size := by simpa using l6
            have g7_0 : (((v33.setCell ⟨v31.heap.size, 0, none⟩ (.int .i64 y0)).setCell ⟨v31.heap.size, 1, none⟩ (.int .i64 y1)).setCell ⟨v31.heap.size, 2, none⟩ (.bool y2)).frozen? ⟨v31.heap.size, 0, none⟩ = false := by simp only [World.frozen?_setCell]; exact g7_0
            have g7_1 : (((v33.setCell ⟨v31.heap.size, 0, none⟩ (.int .i64 y0)).setCell ⟨v31.heap.size, 1, none⟩ (.int .i64 y1)).setCell ⟨v31.heap.size, 2, none⟩ (.bool y2)).frozen? ⟨v31.heap.size, 1, none⟩ = false := by simp only [World.frozen?_setCell]; exact g7_1
            have g7_2 : (((v33.setCell ⟨v31.heap.size, 0, none⟩ (.int .i64 y0)).setCell ⟨v31.heap.size, 1, none⟩ (.int .i64 y1)).setCell ⟨v31.heap.size, 2, none⟩ (.bool y2)).frozen? ⟨v31.heap.size, 2, none⟩ = false := by simp only [World.frozen?_setCell]; exact g7_2
            have l7 : v31.heap.size < (((v33.setCell ⟨v31.heap.size, 0, none⟩ (.int .i64 y0)).setCell ⟨v31.heap.size, 1, none⟩ (.int .i64 y1)).setCell ⟨v31.heap.size, 2, none⟩ (.bool y2)).heap.size := by simpa using l7
            obtain ⟨v34, hv_⟩ : ∃ v_, v_ = (((v33.setCell ⟨v31.heap.size, 0, none⟩ (.int .i64 y0)).setCell ⟨v31.heap.size, 1, none⟩ (.int .i64 y1)).setCell ⟨v31.heap.size, 2, none⟩ (.bool y2)) := ⟨_, rfl⟩
            rw [← hv_] at hB z7_0 z7_1 z7_2 z6_0 g6_0 z6_1 g6_1 z6_2 g6_2 l6 g7_0 g7_1 g7_2 l7 ⊢
            clear hv_
            (try go_wp2_with fail); refine hK.out _ _ (hB) (fun hHeld => ?_); clear hK K; (try simp only [Act.put, List.setIfInBounds_toArray, List.set_cons_zero, List.set_cons_succ])
            refine wpAnyH_done (by kernel_rfl) ?_ _
            (go_wp2_with fail; go_meet)
            exact ⟨_, _, rfl, rfl, z6_2, z7_1, z7_2, hB⟩
          refine AllReadyH.cons (o := ?_) ?_ (fun K hK => ?_) AllReadyH.nil; rotate_left 1; (next => simp only [List.getElem?_toArray, List.getElem?_cons_succ, List.getElem?_cons_zero]; rfl)
          go_simp
          have ge7 : u2.heap.size ≤ v30.heap.size := hB.size
          have ne6_7 : u2.heap.size ≠ v30.heap.size := Nat.ne_of_lt l6
          have hb := bl_alloc (bl_refl v30) (.cells #[.int .i64 0, .int .i64 0, .bool false] 164)
          have z6_0 := keep_cell hb z6_0
          have z6_1 := keep_cell hb z6_1
          have z6_2 := keep_cell hb z6_2
          have g6_0 := (hb.frozen (p := ⟨u2.heap.size, 0, none⟩) l6).trans g6_0
          have g6_1 := (hb.frozen (p := ⟨u2.heap.size, 1, none⟩) l6).trans g6_1
          have g6_2 := (hb.frozen (p := ⟨u2.heap.size, 2, none⟩) l6).trans g6_2
          have l6 := Nat.lt_of_lt_of_le l6 hb.size
          have z7_0 : (v30.alloc (.cells #[.int .i64 0, .int .i64 0, .bool false] 164)).cell? ⟨v30.heap.size, 0, none⟩ = some (.int .i64 0) := by simp [go_sem]
          have z7_1 : (v30.alloc (.cells #[.int .i64 0, .int .i64 0, .bool false] 164)).cell? ⟨v30.heap.size, 1, none⟩ = some (.int .i64 0) := by simp [go_sem]
          have z7_2 : (v30.alloc (.cells #[.int .i64 0, .int .i64 0, .bool false] 164)).cell? ⟨v30.heap.size, 2, none⟩ = some (.bool false) := by simp [go_sem]
          have g7_0 : (v30.alloc (.cells #[.int .i64 0, .int .i64 0, .bool false] 164)).frozen? ⟨v30.heap.size, 0, none⟩ = false := by simp [go_sem]
          have g7_1 : (v30.alloc (.cells #[.int .i64 0, .int .i64 0, .bool false] 164)).frozen? ⟨v30.heap.size, 1, none⟩ = false := by simp [go_sem]
          have g7_2 : (v30.alloc (.cells #[.int .i64 0, .int .i64 0, .bool false] 164)).frozen? ⟨v30.heap.size, 2, none⟩ = false := by simp [go_sem]
          have l7 : v30.heap.size < (v30.alloc (.cells #[.int .i64 0, .int .i64 0, .bool false] 164)).heap.size := by simp
          obtain ⟨v35, hv_⟩ : ∃ v_, v_ = (v30.alloc (.cells #[.int .i64 0, .int .i64 0, .bool false] 164)) := ⟨_, rfl⟩
          rw [← hv_] at hb z6_0 g6_0 z6_1 g6_1 z6_2 g6_2 l6 z7_0 z7_1 z7_2 g7_0 g7_1 g7_2 l7 ⊢
          clear hv_
          have hB : Below u2.heap.size u2 v35 := bl_call hb hB
          clear hb
          (try go_wp2_with fail); refine hK.out _ _ (hB) (fun hHeld => ?_); clear hK K; (try simp only [Act.put, List.setIfInBounds_toArray, List.set_cons_zero, List.set_cons_succ])
          refine wpAnyH_ready (rs := [5]) (by kernel_rfl) (by simp) ?_; refine AllReadyH.cons (o := ?_) ?_ (fun K hK => ?_) AllReadyH.nil; rotate_left 1; (next => simp only [List.getElem?_toArray, List.getElem?_cons_succ, List.getElem?_cons_zero]; rfl); go_simp
          (go_at_call 146; (with_reducible refine (HPB.out _ (bl_call (by repeat' (first | with_reducible assumption | with_reducible refine bl_alloc ?_ _ | with_reducible refine bl_drew ?_)) HBW) _ _ _).mono ?_); rintro e v36 ⟨rfl, hb⟩)
          have hB : Below u2.heap.size u2 v36 := bl_call hb hB
          have z6_0 := keep_cell hb z6_0
          have z6_1 := keep_cell hb z6_1
          have z6_2 := keep_cell hb z6_2
          have g6_0 := (hb.frozen (p := ⟨u2.heap.size, 0, none⟩) l6).trans g6_0
          have g6_1 := (hb.frozen (p := ⟨u2.heap.size, 1, none⟩) l6).trans g6_1
          have g6_2 := (hb.frozen (p := ⟨u2.heap.size, 2, none⟩) l6).trans g6_2
          have l6 := Nat.lt_of_lt_of_le l6 hb.size
          have z7_0 := keep_cell hb z7_0
          have z7_1 := keep_cell hb z7_1
          have z7_2 := keep_cell hb z7_2
          have g7_0 := (hb.frozen (p := ⟨v30.heap.size, 0, none⟩) l7).trans g7_0
          have g7_1 := (hb.frozen (p := ⟨v30.heap.size, 1, none⟩) l7).trans g7_1
          have g7_2 := (hb.frozen (p := ⟨v30.heap.size, 2, none⟩) l7).trans g7_2
          have l7 := Nat.lt_of_lt_of_le l7 hb.size
          clear hb
          (try go_wp2_with fail); refine hK.out _ _ (hB) (fun hHeld => ?_); clear hK K; (try simp only [Act.put, List.setIfInBounds_toArray, List.set_cons_zero, List.set_cons_succ])
          refine wpAnyH_ready (rs := [8]) (by kernel_rfl) (by simp) ?_; refine AllReadyH.cons (o := ?_) ?_ (fun K hK => ?_) AllReadyH.nil; rotate_left 1; (next => simp only [List.getElem?_toArray, List.getElem?_cons_succ, List.getElem?_cons_zero]; rfl); go_simp
          have hB : Below u2.heap.size u2 (((v36.setCell ⟨u2.heap.size, 0, none⟩ (.int .i64 x0)).setCell ⟨u2.heap.size, 1, none⟩ (.int .i64 x1)).setCell ⟨u2.heap.size, 2, none⟩ (.bool x2)) := bl_set (bl_set (bl_set hB ge6 _) ge6 _) ge6 _
          have y_0 : (((v36.setCell ⟨u2.heap.size, 0, none⟩ (.int .i64 x0)).setCell ⟨u2.heap.size, 1, none⟩ (.int .i64 x1)).setCell ⟨u2.heap.size, 2, none⟩ (.bool x2)).cell? ⟨u2.heap.size, 0, none⟩ = some (.int .i64 x0) := by simp [go_sem, z6_0, z6_1, z6_2]
          have y_1 : (((v36.setCell ⟨u2.heap.size, 0, none⟩ (.int .i64 x0)).setCell ⟨u2.heap.size, 1, none⟩ (.int .i64 x1)).setCell ⟨u2.heap.size, 2, none⟩ (.bool x2)).cell? ⟨u2.heap.size, 1, none⟩ = some (.int .i64 x1) := by simp [go_sem, z6_0, z6_1, z6_2]
          have y_2 : (((v36.setCell ⟨u2.heap.size, 0, none⟩ (.int .i64 x0)).setCell ⟨u2.heap.size, 1, none⟩ (.int .i64 x1)).setCell ⟨u2.heap.size, 2, none⟩ (.bool x2)).cell? ⟨u2.heap.size, 2, none⟩ = some (.bool x2) := by simp [go_sem, z6_0, z6_1, z6_2]
          have z6_0 := y_0
          have z6_1 := y_1
          have z6_2 := y_2
          clear y_0 y_1 y_2
          have g6_0 : (((v36.setCell ⟨u2.heap.size, 0, none⟩ (.int .i64 x0)).setCell ⟨u2.heap.size, 1, none⟩ (.int .i64 x1)).setCell ⟨u2.heap.size, 2, none⟩ (.bool x2)).frozen? ⟨u2.heap.size, 0, none⟩ = false := by simp only [World.frozen?_setCell]; exact g6_0
          have g6_1 : (((v36.setCell ⟨u2.heap.size, 0, none⟩ (.int .i64 x0)).setCell ⟨u2.heap.size, 1, none⟩ (.int .i64 x1)).setCell ⟨u2.heap.size, 2, none⟩ (.bool x2)).frozen? ⟨u2.heap.size, 1, none⟩ = false := by simp only [World.frozen?_setCell]; exact g6_1
          have g6_2 : (((v36.setCell ⟨u2.heap.size, 0, none⟩ (.int .i64 x0)).setCell ⟨u2.heap.size, 1, none⟩ (.int .i64 x1)).setCell ⟨u2.heap.size, 2, none⟩ (.bool x2)).frozen? ⟨u2.heap.size, 2, none⟩ = false := by simp only [World.frozen?_setCell]; exact g6_2
          have l6 : u2.heap.size < (((v36.setCell ⟨u2.heap.size, 0, none⟩ (.int .i64 x0)).setCell ⟨u2.heap.size, 1, none⟩ (.int .i64 x1)).setCell ⟨u2.heap.size, 2, none⟩ (.bool x2)).heap.size := by simpa using l6
          have z7_0 := keep_far3 (x := .int .i64 x0) (y := .int .i64 x1) (z := .bool x2) z7_0 ne6_7.symm
          have g7_0 : (((v36.setCell ⟨u2.heap.size, 0, none⟩ (.int .i64 x0)).setCell ⟨u2.heap.size, 1, none⟩ (.int .i64 x1)).setCell ⟨u2.heap.size, 2, none⟩ (.bool x2)).frozen? ⟨v30.heap.size, 0, none⟩ = false := by simp only [World.frozen?_setCell]; exact g7_0
          have z7_1 := keep_far3 (x := .int .i64 x0) (y := .int .i64 x1) (z := .bool x2) z7_1 ne6_7.symm
          have g7_1 : (((v36.setCell ⟨u2.heap.size, 0, none⟩ (.int .i64 x0)).setCell ⟨u2.heap.size, 1, none⟩ (.int .i64 x1)).setCell ⟨u2.heap.size, 2, none⟩ (.bool x2)).frozen? ⟨v30.heap.size, 1, none⟩ = false := by simp only [World.frozen?_setCell]; exact g7_1
          have z7_2 := keep_far3 (x := .int .i64 x0) (y := .int .i64 x1) (z := .bool x2) z7_2 ne6_7.symm
          have g7_2 : (((v36.setCell ⟨u2.heap.size, 0, none⟩ (.int .i64 x0)).setCell ⟨u2.heap.size, 1, none⟩ (.int .i64 x1)).setCell ⟨u2.heap.size, 2, none⟩ (.bool x2)).frozen? ⟨v30.heap.size, 2, none⟩ = false := by simp only [World.frozen?_setCell]; exact g7_2
          have l7 : v30.heap.size < (((v36.setCell ⟨u2.heap.size, 0, none⟩ (.int .i64 x0)).setCell ⟨u2.heap.size, 1, none⟩ (.int .i64 x1)).setCell ⟨u2.heap.size, 2, none⟩ (.bool x2)).heap.size := by simpa using l7
          obtain ⟨v37, hv_⟩ : ∃ v_, v_ = (((v36.setCell ⟨u2.heap.size, 0, none⟩ (.int .i64 x0)).setCell ⟨u2.heap.size, 1, none⟩ (.int .i64 x1)).setCell ⟨u2.heap.size, 2, none⟩ (.bool x2)) := ⟨_, rfl⟩
          rw [← hv_] at hB z6_0 z6_1 z6_2 g6_0 g6_1 g6_2 l6 z7_0 g7_0 z7_1 g7_1 z7_2 g7_2 l7 ⊢
          clear hv_
          (try go_wp2_with fail); refine hK.out _ _ (hB) (fun hHeld => ?_); clear hK K; (try simp only [Act.put, List.setIfInBounds_toArray, List.set_cons_zero, List.set_cons_succ])
          refine wpAnyH_ready (rs := [9]) (by kernel_rfl) (by simp) ?_; refine AllReadyH.cons (o := ?_) ?_ (fun K hK => ?_) AllReadyH.nil; rotate_left 1; (next => simp only [List.getElem?_toArray, List.getElem?_cons_succ, List.getElem?_cons_zero]; rfl); go_simp
          have hB : Below u2.heap.size u2 (((v37.setCell ⟨v30.heap.size, 0, none⟩ (.int .i64 y0)).setCell ⟨v30.heap.size, 1, none⟩ (.int .i64 y1)).setCell ⟨v30.heap.size, 2, none⟩ (.bool y2)) := bl_set (bl_set (bl_set hB ge7 _) ge7 _) ge7 _
          have y_0 : (((v37.setCell ⟨v30.heap.size, 0, none⟩ (.int .i64 y0)).setCell ⟨v30.heap.size, 1, none⟩ (.int .i64 y1)).setCell ⟨v30.heap.size, 2, none⟩ (.bool y2)).cell? ⟨v30.heap.size, 0, none⟩ = some (.int .i64 y0) := by simp [go_sem, z7_0, z7_1, z7_2]
          have y_1 : (((v37.setCell ⟨v30.heap.size, 0, none⟩ (.int .i64 y0)).setCell ⟨v30.heap.size, 1, none⟩ (.int .i64 y1)).setCell ⟨v30.heap.size, 2, none⟩ (.bool y2)).cell? ⟨v30.heap.size, 1, none⟩ = some (.int .i64 y1) := by simp [go_sem, z7_0, z7_1, z7_2]
          have y_2 : (((v37.setCell ⟨v30.heap.size, 0, none⟩ (.int .i64 y0)).setCell ⟨v30.heap.size, 1, none⟩ (.int .i64 y1)).setCell ⟨v30.heap.size, 2, none⟩ (.bool y2)).cell? ⟨v30.heap.size, 2, none⟩ = some (.bool y2) := by simp [go_sem, z7_0, z7_1, z7_2]
          have z7_0 := y_0
          have z7_1 := y_1
          have z7_2 := y_2
          clear y_0 y_1 y_2
          have z6_0 := keep_far3 (x := .int .i64 y0) (y := .int .i64 y1) (z := .bool y2) z6_0 ne6_7
          have g6_0 : (((v37.setCell ⟨v30.heap.size, 0, none⟩ (.int .i64 y0)).setCell ⟨v30.heap.size, 1, none⟩ (.int .i64 y1)).setCell ⟨v30.heap.size, 2, none⟩ (.bool y2)).frozen? ⟨u2.heap.size, 0, none⟩ = false := by simp only [World.frozen?_setCell]; exact g6_0
          have z6_1 := keep_far3 (x := .int .i64 y0) (y := .int .i64 y1) (z := .bool y2) z6_1 ne6_7
          have g6_1 : (((v37.setCell ⟨v30.heap.size, 0, none⟩ (.int .i64 y0)).setCell ⟨v30.heap.size, 1, none⟩ (.int .i64 y1)).setCell ⟨v30.heap.size, 2, none⟩ (.bool y2)).frozen? ⟨u2.heap.size, 1, none⟩ = false := by simp only [World.frozen?_setCell]; exact g6_1
          have z6_2 := keep_far3 (x := .int .i64 y0) (y := .int .i64 y1) (z := .bool y2) z6_2 ne6_7
          have g6_2 : (((v37.setCell ⟨v30.heap.size, 0, none⟩ (.int .i64 y0)).setCell ⟨v30.heap.size, 1, none⟩ (.int .i64 y1)).setCell ⟨v30.heap.size, 2, none⟩ (.bool y2)).frozen? ⟨u2.heap.size, 2, none⟩ = false := by simp only [World.frozen?_setCell]; exact g6_2
          have l6 : u2.heap.size < (((v37.setCell ⟨v30.heap.size, 0, none⟩ (.int .i64 y0)).setCell ⟨v30.heap.size, 1, none⟩ (.int .i64 y1)).setCell ⟨v30.heap.size, 2, none⟩ (.bool y2)).heap.size := by simpa using l6
          have g7_0 : (((v37.setCell ⟨v30.heap.size, 0, none⟩ (.int .i64 y0)).setCell ⟨v30.heap.size, 1, none⟩ (.int .i64 y1)).setCell ⟨v30.heap.size, 2, none⟩ (.bool y2)).frozen? ⟨v30.heap.size, 0, none⟩ = false := by simp only [World.frozen?_setCell]; exact g7_0
          have g7_1 : (((v37.setCell ⟨v30.heap.size, 0, none⟩ (.int .i64 y0)).setCell ⟨v30.heap.size, 1, none⟩ (.int .i64 y1)).setCell ⟨v30.heap.size, 2, none⟩ (.bool y2)).frozen? ⟨v30.heap.size, 1, none⟩ = false := by simp only [World.frozen?_setCell]; exact g7_1
          have g7_2 : (((v37.setCell ⟨v30.heap.size, 0, none⟩ (.int .i64 y0)).setCell ⟨v30.heap.size, 1, none⟩ (.int .i64 y1)).setCell ⟨v30.heap.size, 2, none⟩ (.bool y2)).frozen? ⟨v30.heap.size, 2, none⟩ = false := by simp only [World.frozen?_setCell]; exact g7_2
          have l7 : v30.heap.size < (((v37.setCell ⟨v30.heap.size, 0, none⟩ (.int .i64 y0)).setCell ⟨v30.heap.size, 1, none⟩ (.int .i64 y1)).setCell ⟨v30.heap.size, 2, none⟩ (.bool y2)).heap.size := by simpa using l7
          obtain ⟨v38, hv_⟩ : ∃ v_, v_ = (((v37.setCell ⟨v30.heap.size, 0, none⟩ (.int .i64 y0)).setCell ⟨v30.heap.size, 1, none⟩ (.int .i64 y1)).setCell ⟨v30.heap.size, 2, none⟩ (.bool y2)) := ⟨_, rfl⟩
          rw [← hv_] at hB z7_0 z7_1 z7_2 z6_0 g6_0 z6_1 g6_1 z6_2 g6_2 l6 g7_0 g7_1 g7_2 l7 ⊢
          clear hv_
          (try go_wp2_with fail); refine hK.out _ _ (hB) (fun hHeld => ?_); clear hK K; (try simp only [Act.put, List.setIfInBounds_toArray, List.set_cons_zero, List.set_cons_succ])
          refine wpAnyH_done (by kernel_rfl) ?_ _
          (go_wp2_with fail; go_meet)
          exact ⟨_, _, rfl, rfl, z6_2, z7_1, z7_2, hB⟩
        refine AllReadyH.cons (o := ?_) ?_ (fun K hK => ?_) AllReadyH.nil; rotate_left 1; (next => simp only [List.getElem?_toArray, List.getElem?_cons_succ, List.getElem?_cons_zero]; rfl)
        go_simp
        have ge7 : u2.heap.size ≤ v29.heap.size := hB.size
        have ne6_7 : u2.heap.size ≠ v29.heap.size := Nat.ne_of_lt l6
        have hb := bl_alloc (bl_refl v29) (.cells #[.int .i64 0, .int .i64 0, .bool false] 164)
        have z6_0 := keep_cell hb z6_0
        have z6_1 := keep_cell hb z6_1
        have z6_2 := keep_cell hb z6_2
        have g6_0 := (hb.frozen (p := ⟨u2.heap.size, 0, none⟩) l6).trans g6_0
        have g6_1 := (hb.frozen (p := ⟨u2.heap.size, 1, none⟩) l6).trans g6_1
        have g6_2 := (hb.frozen (p := ⟨u2.heap.size, 2, none⟩) l6).trans g6_2
        have l6 := Nat.lt_of_lt_of_le l6 hb.size
        have z7_0 : (v29.alloc (.cells #[.int .i64 0, .int .i64 0, .bool false] 164)).cell? ⟨v29.heap.size, 0, none⟩ = some (.int .i64 0) := by simp [go_sem]
        have z7_1 : (v29.alloc (.cells #[.int .i64 0, .int .i64 0, .bool false] 164)).cell? ⟨v29.heap.size, 1, none⟩ = some (.int .i64 0) := by simp [go_sem]
        have z7_2 : (v29.alloc (.cells #[.int .i64 0, .int .i64 0, .bool false] 164)).cell? ⟨v29.heap.size, 2, none⟩ = some (.bool false) := by simp [go_sem]
        have g7_0 : (v29.alloc (.cells #[.int .i64 0, .int .i64 0, .bool false] 164)).frozen? ⟨v29.heap.size, 0, none⟩ = false := by simp [go_sem]
        have g7_1 : (v29.alloc (.cells #[.int .i64 0, .int .i64 0, .bool false] 164)).frozen? ⟨v29.heap.size, 1, none⟩ = false := by simp [go_sem]
        have g7_2 : (v29.alloc (.cells #[.int .i64 0, .int .i64 0, .bool false] 164)).frozen? ⟨v29.heap.size, 2, none⟩ = false := by simp [go_sem]
        have l7 : v29.heap.size < (v29.alloc (.cells #[.int .i64 0, .int .i64 0, .bool false] 164)).heap.size := by simp
        obtain ⟨v39, hv_⟩ : ∃ v_, v_ = (v29.alloc (.cells #[.int .i64 0, .int .i64 0, .bool false] 164)) := ⟨_, rfl⟩
        rw [← hv_] at hb z6_0 g6_0 z6_1 g6_1 z6_2 g6_2 l6 z7_0 z7_1 z7_2 g7_0 g7_1 g7_2 l7 ⊢
        clear hv_
        have hB : Below u2.heap.size u2 v39 := bl_call hb hB
        clear hb
        (try go_wp2_with fail); refine hK.out _ _ (hB) (fun hHeld => ?_); clear hK K; (try simp only [Act.put, List.setIfInBounds_toArray, List.set_cons_zero, List.set_cons_succ])
        refine wpAnyH_ready (rs := [2]) (by kernel_rfl) (by simp) ?_; refine AllReadyH.cons (o := ?_) ?_ (fun K hK => ?_) AllReadyH.nil; rotate_left 1; (next => simp only [List.getElem?_toArray, List.getElem?_cons_succ, List.getElem?_cons_zero]; rfl); go_simp
        (go_at_call 146; (with_reducible refine (HPA.out _ (bl_call (by repeat' (first | with_reducible assumption | with_reducible refine bl_alloc ?_ _ | with_reducible refine bl_drew ?_)) HBW) _ _ _).mono ?_); rintro e v40 ⟨rfl, hb⟩)
        have hB : Below u2.heap.size u2 v40 := bl_call hb hB
        have z6_0 := keep_cell hb z6_0
        have z6_1 := keep_cell hb z6_1
        have z6_2 := keep_cell hb z6_2
        have g6_0 := (hb.frozen (p := ⟨u2.heap.size, 0, none⟩) l6).trans g6_0
        have g6_1 := (hb.frozen (p := ⟨u2.heap.size, 1, none⟩) l6).trans g6_1
        have g6_2 := (hb.frozen (p := ⟨u2.heap.size, 2, none⟩) l6).trans g6_2
        have l6 := Nat.lt_of_lt_of_le l6 hb.size
        have z7_0 := keep_cell hb z7_0
        have z7_1 := keep_cell hb z7_1
        have z7_2 := keep_cell hb z7_2
        have g7_0 := (hb.frozen (p := ⟨v29.heap.size, 0, none⟩) l7).trans g7_0
        have g7_1 := (hb.frozen (p := ⟨v29.heap.size, 1, none⟩) l7).trans g7_1
        have g7_2 := (hb.frozen (p := ⟨v29.heap.size, 2, none⟩) l7).trans g7_2
        have l7 := Nat.lt_of_lt_of_le l7 hb.size
        clear hb
        (try go_wp2_with fail); refine hK.out _ _ (hB) (fun hHeld => ?_); clear hK K; (try simp only [Act.put, List.setIfInBounds_toArray, List.set_cons_zero, List.set_cons_succ])
        refine wpAnyH_ready (rs := [5]) (by kernel_rfl) (by simp) ?_; refine AllReadyH.cons (o := ?_) ?_ (fun K hK => ?_) AllReadyH.nil; rotate_left 1; (next => simp only [List.getElem?_toArray, List.getElem?_cons_succ, List.getElem?_cons_zero]; rfl); go_simp
        (go_at_call 146; (with_reducible refine (HPB.out _ (bl_call (by repeat' (first | with_reducible assumption | with_reducible refine bl_alloc ?_ _ | with_reducible refine bl_drew ?_)) HBW) _ _ _).mono ?_); rintro e v41 ⟨rfl, hb⟩)
        have hB : Below u2.heap.size u2 v41 := bl_call hb hB
        have z6_0 := keep_cell hb z6_0
        have z6_1 := keep_cell hb z6_1
        have z6_2 := keep_cell hb z6_2
        have g6_0 := (hb.frozen (p := ⟨u2.heap.size, 0, none⟩) l6).trans g6_0
        have g6_1 := (hb.frozen (p := ⟨u2.heap.size, 1, none⟩) l6).trans g6_1
        have g6_2 := (hb.frozen (p := ⟨u2.heap.size, 2, none⟩) l6).trans g6_2
        have l6 := Nat.lt_of_lt_of_le l6 hb.size
        have z7_0 := keep_cell hb z7_0
        have z7_1 := keep_cell hb z7_1
        have z7_2 := keep_cell hb z7_2
        have g7_0 := (hb.frozen (p := ⟨v29.heap.size, 0, none⟩) l7).trans g7_0
        have g7_1 := (hb.frozen (p := ⟨v29.heap.size, 1, none⟩) l7).trans g7_1
        have g7_2 := (hb.frozen (p := ⟨v29.heap.size, 2, none⟩) l7).trans g7_2
        have l7 := Nat.lt_of_lt_of_le l7 hb.size
        clear hb
        (try go_wp2_with fail); refine hK.out _ _ (hB) (fun hHeld => ?_); clear hK K; (try simp only [Act.put, List.setIfInBounds_toArray, List.set_cons_zero, List.set_cons_succ])
        refine wpAnyH_ready (rs := [8]) (by kernel_rfl) (by simp) ?_; refine AllReadyH.cons (o := ?_) ?_ (fun K hK => ?_) AllReadyH.nil; rotate_left 1; (next => simp only [List.getElem?_toArray, List.getElem?_cons_succ, List.getElem?_cons_zero]; rfl); go_simp
        have hB : Below u2.heap.size u2 (((v41.setCell ⟨u2.heap.size, 0, none⟩ (.int .i64 x0)).setCell ⟨u2.heap.size, 1, none⟩ (.int .i64 x1)).setCell ⟨u2.heap.size, 2, none⟩ (.bool x2)) := bl_set (bl_set (bl_set hB ge6 _) ge6 _) ge6 _
        have y_0 : (((v41.setCell ⟨u2.heap.size, 0, none⟩ (.int .i64 x0)).setCell ⟨u2.heap.size, 1, none⟩ (.int .i64 x1)).setCell ⟨u2.heap.size, 2, none⟩ (.bool x2)).cell? ⟨u2.heap.size, 0, none⟩ = some (.int .i64 x0) := by simp [go_sem, z6_0, z6_1, z6_2]
        have y_1 : (((v41.setCell ⟨u2.heap.size, 0, none⟩ (.int .i64 x0)).setCell ⟨u2.heap.size, 1, none⟩ (.int .i64 x1)).setCell ⟨u2.heap.size, 2, none⟩ (.bool x2)).cell? ⟨u2.heap.size, 1, none⟩ = some (.int .i64 x1) := by simp [go_sem, z6_0, z6_1, z6_2]
        have y_2 : (((v41.setCell ⟨u2.heap.size, 0, none⟩ (.int .i64 x0)).setCell ⟨u2.heap.size, 1, none⟩ (.int .i64 x1)).setCell ⟨u2.heap.size, 2, none⟩ (.bool x2)).cell? ⟨u2.heap.size, 2, none⟩ = some (.bool x2) := by simp [go_sem, z6_0, z6_1, z6_2]
        have z6_0 := y_0
        have z6_1 := y_1
        have z6_2 := y_2
        clear y_0 y_1 y_2
        have g6_0 : (((v41.setCell ⟨u2.heap.size, 0, none⟩ (.int .i64 x0)).setCell ⟨u2.heap.size, 1, none⟩ (.int .i64 x1)).setCell ⟨u2.heap.size, 2, none⟩ (.bool x2)).frozen? ⟨u2.heap.size, 0, none⟩ = false := by simp only [World.frozen?_setCell]; exact g6_0
        have g6_1 : (((v41.setCell ⟨u2.heap.size, 0, none⟩ (.int .i64 x0)).setCell ⟨u2.heap.size, 1, none⟩ (.int .i64 x1)).setCell ⟨u2.heap.size, 2, none⟩ (.bool x2)).frozen? ⟨u2.heap.size, 1, none⟩ = false := by simp only [World.frozen?_setCell]; exact g6_1
        have g6_2 : (((v41.setCell ⟨u2.heap.size, 0, none⟩ (.int .i64 x0)).setCell ⟨u2.heap.size, 1, none⟩ (.int .i64 x1)).setCell ⟨u2.heap.size, 2, none⟩ (.bool x2)).frozen? ⟨u2.heap.size, 2, none⟩ = false := by simp only [World.frozen?_setCell]; exact g6_2
        have l6 : u2.heap.size < (((v41.setCell ⟨u2.heap.size, 0, none⟩ (.int .i64 x0)).setCell ⟨u2.heap.size, 1, none⟩ (.int .i64 x1)).setCell ⟨u2.heap.size, 2, none⟩ (.bool x2)).heap.size := by simpa using l6
        have z7_0 := keep_far3 (x := .int .i64 x0) (y := .int .i64 x1) (z := .bool x2) z7_0 ne6_7.symm
        have g7_0 : (((v41.setCell ⟨u2.heap.size, 0, none⟩ (.int .i64 x0)).setCell ⟨u2.heap.size, 1, none⟩ (.int .i64 x1)).setCell ⟨u2.heap.size, 2, none⟩ (.bool x2)).frozen? ⟨v29.heap.size, 0, none⟩ = false := by simp only [World.frozen?_setCell]; exact g7_0
        have z7_1 := keep_far3 (x := .int .i64 x0) (y := .int .i64 x1) (z := .bool x2) z7_1 ne6_7.symm
        have g7_1 : (((v41.setCell ⟨u2.heap.size, 0, none⟩ (.int .i64 x0)).setCell ⟨u2.heap.size, 1, none⟩ (.int .i64 x1)).setCell ⟨u2.heap.size, 2, none⟩ (.bool x2)).frozen? ⟨v29.heap.size, 1, none⟩ = false := by simp only [World.frozen?_setCell]; exact g7_1
        have z7_2 := keep_far3 (x := .int .i64 x0) (y := .int .i64 x1) (z := .bool x2) z7_2 ne6_7.symm
        have g7_2 : (((v41.setCell ⟨u2.heap.size, 0, none⟩ (.int .i64 x0)).setCell ⟨u2.heap.size, 1, none⟩ (.int .i64 x1)).setCell ⟨u2.heap.size, 2, none⟩ (.bool x2)).frozen? ⟨v29.heap.size, 2, none⟩ = false := by simp only [World.frozen?_setCell]; exact g7_2
        have l7 : v29.heap.size < (((v41.setCell ⟨u2.heap.size, 0, none⟩ (.int .i64 x0)).setCell ⟨u2.heap.size, 1, none⟩ (.int .i64 x1)).setCell ⟨u2.heap.size, 2, none⟩ (.bool x2)).heap.size := by simpa using l7
        obtain ⟨v42, hv_⟩ : ∃ v_, v_ = (((v41.setCell ⟨u2.heap.size, 0, none⟩ (.int .i64 x0)).setCell ⟨u2.heap.size, 1, none⟩ (.int .i64 x1)).setCell ⟨u2.heap.size, 2, none⟩ (.bool x2)) := ⟨_, rfl⟩
        rw [← hv_] at hB z6_0 z6_1 z6_2 g6_0 g6_1 g6_2 l6 z7_0 g7_0 z7_1 g7_1 z7_2 g7_2 l7 ⊢
        clear hv_
        (try go_wp2_with fail); refine hK.out _ _ (hB) (fun hHeld => ?_); clear hK K; (try simp only [Act.put, List.setIfInBounds_toArray, List.set_cons_zero, List.set_cons_succ])
        refine wpAnyH_ready (rs := [9]) (by kernel_rfl) (by simp) ?_; refine AllReadyH.cons (o := ?_) ?_ (fun K hK => ?_) AllReadyH.nil; rotate_left 1; (next => simp only [List.getElem?_toArray, List.getElem?_cons_succ, List.getElem?_cons_zero]; rfl); go_simp
        have hB : Below u2.heap.size u2 (((v42.setCell ⟨v29.heap.size, 0, none⟩ (.int .i64 y0)).setCell ⟨v29.heap.size, 1, none⟩ (.int .i64 y1)).setCell ⟨v29.heap.size, 2, none⟩ (.bool y2)) := bl_set (bl_set (bl_set hB ge7 _) ge7 _) ge7 _
        have y_0 : (((v42.setCell ⟨v29.heap.size, 0, none⟩ (.int .i64 y0)).setCell ⟨v29.heap.size, 1, none⟩ (.int .i64 y1)).setCell ⟨v29.heap.size, 2, none⟩ (.bool y2)).cell? ⟨v29.heap.size, 0, none⟩ = some (.int .i64 y0) := by simp [go_sem, z7_0, z7_1, z7_2]
        have y_1 : (((v42.setCell ⟨v29.heap.size, 0, none⟩ (.int .i64 y0)).setCell ⟨v29.heap.size, 1, none⟩ (.int .i64 y1)).setCell ⟨v29.heap.size, 2, none⟩ (.bool y2)).cell? ⟨v29.heap.size, 1, none⟩ = some (.int .i64 y1) := by simp [go_sem, z7_0, z7_1, z7_2]
        have y_2 : (((v42.setCell ⟨v29.heap.size, 0, none⟩ (.int .i64 y0)).setCell ⟨v29.heap.size, 1, none⟩ (.int .i64 y1)).setCell ⟨v29.heap.size, 2, none⟩ (.bool y2)).cell? ⟨v29.heap.size, 2, none⟩ = some (.bool y2) := by simp [go_sem, z7_0, z7_1, z7_2]
        have z7_0 := y_0
        have z7_1 := y_1
        have z7_2 := y_2
        clear y_0 y_1 y_2
        have z6_0 := keep_far3 (x := .int .i64 y0) (y := .int .i64 y1) (z := .bool y2) z6_0 ne6_7
        have g6_0 : (((v42.setCell ⟨v29.heap.size, 0, none⟩ (.int .i64 y0)).setCell ⟨v29.heap.size, 1, none⟩ (.int .i64 y1)).setCell ⟨v29.heap.size, 2, none⟩ (.bool y2)).frozen? ⟨u2.heap.size, 0, none⟩ = false := by simp only [World.frozen?_setCell]; exact g6_0
        have z6_1 := keep_far3 (x := .int .i64 y0) (y := .int .i64 y1) (z := .bool y2) z6_1 ne6_7
        have g6_1 : (((v42.setCell ⟨v29.heap.size, 0, none⟩ (.int .i64 y0)).setCell ⟨v29.heap.size, 1, none⟩ (.int .i64 y1)).setCell ⟨v29.heap.size, 2, none⟩ (.bool y2)).frozen? ⟨u2.heap.size, 1, none⟩ = false := by simp only [World.frozen?_setCell]; exact g6_1
        have z6_2 := keep_far3 (x := .int .i64 y0) (y := .int .i64 y1) (z := .bool y2) z6_2 ne6_7
        have g6_2 : (((v42.setCell ⟨v29.heap.size, 0, none⟩ (.int .i64 y0)).setCell ⟨v29.heap.size, 1, none⟩ (.int .i64 y1)).setCell ⟨v29.heap.size, 2, none⟩ (.bool y2)).frozen? ⟨u2.heap.size, 2, none⟩ = false := by simp only [World.frozen?_setCell]; exact g6_2
        have l6 : u2.heap.size < (((v42.setCell ⟨v29.heap.size, 0, none⟩ (.int .i64 y0)).setCell ⟨v29.heap.size, 1, none⟩ (.int .i64 y1)).setCell ⟨v29.heap.size, 2, none⟩ (.bool y2)).heap.size := by simpa using l6
        have g7_0 : (((v42.setCell ⟨v29.heap.size, 0, none⟩ (.int .i64 y0)).setCell ⟨v29.heap.size, 1, none⟩ (.int .i64 y1)).setCell ⟨v29.heap.size, 2, none⟩ (.bool y2)).frozen? ⟨v29.heap.size, 0, none⟩ = false := by simp only [World.frozen?_setCell]; exact g7_0
        have g7_1 : (((v42.setCell ⟨v29.heap.size, 0, none⟩ (.int .i64 y0)).setCell ⟨v29.heap.size, 1, none⟩ (.int .i64 y1)).setCell ⟨v29.heap.size, 2, none⟩ (.bool y2)).frozen? ⟨v29.heap.size, 1, none⟩ = false := by simp only [World.frozen?_setCell]; exact g7_1
        have g7_2 : (((v42.setCell ⟨v29.heap.size, 0, none⟩ (.int .i64 y0)).setCell ⟨v29.heap.size, 1, none⟩ (.int .i64 y1)).setCell ⟨v29.heap.size, 2, none⟩ (.bool y2)).frozen? ⟨v29.heap.size, 2, none⟩ = false := by simp only [World.frozen?_setCell]; exact g7_2
        have l7 : v29.heap.size < (((v42.setCell ⟨v29.heap.size, 0, none⟩ (.int .i64 y0)).setCell ⟨v29.heap.size, 1, none⟩ (.int .i64 y1)).setCell ⟨v29.heap.size, 2, none⟩ (.bool y2)).heap.size := by simpa using l7
        obtain ⟨v43, hv_⟩ : ∃ v_, v_ = (((v42.setCell ⟨v29.heap.size, 0, none⟩ (.int .i64 y0)).setCell ⟨v29.heap.size, 1, none⟩ (.int .i64 y1)).setCell ⟨v29.heap.size, 2, none⟩ (.bool y2)) := ⟨_, rfl⟩
        rw [← hv_] at hB z7_0 z7_1 z7_2 z6_0 g6_0 z6_1 g6_1 z6_2 g6_2 l6 g7_0 g7_1 g7_2 l7 ⊢
        clear hv_
        (try go_wp2_with fail); refine hK.out _ _ (hB) (fun hHeld => ?_); clear hK K; (try simp only [Act.put, List.setIfInBounds_toArray, List.set_cons_zero, List.set_cons_succ])
        refine wpAnyH_done (by kernel_rfl) ?_ _
        (go_wp2_with fail; go_meet)
        exact ⟨_, _, rfl, rfl, z6_2, z7_1, z7_2, hB⟩
      refine AllReadyH.cons (o := ?_) ?_ (fun K hK => ?_) AllReadyH.nil; rotate_left 1; (next => simp only [List.getElem?_toArray, List.getElem?_cons_succ, List.getElem?_cons_zero]; rfl)
      go_simp
      have ge7 : u2.heap.size ≤ u2.heap.size := Nat.le_refl _
      have hb := bl_drew (bl_alloc (bl_refl u2) (.cells #[.int .i64 0, .int .i64 0, .bool false] 164))
      have z7_0 : (u2.alloc (.cells #[.int .i64 0, .int .i64 0, .bool false] 164)).drew.cell? ⟨u2.heap.size, 0, none⟩ = some (.int .i64 0) := by simp [go_sem]
      have z7_1 : (u2.alloc (.cells #[.int .i64 0, .int .i64 0, .bool false] 164)).drew.cell? ⟨u2.heap.size, 1, none⟩ = some (.int .i64 0) := by simp [go_sem]
      have z7_2 : (u2.alloc (.cells #[.int .i64 0, .int .i64 0, .bool false] 164)).drew.cell? ⟨u2.heap.size, 2, none⟩ = some (.bool false) := by simp [go_sem]
      have g7_0 : (u2.alloc (.cells #[.int .i64 0, .int .i64 0, .bool false] 164)).drew.frozen? ⟨u2.heap.size, 0, none⟩ = false := by simp [go_sem]
      have g7_1 : (u2.alloc (.cells #[.int .i64 0, .int .i64 0, .bool false] 164)).drew.frozen? ⟨u2.heap.size, 1, none⟩ = false := by simp [go_sem]
      have g7_2 : (u2.alloc (.cells #[.int .i64 0, .int .i64 0, .bool false] 164)).drew.frozen? ⟨u2.heap.size, 2, none⟩ = false := by simp [go_sem]
      have l7 : u2.heap.size < (u2.alloc (.cells #[.int .i64 0, .int .i64 0, .bool false] 164)).drew.heap.size := by simp
      obtain ⟨v44, hv_⟩ : ∃ v_, v_ = (u2.alloc (.cells #[.int .i64 0, .int .i64 0, .bool false] 164)).drew := ⟨_, rfl⟩
      rw [← hv_] at hb z7_0 z7_1 z7_2 g7_0 g7_1 g7_2 l7 ⊢
      clear hv_
      have hB : Below u2.heap.size u2 v44 := hb
      clear hb
      (try go_wp2_with fail); refine hK.out _ _ (hB) (fun hHeld => ?_); clear hK K; (try simp only [Act.put, List.setIfInBounds_toArray, List.set_cons_zero, List.set_cons_succ])
      refine wpAnyH_ready (rs := [2, 6]) (by kernel_rfl) (by simp) ?_
      refine AllReadyH.cons (o := ?_) ?_ (fun K hK => ?_) ?_; rotate_left 1; (next => simp only [List.getElem?_toArray, List.getElem?_cons_succ, List.getElem?_cons_zero]; rfl)
      · go_simp
        (go_at_call 146; (with_reducible refine (HPA.out _ (bl_call (by repeat' (first | with_reducible assumption | with_reducible refine bl_alloc ?_ _ | with_reducible refine bl_drew ?_)) HBW) _ _ _).mono ?_); rintro e v45 ⟨rfl, hb⟩)
        have hB : Below u2.heap.size u2 v45 := bl_call hb hB
        have z7_0 := keep_cell hb z7_0
        have z7_1 := keep_cell hb z7_1
        have z7_2 := keep_cell hb z7_2
        have g7_0 := (hb.frozen (p := ⟨u2.heap.size, 0, none⟩) l7).trans g7_0
        have g7_1 := (hb.frozen (p := ⟨u2.heap.size, 1, none⟩) l7).trans g7_1
        have g7_2 := (hb.frozen (p := ⟨u2.heap.size, 2, none⟩) l7).trans g7_2
        have l7 := Nat.lt_of_lt_of_le l7 hb.size
        clear hb
        (try go_wp2_with fail); refine hK.out _ _ (hB) (fun hHeld => ?_); clear hK K; (try simp only [Act.put, List.setIfInBounds_toArray, List.set_cons_zero, List.set_cons_succ])
        refine wpAnyH_ready (rs := [5, 6]) (by kernel_rfl) (by simp) ?_
        refine AllReadyH.cons (o := ?_) ?_ (fun K hK => ?_) ?_; rotate_left 1; (next => simp only [List.getElem?_toArray, List.getElem?_cons_succ, List.getElem?_cons_zero]; rfl)
        · go_simp
          (go_at_call 146; (with_reducible refine (HPB.out _ (bl_call (by repeat' (first | with_reducible assumption | with_reducible refine bl_alloc ?_ _ | with_reducible refine bl_drew ?_)) HBW) _ _ _).mono ?_); rintro e v46 ⟨rfl, hb⟩)
          have hB : Below u2.heap.size u2 v46 := bl_call hb hB
          have z7_0 := keep_cell hb z7_0
          have z7_1 := keep_cell hb z7_1
          have z7_2 := keep_cell hb z7_2
          have g7_0 := (hb.frozen (p := ⟨u2.heap.size, 0, none⟩) l7).trans g7_0
          have g7_1 := (hb.frozen (p := ⟨u2.heap.size, 1, none⟩) l7).trans g7_1
          have g7_2 := (hb.frozen (p := ⟨u2.heap.size, 2, none⟩) l7).trans g7_2
          have l7 := Nat.lt_of_lt_of_le l7 hb.size
          clear hb
          (try go_wp2_with fail); refine hK.out _ _ (hB) (fun hHeld => ?_); clear hK K; (try simp only [Act.put, List.setIfInBounds_toArray, List.set_cons_zero, List.set_cons_succ])
          refine wpAnyH_ready (rs := [6]) (by kernel_rfl) (by simp) ?_; refine AllReadyH.cons (o := ?_) ?_ (fun K hK => ?_) AllReadyH.nil; rotate_left 1; (next => simp only [List.getElem?_toArray, List.getElem?_cons_succ, List.getElem?_cons_zero]; rfl); go_simp
          have ge6 : u2.heap.size ≤ v46.heap.size := hB.size
          have ne7_6 : u2.heap.size ≠ v46.heap.size := Nat.ne_of_lt l7
          have hb := bl_alloc (bl_refl v46) (.cells #[.int .i64 0, .int .i64 0, .bool false] 164)
          have z7_0 := keep_cell hb z7_0
          have z7_1 := keep_cell hb z7_1
          have z7_2 := keep_cell hb z7_2
          have g7_0 := (hb.frozen (p := ⟨u2.heap.size, 0, none⟩) l7).trans g7_0
          have g7_1 := (hb.frozen (p := ⟨u2.heap.size, 1, none⟩) l7).trans g7_1
          have g7_2 := (hb.frozen (p := ⟨u2.heap.size, 2, none⟩) l7).trans g7_2
          have l7 := Nat.lt_of_lt_of_le l7 hb.size
          have z6_0 : (v46.alloc (.cells #[.int .i64 0, .int .i64 0, .bool false] 164)).cell? ⟨v46.heap.size, 0, none⟩ = some (.int .i64 0) := by simp [go_sem]
          have z6_1 : (v46.alloc (.cells #[.int .i64 0, .int .i64 0, .bool false] 164)).cell? ⟨v46.heap.size, 1, none⟩ = some (.int .i64 0) := by simp [go_sem]
          have z6_2 : (v46.alloc (.cells #[.int .i64 0, .int .i64 0, .bool false] 164)).cell? ⟨v46.heap.size, 2, none⟩ = some (.bool false) := by simp [go_sem]
          have g6_0 : (v46.alloc (.cells #[.int .i64 0, .int .i64 0, .bool false] 164)).frozen? ⟨v46.heap.size, 0, none⟩ = false := by simp [go_sem]
          have g6_1 : (v46.alloc (.cells #[.int .i64 0, .int .i64 0, .bool false] 164)).frozen? ⟨v46.heap.size, 1, none⟩ = false := by simp [go_sem]
          have g6_2 : (v46.alloc (.cells #[.int .i64 0, .int .i64 0, .bool false] 164)).frozen? ⟨v46.heap.size, 2, none⟩ = false := by simp [go_sem]
          have l6 : v46.heap.size < (v46.alloc (.cells #[.int .i64 0, .int .i64 0, .bool false] 164)).heap.size := by simp
          obtain ⟨v47, hv_⟩ : ∃ v_, v_ = (v46.alloc (.cells #[.int .i64 0, .int .i64 0, .bool false] 164)) := ⟨_, rfl⟩
          rw [← hv_] at hb z7_0 g7_0 z7_1 g7_1 z7_2 g7_2 l7 z6_0 z6_1 z6_2 g6_0 g6_1 g6_2 l6 ⊢
          clear hv_
          have hB : Below u2.heap.size u2 v47 := bl_call hb hB
          clear hb
          (try go_wp2_with fail); refine hK.out _ _ (hB) (fun hHeld => ?_); clear hK K; (try simp only [Act.put, List.setIfInBounds_toArray, List.set_cons_zero, List.set_cons_succ])
          refine wpAnyH_ready (rs := [8]) (by kernel_rfl) (by simp) ?_; refine AllReadyH.cons (o := ?_) ?_ (fun K hK => ?_) AllReadyH.nil; rotate_left 1; (next => simp only [List.getElem?_toArray, List.getElem?_cons_succ, List.getElem?_cons_zero]; rfl); go_simp
          have hB : Below u2.heap.size u2 (((v47.setCell ⟨v46.heap.size, 0, none⟩ (.int .i64 x0)).setCell ⟨v46.heap.size, 1, none⟩ (.int .i64 x1)).setCell ⟨v46.heap.size, 2, none⟩ (.bool x2)) := bl_set (bl_set (bl_set hB ge6 _) ge6 _) ge6 _
          have y_0 : (((v47.setCell ⟨v46.heap.size, 0, none⟩ (.int .i64 x0)).setCell ⟨v46.heap.size, 1, none⟩ (.int .i64 x1)).setCell ⟨v46.heap.size, 2, none⟩ (.bool x2)).cell? ⟨v46.heap.size, 0, none⟩ = some (.int .i64 x0) := by simp [go_sem, z6_0, z6_1, z6_2]
          have y_1 : (((v47.setCell ⟨v46.heap.size, 0, none⟩ (.int .i64 x0)).setCell ⟨v46.heap.size, 1, none⟩ (.int .i64 x1)).setCell ⟨v46.heap.size, 2, none⟩ (.bool x2)).cell? ⟨v46.heap.size, 1, none⟩ = some (.int .i64 x1) := by simp [go_sem, z6_0, z6_1, z6_2]
          have y_2 : (((v47.setCell ⟨v46.heap.size, 0, none⟩ (.int .i64 x0)).setCell ⟨v46.heap.size, 1, none⟩ (.int .i64 x1)).setCell ⟨v46.heap.size, 2, none⟩ (.bool x2)).cell? ⟨v46.heap.size, 2, none⟩ = some (.bool x2) := by simp [go_sem, z6_0, z6_1, z6_2]
          have z6_0 := y_0
          have z6_1 := y_1
          have z6_2 := y_2
          clear y_0 y_1 y_2
          have z7_0 := keep_far3 (x := .int .i64 x0) (y := .int .i64 x1) (z := .bool x2) z7_0 ne7_6
          have g7_0 : (((v47.setCell ⟨v46.heap.size, 0, none⟩ (.int .i64 x0)).setCell ⟨v46.heap.size, 1, none⟩ (.int .i64 x1)).setCell ⟨v46.heap.size, 2, none⟩ (.bool x2)).frozen? ⟨u2.heap.size, 0, none⟩ = false := by simp only [World.frozen?_setCell]; exact g7_0
          have z7_1 := keep_far3 (x := .int .i64 x0) (y := .int .i64 x1) (z := .bool x2) z7_1 ne7_6
          have g7_1 : (((v47.setCell ⟨v46.heap.size, 0, none⟩ (.int .i64 x0)).setCell ⟨v46.heap.size, 1, none⟩ (.int .i64 x1)).setCell ⟨v46.heap.size, 2, none⟩ (.bool x2)).frozen? ⟨u2.heap.size, 1, none⟩ = false := by simp only [World.frozen?_setCell]; exact g7_1
          have z7_2 := keep_far3 (x := .int .i64 x0) (y := .int .i64 x1) (z := .bool x2) z7_2 ne7_6
          have g7_2 : (((v47.setCell ⟨v46.heap.size, 0, none⟩ (.int .i64 x0)).setCell ⟨v46.heap.size, 1, none⟩ (.int .i64 x1)).setCell ⟨v46.heap.size, 2, none⟩ (.bool x2)).frozen? ⟨u2.heap.size, 2, none⟩ = false := by simp only [World.frozen?_setCell]; exact g7_2
          have l7 : u2.heap.size < (((v47.setCell ⟨v46.heap.size, 0, none⟩ (.int .i64 x0)).setCell ⟨v46.heap.size, 1, none⟩ (.int .i64 x1)).setCell ⟨v46.heap.size, 2, none⟩ (.bool x2)).heap.size := by simpa using l7
          have g6_0 : (((v47.setCell ⟨v46.heap.size, 0, none⟩ (.int .i64 x0)).setCell ⟨v46.heap.size, 1, none⟩ (.int .i64 x1)).setCell ⟨v46.heap.size, 2, none⟩ (.bool x2)).frozen? ⟨v46.heap.size, 0, none⟩ = false := by simp only [World.frozen?_setCell]; exact g6_0
          have g6_1 : (((v47.setCell ⟨v46.heap.size, 0, none⟩ (.int .i64 x0)).setCell ⟨v46.heap.size, 1, none⟩ (.int .i64 x1)).setCell ⟨v46.heap.size, 2, none⟩ (.bool x2)).frozen? ⟨v46.heap.size, 1, none⟩ = false := by simp only [World.frozen?_setCell]; exact g6_1
          have g6_2 : (((v47.setCell ⟨v46.heap.size, 0, none⟩ (.int .i64 x0)).setCell ⟨v46.heap.size, 1, none⟩ (.int .i64 x1)).setCell ⟨v46.heap.size, 2, none⟩ (.bool x2)).frozen? ⟨v46.heap.size, 2, none⟩ = false := by simp only [World.frozen?_setCell]; exact g6_2
          have l6 : v46.heap.size < (((v47.setCell ⟨v46.heap.size, 0, none⟩ (.int .i64 x0)).setCell ⟨v46.heap.size, 1, none⟩ (.int .i64 x1)).setCell ⟨v46.heap.size, 2, none⟩ (.bool x2)).heap.size := by simpa using l6
          obtain ⟨v48, hv_⟩ : ∃ v_, v_ = (((v47.setCell ⟨v46.heap.size, 0, none⟩ (.int .i64 x0)).setCell ⟨v46.heap.size, 1, none⟩ (.int .i64 x1)).setCell ⟨v46.heap.size, 2, none⟩ (.bool x2)) := ⟨_, rfl⟩
          rw [← hv_] at hB z6_0 z6_1 z6_2 z7_0 g7_0 z7_1 g7_1 z7_2 g7_2 l7 g6_0 g6_1 g6_2 l6 ⊢
          clear hv_
          (try go_wp2_with fail); refine hK.out _ _ (hB) (fun hHeld => ?_); clear hK K; (try simp only [Act.put, List.setIfInBounds_toArray, List.set_cons_zero, List.set_cons_succ])
          refine wpAnyH_ready (rs := [9]) (by kernel_rfl) (by simp) ?_; refine AllReadyH.cons (o := ?_) ?_ (fun K hK => ?_) AllReadyH.nil; rotate_left 1; (next => simp only [List.getElem?_toArray, List.getElem?_cons_succ, List.getElem?_cons_zero]; rfl); go_simp
          have hB : Below u2.heap.size u2 (((v48.setCell ⟨u2.heap.size, 0, none⟩ (.int .i64 y0)).setCell ⟨u2.heap.size, 1, none⟩ (.int .i64 y1)).setCell ⟨u2.heap.size, 2, none⟩ (.bool y2)) := bl_set (bl_set (bl_set hB ge7 _) ge7 _) ge7 _
          have y_0 : (((v48.setCell ⟨u2.heap.size, 0, none⟩ (.int .i64 y0)).setCell ⟨u2.heap.size, 1, none⟩ (.int .i64 y1)).setCell ⟨u2.heap.size, 2, none⟩ (.bool y2)).cell? ⟨u2.heap.size, 0, none⟩ = some (.int .i64 y0) := by simp [go_sem, z7_0, z7_1, z7_2]
          have y_1 : (((v48.setCell ⟨u2.heap.size, 0, none⟩ (.int .i64 y0)).setCell ⟨u2.heap.size, 1, none⟩ (.int .i64 y1)).setCell ⟨u2.heap.size, 2, none⟩ (.bool y2)).cell? ⟨u2.heap.size, 1, none⟩ = some (.int .i64 y1) := by simp [go_sem, z7_0, z7_1, z7_2]
          have y_2 : (((v48.setCell ⟨u2.heap.size, 0, none⟩ (.int .i64 y0)).setCell ⟨u2.heap.size, 1, none⟩ (.int .i64 y1)).setCell ⟨u2.heap.size, 2, none⟩ (.bool y2)).cell? ⟨u2.heap.size, 2, none⟩ = some (.bool y2) := by simp [go_sem, z7_0, z7_1, z7_2]
          have z7_0 := y_0
          have z7_1 := y_1
          have z7_2 := y_2
          clear y_0 y_1 y_2
          have g7_0 : (((v48.setCell ⟨u2.heap.size, 0, none⟩ (.int .i64 y0)).setCell ⟨u2.heap.size, 1, none⟩ (.int .i64 y1)).setCell ⟨u2.heap.size, 2, none⟩ (.bool y2)).frozen? ⟨u2.heap.size, 0, none⟩ = false := by simp only [World.frozen?_setCell]; exact g7_0
          have g7_1 : (((v48.setCell ⟨u2.heap.size, 0, none⟩ (.int .i64 y0)).setCell ⟨u2.heap.size, 1, none⟩ (.int .i64 y1)).setCell ⟨u2.heap.size, 2, none⟩ (.bool y2)).frozen? ⟨u2.heap.size, 1, none⟩ = false := by simp only [World.frozen?_setCell]; exact g7_1
          have g7_2 : (((v48.setCell ⟨u2.heap.size, 0, none⟩ (.int .i64 y0)).setCell ⟨u2.heap.size, 1, none⟩ (.int .i64 y1)).setCell ⟨u2.heap.size, 2, none⟩ (.bool y2)).frozen? ⟨u2.heap.size, 2, none⟩ = false := by simp only [World.frozen?_setCell]; exact g7_2
          have l7 : u2.heap.size < (((v48.setCell ⟨u2.heap.size, 0, none⟩ (.int .i64 y0)).setCell ⟨u2.heap.size, 1, none⟩ (.int .i64 y1)).setCell ⟨u2.heap.size, 2, none⟩ (.bool y2)).heap.size := by simpa using l7
          have z6_0 := keep_far3 (x := .int .i64 y0) (y := .int .i64 y1) (z := .bool y2) z6_0 ne7_6.symm
          have g6_0 : (((v48.setCell ⟨u2.heap.size, 0, none⟩ (.int .i64 y0)).setCell ⟨u2.heap.size, 1, none⟩ (.int .i64 y1)).setCell ⟨u2.heap.size, 2, none⟩ (.bool y2)).frozen? ⟨v46.heap.size, 0, none⟩ = false := by simp only [World.frozen?_setCell]; exact g6_0
          have z6_1 := keep_far3 (x := .int .i64 y0) (y := .int .i64 y1) (z := .bool y2) z6_1 ne7_6.symm
          have g6_1 : (((v48.setCell ⟨u2.heap.size, 0, none⟩ (.int .i64 y0)).setCell ⟨u2.heap.size, 1, none⟩ (.int .i64 y1)).setCell ⟨u2.heap.size, 2, none⟩ (.bool y2)).frozen? ⟨v46.heap.size, 1, none⟩ = false := by simp only [World.frozen?_setCell]; exact g6_1
          have z6_2 := keep_far3 (x := .int .i64 y0) (y := .int .i64 y1) (z := .bool y2) z6_2 ne7_6.symm
          have g6_2 : (((v48.setCell ⟨u2.heap.size, 0, none⟩ (.int .i64 y0)).setCell ⟨u2.heap.size, 1, none⟩ (.int .i64 y1)).setCell ⟨u2.heap.size, 2, none⟩ (.bool y2)).frozen? ⟨v46.heap.size, 2, none⟩ = false := by simp only [World.frozen?_setCell]; exact g6_2
          have l6 : v46.heap.size < (((v48.setCell ⟨u2.heap.size, 0, none⟩ (.int .i64 y0)).setCell ⟨u2.heap.size, 1, none⟩ (.int .i64 y1)).setCell ⟨u2.heap.size, 2, none⟩ (.bool y2)).heap.size := by simpa using l6
          obtain ⟨v49, hv_⟩ : ∃ v_, v_ = (((v48.setCell ⟨u2.heap.size, 0, none⟩ (.int .i64 y0)).setCell ⟨u2.heap.size, 1, none⟩ (.int .i64 y1)).setCell ⟨u2.heap.size, 2, none⟩ (.bool y2)) := ⟨_, rfl⟩
          rw [← hv_] at hB z7_0 z7_1 z7_2 g7_0 g7_1 g7_2 l7 z6_0 g6_0 z6_1 g6_1 z6_2 g6_2 l6 ⊢
          clear hv_
          (try go_wp2_with fail); refine hK.out _ _ (hB) (fun hHeld => ?_); clear hK K; (try simp only [Act.put, List.setIfInBounds_toArray, List.set_cons_zero, List.set_cons_succ])
          refine wpAnyH_done (by kernel_rfl) ?_ _
          (go_wp2_with fail; go_meet)
          exact ⟨_, _, rfl, rfl, z6_2, z7_1, z7_2, hB⟩
        refine AllReadyH.cons (o := ?_) ?_ (fun K hK => ?_) AllReadyH.nil; rotate_left 1; (next => simp only [List.getElem?_toArray, List.getElem?_cons_succ, List.getElem?_cons_zero]; rfl)
        go_simp
        have ge6 : u2.heap.size ≤ v45.heap.size := hB.size
        have ne7_6 : u2.heap.size ≠ v45.heap.size := Nat.ne_of_lt l7
        have hb := bl_alloc (bl_refl v45) (.cells #[.int .i64 0, .int .i64 0, .bool false] 164)
        have z7_0 := keep_cell hb z7_0
        have z7_1 := keep_cell hb z7_1
        have z7_2 := keep_cell hb z7_2
        have g7_0 := (hb.frozen (p := ⟨u2.heap.size, 0, none⟩) l7).trans g7_0
        have g7_1 := (hb.frozen (p := ⟨u2.heap.size, 1, none⟩) l7).trans g7_1
        have g7_2 := (hb.frozen (p := ⟨u2.heap.size, 2, none⟩) l7).trans g7_2
        have l7 := Nat.lt_of_lt_of_le l7 hb.size
        have z6_0 : (v45.alloc (.cells #[.int .i64 0, .int .i64 0, .bool false] 164)).cell? ⟨v45.heap.size, 0, none⟩ = some (.int .i64 0) := by simp [go_sem]
        have z6_1 : (v45.alloc (.cells #[.int .i64 0, .int .i64 0, .bool false] 164)).cell? ⟨v45.heap.size, 1, none⟩ = some (.int .i64 0) := by simp [go_sem]
        have z6_2 : (v45.alloc (.cells #[.int .i64 0, .int .i64 0, .bool false] 164)).cell? ⟨v45.heap.size, 2, none⟩ = some (.bool false) := by simp [go_sem]
        have g6_0 : (v45.alloc (.cells #[.int .i64 0, .int .i64 0, .bool false] 164)).frozen? ⟨v45.heap.size, 0, none⟩ = false := by simp [go_sem]
        have g6_1 : (v45.alloc (.cells #[.int .i64 0, .int .i64 0, .bool false] 164)).frozen? ⟨v45.heap.size, 1, none⟩ = false := by simp [go_sem]
        have g6_2 : (v45.alloc (.cells #[.int .i64 0, .int .i64 0, .bool false] 164)).frozen? ⟨v45.heap.size, 2, none⟩ = false := by simp [go_sem]
        have l6 : v45.heap.size < (v45.alloc (.cells #[.int .i64 0, .int .i64 0, .bool false] 164)).heap.size := by simp
        obtain ⟨v50, hv_⟩ : ∃ v_, v_ = (v45.alloc (.cells #[.int .i64 0, .int .i64 0, .bool false] 164)) := ⟨_, rfl⟩
        rw [← hv_] at hb z7_0 g7_0 z7_1 g7_1 z7_2 g7_2 l7 z6_0 z6_1 z6_2 g6_0 g6_1 g6_2 l6 ⊢
        clear hv_
        have hB : Below u2.heap.size u2 v50 := bl_call hb hB
        clear hb
        (try go_wp2_with fail); refine hK.out _ _ (hB) (fun hHeld => ?_); clear hK K; (try simp only [Act.put, List.setIfInBounds_toArray, List.set_cons_zero, List.set_cons_succ])
        refine wpAnyH_ready (rs := [5]) (by kernel_rfl) (by simp) ?_; refine AllReadyH.cons (o := ?_) ?_ (fun K hK => ?_) AllReadyH.nil; rotate_left 1; (next => simp only [List.getElem?_toArray, List.getElem?_cons_succ, List.getElem?_cons_zero]; rfl); go_simp
        (go_at_call 146; (with_reducible refine (HPB.out _ (bl_call (by repeat' (first | with_reducible assumption | with_reducible refine bl_alloc ?_ _ | with_reducible refine bl_drew ?_)) HBW) _ _ _).mono ?_); rintro e v51 ⟨rfl, hb⟩)
        have hB : Below u2.heap.size u2 v51 := bl_call hb hB
        have z7_0 := keep_cell hb z7_0
        have z7_1 := keep_cell hb z7_1
        have z7_2 := keep_cell hb z7_2
        have g7_0 := (hb.frozen (p := ⟨u2.heap.size, 0, none⟩) l7).trans g7_0
        have g7_1 := (hb.frozen (p := ⟨u2.heap.size, 1, none⟩) l7).trans g7_1
        have g7_2 := (hb.frozen (p := ⟨u2.heap.size, 2, none⟩) l7).trans g7_2
        have l7 := Nat.lt_of_lt_of_le l7 hb.size
        have z6_0 := keep_cell hb z6_0
        have z6_1 := keep_cell hb z6_1
        have z6_2 := keep_cell hb z6_2
        have g6_0 := (hb.frozen (p := ⟨v45.heap.size, 0, none⟩) l6).trans g6_0
        have g6_1 := (hb.frozen (p := ⟨v45.heap.size, 1, none⟩) l6).trans g6_1
        have g6_2 := (hb.frozen (p := ⟨v45.heap.size, 2, none⟩) l6).trans g6_2
        have l6 := Nat.lt_of_lt_of_le l6 hb.size
        clear hb
        (try go_wp2_with fail); refine hK.out _ _ (hB) (fun hHeld => ?_); clear hK K; (try simp only [Act.put, List.setIfInBounds_toArray, List.set_cons_zero, List.set_cons_succ])
        refine wpAnyH_ready (rs := [8]) (by kernel_rfl) (by simp) ?_; refine AllReadyH.cons (o := ?_) ?_ (fun K hK => ?_) AllReadyH.nil; rotate_left 1; (next => simp only [List.getElem?_toArray, List.getElem?_cons_succ, List.getElem?_cons_zero]; rfl); go_simp
        have hB : Below u2.heap.size u2 (((v51.setCell ⟨v45.heap.size, 0, none⟩ (.int .i64 x0)).setCell ⟨v45.heap.size, 1, none⟩ (.int .i64 x1)).setCell ⟨v45.heap.size, 2, none⟩ (.bool x2)) := bl_set (bl_set (bl_set hB ge6 _) ge6 _) ge6 _
        have y_0 : (((v51.setCell ⟨v45.heap.size, 0, none⟩ (.int .i64 x0)).setCell ⟨v45.heap.size, 1, none⟩ (.int .i64 x1)).setCell ⟨v45.heap.size, 2, none⟩ (.bool x2)).cell? ⟨v45.heap.size, 0, none⟩ = some (.int .i64 x0) := by simp [go_sem, z6_0, z6_1, z6_2]
        have y_1 : (((v51.setCell ⟨v45.heap.size, 0, none⟩ (.int .i64 x0)).setCell ⟨v45.heap.size, 1, none⟩ (.int .i64 x1)).setCell ⟨v45.heap.size, 2, none⟩ (.bool x2)).cell? ⟨v45.heap.size, 1, none⟩ = some (.int .i64 x1) := by simp [go_sem, z6_0, z6_1, z6_2]
        have y_2 : (((v51.setCell ⟨v45.heap.size, 0, none⟩ (.int .i64 x0)).setCell ⟨v45.heap.size, 1, none⟩ (.int .i64 x1)).setCell ⟨v45.heap.size, 2, none⟩ (.bool x2)).cell? ⟨v45.heap.size, 2, none⟩ = some (.bool x2) := by simp [go_sem, z6_0, z6_1, z6_2]
        have z6_0 := y_0
        have z6_1 := y_1
        have z6_2 := y_2
        clear y_0 y_1 y_2
        have z7_0 := keep_far3 (x := .int .i64 x0) (y := .int .i64 x1) (z := .bool x2) z7_0 ne7_6
        have g7_0 : (((v51.setCell ⟨v45.heap.size, 0, none⟩ (.int .i64 x0)).setCell ⟨v45.heap.size, 1, none⟩ (.int .i64 x1)).setCell ⟨v45.heap.size, 2, none⟩ (.bool x2)).frozen? ⟨u2.heap.size, 0, none⟩ = false := by simp only [World.frozen?_setCell]; exact g7_0
        have z7_1 := keep_far3 (x := .int .i64 x0) (y := .int .i64 x1) (z := .bool x2) z7_1 ne7_6
        have g7_1 : (((v51.setCell ⟨v45.heap.size, 0, none⟩ (.int .i64 x0)).setCell ⟨v45.heap.size, 1, none⟩ (.int .i64 x1)).setCell ⟨v45.heap.size, 2, none⟩ (.bool x2)).frozen? ⟨u2.heap.size, 1, none⟩ = false := by simp only [World.frozen?_setCell]; exact g7_1
        have z7_2 := keep_far3 (x := .int .i64 x0) (y := .int .i64 x1) (z := .bool x2) z7_2 ne7_6
        have g7_2 : (((v51.setCell ⟨v45.heap.size, 0, none⟩ (.int .i64 x0)).setCell ⟨v45.heap.size, 1, none⟩ (.int .i64 x1)).setCell ⟨v45.heap.size, 2, none⟩ (.bool x2)).frozen? ⟨u2.heap.size, 2, none⟩ = false := by simp only [World.frozen?_setCell]; exact g7_2
        have l7 : u2.heap.size < (((v51.setCell ⟨v45.heap.size, 0, none⟩ (.int .i64 x0)).setCell ⟨v45.heap.size, 1, none⟩ (.int .i64 x1)).setCell ⟨v45.heap.size, 2, none⟩ (.bool x2)).heap.size := by simpa using l7
        have g6_0 : (((v51.setCell ⟨v45.heap.size, 0, none⟩ (.int .i64 x0)).setCell ⟨v45.heap.size, 1, none⟩ (.int .i64 x1)).setCell ⟨v45.heap.size, 2, none⟩ (.bool x2)).frozen? ⟨v45.heap.size, 0, none⟩ = false := by simp only [World.frozen?_setCell]; exact g6_0
        have g6_1 : (((v51.setCell ⟨v45.heap.size, 0, none⟩ (.int .i64 x0)).setCell ⟨v45.heap.size, 1, none⟩ (.int .i64 x1)).setCell ⟨v45.heap.size, 2, none⟩ (.bool x2)).frozen? ⟨v45.heap.size, 1, none⟩ = false := by simp only [World.frozen?_setCell]; exact g6_1
        have g6_2 : (((v51.setCell ⟨v45.heap.size, 0, none⟩ (.int .i64 x0)).setCell ⟨v45.heap.size, 1, none⟩ (.int .i64 x1)).setCell ⟨v45.heap.size, 2, none⟩ (.bool x2)).frozen? ⟨v45.heap.size, 2, none⟩ = false := by simp only [World.frozen?_setCell]; exact g6_2
        have l6 : v45.heap.size < (((v51.setCell ⟨v45.heap.size, 0, none⟩ (.int .i64 x0)).setCell ⟨v45.heap.size, 1, none⟩ (.int .i64 x1)).setCell ⟨v45.heap.size, 2, none⟩ (.bool x2)).heap.size := by simpa using l6
        obtain ⟨v52, hv_⟩ : ∃ v_, v_ = (((v51.setCell ⟨v45.heap.size, 0, none⟩ (.int .i64 x0)).setCell ⟨v45.heap.size, 1, none⟩ (.int .i64 x1)).setCell ⟨v45.heap.size, 2, none⟩ (.bool x2)) := ⟨_, rfl⟩
        rw [← hv_] at hB z6_0 z6_1 z6_2 z7_0 g7_0 z7_1 g7_1 z7_2 g7_2 l7 g6_0 g6_1 g6_2 l6 ⊢
        clear hv_
        (try go_wp2_with fail); refine hK.out _ _ (hB) (fun hHeld => ?_); clear hK K; (try simp only [Act.put, List.setIfInBounds_toArray, List.set_cons_zero, List.set_cons_succ])
        refine wpAnyH_ready (rs := [9]) (by kernel_rfl) (by simp) ?_; refine AllReadyH.cons (o := ?_) ?_ (fun K hK => ?_) AllReadyH.nil; rotate_left 1; (next => simp only [List.getElem?_toArray, List.getElem?_cons_succ, List.getElem?_cons_zero]; rfl); go_simp
        have hB : Below u2.heap.size u2 (((v52.setCell ⟨u2.heap.size, 0, none⟩ (.int .i64 y0)).setCell ⟨u2.heap.size, 1, none⟩ (.int .i64 y1)).setCell ⟨u2.heap.size, 2, none⟩ (.bool y2)) := bl_set (bl_set (bl_set hB ge7 _) ge7 _) ge7 _
        have y_0 : (((v52.setCell ⟨u2.heap.size, 0, none⟩ (.int .i64 y0)).setCell ⟨u2.heap.size, 1, none⟩ (.int .i64 y1)).setCell ⟨u2.heap.size, 2, none⟩ (.bool y2)).cell? ⟨u2.heap.size, 0, none⟩ = some (.int .i64 y0) := by simp [go_sem, z7_0, z7_1, z7_2]
        have y_1 : (((v52.setCell ⟨u2.heap.size, 0, none⟩ (.int .i64 y0)).setCell ⟨u2.heap.size, 1, none⟩ (.int .i64 y1)).setCell ⟨u2.heap.size, 2, none⟩ (.bool y2)).cell? ⟨u2.heap.size, 1, none⟩ = some (.int .i64 y1) := by simp [go_sem, z7_0, z7_1, z7_2]
        have y_2 : (((v52.setCell ⟨u2.heap.size, 0, none⟩ (.int .i64 y0)).setCell ⟨u2.heap.size, 1, none⟩ (.int .i64 y1)).setCell ⟨u2.heap.size, 2, none⟩ (.bool y2)).cell? ⟨u2.heap.size, 2, none⟩ = some (.bool y2) := by simp [go_sem, z7_0, z7_1, z7_2]
        have z7_0 := y_0
        have z7_1 := y_1
        have z7_2 := y_2
        clear y_0 y_1 y_2
        have g7_0 : (((v52.setCell ⟨u2.heap.size, 0, none⟩ (.int .i64 y0)).setCell ⟨u2.heap.size, 1, none⟩ (.int .i64 y1)).setCell ⟨u2.heap.size, 2, none⟩ (.bool y2)).frozen? ⟨u2.heap.size, 0, none⟩ = false := by simp only [World.frozen?_setCell]; exact g7_0
        have g7_1 : (((v52.setCell ⟨u2.heap.size, 0, none⟩ (.int .i64 y0)).setCell ⟨u2.heap.size, 1, none⟩ (.int .i64 y1)).setCell ⟨u2.heap.size, 2, none⟩ (.bool y2)).frozen? ⟨u2.heap.size, 1, none⟩ = false := by simp only [World.frozen?_setCell]; exact g7_1
        have g7_2 : (((v52.setCell ⟨u2.heap.size, 0, none⟩ (.int .i64 y0)).setCell ⟨u2.heap.size, 1, none⟩ (.int .i64 y1)).setCell ⟨u2.heap.size, 2, none⟩ (.bool y2)).frozen? ⟨u2.heap.size, 2, none⟩ = false := by simp only [World.frozen?_setCell]; exact g7_2
        have l7 : u2.heap.size < (((v52.setCell ⟨u2.heap.size, 0, none⟩ (.int .i64 y0)).setCell ⟨u2.heap.size, 1, none⟩ (.int .i64 y1)).setCell ⟨u2.heap.size, 2, none⟩ (.bool y2)).heap.size := by simpa using l7
        have z6_0 := keep_far3 (x := .int .i64 y0) (y := .int .i64 y1) (z := .bool y2) z6_0 ne7_6.symm
        have g6_0 : (((v52.setCell ⟨u2.heap.size, 0, none⟩ (.int .i64 y0)).setCell ⟨u2.heap.size, 1, none⟩ (.int .i64 y1)).setCell ⟨u2.heap.size, 2, none⟩ (.bool y2)).frozen? ⟨v45.heap.size, 0, none⟩ = false := by simp only [World.frozen?_setCell]; exact g6_0
        have z6_1 := keep_far3 (x := .int .i64 y0) (y := .int .i64 y1) (z := .bool y2) z6_1 ne7_6.symm
        have g6_1 : (((v52.setCell ⟨u2.heap.size, 0, none⟩ (.int .i64 y0)).setCell ⟨u2.heap.size, 1, none⟩ (.int .i64 y1)).setCell ⟨u2.heap.size, 2, none⟩ (.bool y2)).frozen? ⟨v45.heap.size, 1, none⟩ = false := by simp only [World.frozen?_setCell]; exact g6_1
        have z6_2 := keep_far3 (x := .int .i64 y0) (y := .int .i64 y1) (z := .bool y2) z6_2 ne7_6.symm
        have g6_2 : (((v52.setCell ⟨u2.heap.size, 0, none⟩ (.int .i64 y0)).setCell ⟨u2.heap.size, 1, none⟩ (.int .i64 y1)).setCell ⟨u2.heap.size, 2, none⟩ (.bool y2)).frozen? ⟨v45.heap.size, 2, none⟩ = false := by simp only [World.frozen?_setCell]; exact g6_2
        have l6 : v45.heap.size < (((v52.setCell ⟨u2.heap.size, 0, none⟩ (.int .i64 y0)).setCell ⟨u2.heap.size, 1, none⟩ (.int .i64 y1)).setCell ⟨u2.heap.size, 2, none⟩ (.bool y2)).heap.size := by simpa using l6
        obtain ⟨v53, hv_⟩ : ∃ v_, v_ = (((v52.setCell ⟨u2.heap.size, 0, none⟩ (.int .i64 y0)).setCell ⟨u2.heap.size, 1, none⟩ (.int .i64 y1)).setCell ⟨u2.heap.size, 2, none⟩ (.bool y2)) := ⟨_, rfl⟩
        rw [← hv_] at hB z7_0 z7_1 z7_2 g7_0 g7_1 g7_2 l7 z6_0 g6_0 z6_1 g6_1 z6_2 g6_2 l6 ⊢
        clear hv_
        (try go_wp2_with fail); refine hK.out _ _ (hB) (fun hHeld => ?_); clear hK K; (try simp only [Act.put, List.setIfInBounds_toArray, List.set_cons_zero, List.set_cons_succ])
        refine wpAnyH_done (by kernel_rfl) ?_ _
        (go_wp2_with fail; go_meet)
        exact ⟨_, _, rfl, rfl, z6_2, z7_1, z7_2, hB⟩
      refine AllReadyH.cons (o := ?_) ?_ (fun K hK => ?_) AllReadyH.nil; rotate_left 1; (next => simp only [List.getElem?_toArray, List.getElem?_cons_succ, List.getElem?_cons_zero]; rfl)
      go_simp
      have ge6 : u2.heap.size ≤ v44.heap.size := hB.size
      have ne7_6 : u2.heap.size ≠ v44.heap.size := Nat.ne_of_lt l7
      have hb := bl_alloc (bl_refl v44) (.cells #[.int .i64 0, .int .i64 0, .bool false] 164)
      have z7_0 := keep_cell hb z7_0
      have z7_1 := keep_cell hb z7_1
      have z7_2 := keep_cell hb z7_2
      have g7_0 := (hb.frozen (p := ⟨u2.heap.size, 0, none⟩) l7).trans g7_0
      have g7_1 := (hb.frozen (p := ⟨u2.heap.size, 1, none⟩) l7).trans g7_1
      have g7_2 := (hb.frozen (p := ⟨u2.heap.size, 2, none⟩) l7).trans g7_2
      have l7 := Nat.lt_of_lt_of_le l7 hb.size
      have z6_0 : (v44.alloc (.cells #[.int .i64 0, .int .i64 0, .bool false] 164)).cell? ⟨v44.heap.size, 0, none⟩ = some (.int .i64 0) := by simp [go_sem]
      have z6_1 : (v44.alloc (.cells #[.int .i64 0, .int .i64 0, .bool false] 164)).cell? ⟨v44.heap.size, 1, none⟩ = some (.int .i64 0) := by simp [go_sem]
      have z6_2 : (v44.alloc (.cells #[.int .i64 0, .int .i64 0, .bool false] 164)).cell? ⟨v44.heap.size, 2, none⟩ = some (.bool false) := by simp [go_sem]
      have g6_0 : (v44.alloc (.cells #[.int .i64 0, .int .i64 0, .bool false] 164)).frozen? ⟨v44.heap.size, 0, none⟩ = false := by simp [go_sem]
      have g6_1 : (v44.alloc (.cells #[.int .i64 0, .int .i64 0, .bool false] 164)).frozen? ⟨v44.heap.size, 1, none⟩ = false := by simp [go_sem]
      have g6_2 : (v44.alloc (.cells #[.int .i64 0, .int .i64 0, .bool false] 164)).frozen? ⟨v44.heap.size, 2, none⟩ = false := by simp [go_sem]
      have l6 : v44.heap.size < (v44.alloc (.cells #[.int .i64 0, .int .i64 0, .bool false] 164)).heap.size := by simp
      obtain ⟨v54, hv_⟩ : ∃ v_, v_ = (v44.alloc (.cells #[.int .i64 0, .int .i64 0, .bool false] 164)) := ⟨_, rfl⟩
      rw [← hv_] at hb z7_0 g7_0 z7_1 g7_1 z7_2 g7_2 l7 z6_0 z6_1 z6_2 g6_0 g6_1 g6_2 l6 ⊢
      clear hv_
      have hB : Below u2.heap.size u2 v54 := bl_call hb hB
      clear hb
      (try go_wp2_with fail); refine hK.out _ _ (hB) (fun hHeld => ?_); clear hK K; (try simp only [Act.put, List.setIfInBounds_toArray, List.set_cons_zero, List.set_cons_succ])
      refine wpAnyH_ready (rs := [2]) (by kernel_rfl) (by simp) ?_; refine AllReadyH.cons (o := ?_) ?_ (fun K hK => ?_) AllReadyH.nil; rotate_left 1; (next => simp only [List.getElem?_toArray, List.getElem?_cons_succ, List.getElem?_cons_zero]; rfl); go_simp
      (go_at_call 146; (with_reducible refine (HPA.out _ (bl_call (by repeat' (first | with_reducible assumption | with_reducible refine bl_alloc ?_ _ | with_reducible refine bl_drew ?_)) HBW) _ _ _).mono ?_); rintro e v55 ⟨rfl, hb⟩)
      have hB : Below u2.heap.size u2 v55 := bl_call hb hB
      have z7_0 := keep_cell hb z7_0
      have z7_1 := keep_cell hb z7_1
      have z7_2 := keep_cell hb z7_2
      have g7_0 := (hb.frozen (p := ⟨u2.heap.size, 0, none⟩) l7).trans g7_0
      have g7_1 := (hb.frozen (p := ⟨u2.heap.size, 1, none⟩) l7).trans g7_1
      have g7_2 := (hb.frozen (p := ⟨u2.heap.size, 2, none⟩) l7).trans g7_2
      have l7 := Nat.lt_of_lt_of_le l7 hb.size
      have z6_0 := keep_cell hb z6_0
      have z6_1 := keep_cell hb z6_1
      have z6_2 := keep_cell hb z6_2
      have g6_0 := (hb.frozen (p := ⟨v44.heap.size, 0, none⟩) l6).trans g6_0
      have g6_1 := (hb.frozen (p := ⟨v44.heap.size, 1, none⟩) l6).trans g6_1
      have g6_2 := (hb.frozen (p := ⟨v44.heap.size, 2, none⟩) l6).trans g6_2
      have l6 := Nat.lt_of_lt_of_le l6 hb.size
      clear hb
      (try go_wp2_with fail); refine hK.out _ _ (hB) (fun hHeld => ?_); clear hK K; (try simp only [Act.put, List.setIfInBounds_toArray, List.set_cons_zero, List.set_cons_succ])
      refine wpAnyH_ready (rs := [5]) (by kernel_rfl) (by simp) ?_; refine AllReadyH.cons (o := ?_) ?_ (fun K hK => ?_) AllReadyH.nil; rotate_left 1; (next => simp only [List.getElem?_toArray, List.getElem?_cons_succ, List.getElem?_cons_zero]; rfl); go_simp
      (go_at_call 146; (with_reducible refine (HPB.out _ (bl_call (by repeat' (first | with_reducible assumption | with_reducible refine bl_alloc ?_ _ | with_reducible refine bl_drew ?_)) HBW) _ _ _).mono ?_); rintro e v56 ⟨rfl, hb⟩)
      have hB : Below u2.heap.size u2 v56 := bl_call hb hB
      have z7_0 := keep_cell hb z7_0
      have z7_1 := keep_cell hb z7_1
      have z7_2 := keep_cell hb z7_2
      have g7_0 := (hb.frozen (p := ⟨u2.heap.size, 0, none⟩) l7).trans g7_0
      have g7_1 := (hb.frozen (p := ⟨u2.heap.size, 1, none⟩) l7).trans g7_1
      have g7_2 := (hb.frozen (p := ⟨u2.heap.size, 2, none⟩) l7).trans g7_2
      have l7 := Nat.lt_of_lt_of_le l7 hb.size
      have z6_0 := keep_cell hb z6_0
      have z6_1 := keep_cell hb z6_1
      have z6_2 := keep_cell hb z6_2
      have g6_0 := (hb.frozen (p := ⟨v44.heap.size, 0, none⟩) l6).trans g6_0
      have g6_1 := (hb.frozen (p := ⟨v44.heap.size, 1, none⟩) l6).trans g6_1
      have g6_2 := (hb.frozen (p := ⟨v44.heap.size, 2, none⟩) l6).trans g6_2
      have l6 := Nat.lt_of_lt_of_le l6 hb.size
      clear hb
      (try go_wp2_with fail); refine hK.out _ _ (hB) (fun hHeld => ?_); clear hK K; (try simp only [Act.put, List.setIfInBounds_toArray, List.set_cons_zero, List.set_cons_succ])
      refine wpAnyH_ready (rs := [8]) (by kernel_rfl) (by simp) ?_; refine AllReadyH.cons (o := ?_) ?_ (fun K hK => ?_) AllReadyH.nil; rotate_left 1; (next => simp only [List.getElem?_toArray, List.getElem?_cons_succ, List.getElem?_cons_zero]; rfl); go_simp
      have hB : Below u2.heap.size u2 (((v56.setCell ⟨v44.heap.size, 0, none⟩ (.int .i64 x0)).setCell ⟨v44.heap.size, 1, none⟩ (.int .i64 x1)).setCell ⟨v44.heap.size, 2, none⟩ (.bool x2)) := bl_set (bl_set (bl_set hB ge6 _) ge6 _) ge6 _
      have y_0 : (((v56.setCell ⟨v44.heap.size, 0, none⟩ (.int .i64 x0)).setCell ⟨v44.heap.size, 1, none⟩ (.int .i64 x1)).setCell ⟨v44.heap.size, 2, none⟩ (.bool x2)).cell? ⟨v44.heap.size, 0, none⟩ = some (.int .i64 x0) := by simp [go_sem, z6_0, z6_1, z6_2]
      have y_1 : (((v56.setCell ⟨v44.heap.size, 0, none⟩ (.int .i64 x0)).setCell ⟨v44.heap.size, 1, none⟩ (.int .i64 x1)).setCell ⟨v44.heap.size, 2, none⟩ (.bool x2)).cell? ⟨v44.heap.size, 1, none⟩ = some (.int .i64 x1) := by simp [go_sem, z6_0, z6_1, z6_2]
      have y_2 : (((v56.setCell ⟨v44.heap.size, 0, none⟩ (.int .i64 x0)).setCell ⟨v44.heap.size, 1, none⟩ (.int .i64 x1)).setCell ⟨v44.heap.size, 2, none⟩ (.bool x2)).cell? ⟨v44.heap.size, 2, none⟩ = some (.bool x2) := by simp [go_sem, z6_0, z6_1, z6_2]
      have z6_0 := y_0
      have z6_1 := y_1
      have z6_2 := y_2
      clear y_0 y_1 y_2
      have z7_0 := keep_far3 (x := .int .i64 x0) (y := .int .i64 x1) (z := .bool x2) z7_0 ne7_6
      have g7_0 : (((v56.setCell ⟨v44.heap.size, 0, none⟩ (.int .i64 x0)).setCell ⟨v44.heap.size, 1, none⟩ (.int .i64 x1)).setCell ⟨v44.heap.size, 2, none⟩ (.bool x2)).frozen? ⟨u2.heap.size, 0, none⟩ = false := by simp only [World.frozen?_setCell]; exact g7_0
      have z7_1 := keep_far3 (x := .int .i64 x0) (y := .int .i64 x1) (z := .bool x2) z7_1 ne7_6
      have g7_1 : (((v56.setCell ⟨v44.heap.size, 0, none⟩ (.int .i64 x0)).setCell ⟨v44.heap.size, 1, none⟩ (.int .i64 x1)).setCell ⟨v44.heap.size, 2, none⟩ (.bool x2)).frozen? ⟨u2.heap.size, 1, none⟩ = false := by simp only [World.frozen?_setCell]; exact g7_1
      have z7_2 := keep_far3 (x := .int .i64 x0) (y := .int .i64 x1) (z := .bool x2) z7_2 ne7_6
      have g7_2 : (((v56.setCell ⟨v44.heap.size, 0, none⟩ (.int .i64 x0)).setCell ⟨v44.heap.size, 1, none⟩ (.int .i64 x1)).setCell ⟨v44.heap.size, 2, none⟩ (.bool x2)).frozen? ⟨u2.heap.size, 2, none⟩ = false := by simp only [World.frozen?_setCell]; exact g7_2
      have l7 : u2.heap.size < (((v56.setCell ⟨v44.heap.size, 0, none⟩ (.int .i64 x0)).setCell ⟨v44.heap.size, 1, none⟩ (.int .i64 x1)).setCell ⟨v44.heap.size, 2, none⟩ (.bool x2)).heap.size := by simpa using l7
      have g6_0 : (((v56.setCell ⟨v44.heap.size, 0, none⟩ (.int .i64 x0)).setCell ⟨v44.heap.size, 1, none⟩ (.int .i64 x1)).setCell ⟨v44.heap.size, 2, none⟩ (.bool x2)).frozen? ⟨v44.heap.size, 0, none⟩ = false := by simp only [World.frozen?_setCell]; exact g6_0
      have g6_1 : (((v56.setCell ⟨v44.heap.size, 0, none⟩ (.int .i64 x0)).setCell ⟨v44.heap.size, 1, none⟩ (.int .i64 x1)).setCell ⟨v44.heap.size, 2, none⟩ (.bool x2)).frozen? ⟨v44.heap.size, 1, none⟩ = false := by simp only [World.frozen?_setCell]; exact g6_1
      have g6_2 : (((v56.setCell ⟨v44.heap.size, 0, none⟩ (.int .i64 x0)).setCell ⟨v44.heap.size, 1, none⟩ (.int .i64 x1)).setCell ⟨v44.heap.size, 2, none⟩ (.bool x2)).frozen? ⟨v44.heap.size, 2, none⟩ = false := by simp only [World.frozen?_setCell]; exact g6_2
      have l6 : v44.heap.size < (((v56.setCell ⟨v44.heap.size, 0, none⟩ (.int .i64 x0)).setCell ⟨v44.heap.size, 1, none⟩ (.int .i64 x1)).setCell ⟨v44.heap.size, 2, none⟩ (.bool x2)).heap.size := by simpa using l6
      obtain ⟨v57, hv_⟩ : ∃ v_, v_ = (((v56.setCell ⟨v44.heap.size, 0, none⟩ (.int .i64 x0)).setCell ⟨v44.heap.size, 1, none⟩ (.int .i64 x1)).setCell ⟨v44.heap.size, 2, none⟩ (.bool x2)) := ⟨_, rfl⟩
      rw [← hv_] at hB z6_0 z6_1 z6_2 z7_0 g7_0 z7_1 g7_1 z7_2 g7_2 l7 g6_0 g6_1 g6_2 l6 ⊢
      clear hv_
      (try go_wp2_with fail); refine hK.out _ _ (hB) (fun hHeld => ?_); clear hK K; (try simp only [Act.put, List.setIfInBounds_toArray, List.set_cons_zero, List.set_cons_succ])
      refine wpAnyH_ready (rs := [9]) (by kernel_rfl) (by simp) ?_; refine AllReadyH.cons (o := ?_) ?_ (fun K hK => ?_) AllReadyH.nil; rotate_left 1; (next => simp only [List.getElem?_toArray, List.getElem?_cons_succ, List.getElem?_cons_zero]; rfl); go_simp
      have hB : Below u2.heap.size u2 (((v57.setCell ⟨u2.heap.size, 0, none⟩ (.int .i64 y0)).setCell ⟨u2.heap.size, 1, none⟩ (.int .i64 y1)).setCell ⟨u2.heap.size, 2, none⟩ (.bool y2)) := bl_set (bl_set (bl_set hB ge7 _) ge7 _) ge7 _
      have y_0 : (((v57.setCell ⟨u2.heap.size, 0, none⟩ (.int .i64 y0)).setCell ⟨u2.heap.size, 1, none⟩ (.int .i64 y1)).setCell ⟨u2.heap.size, 2, none⟩ (.bool y2)).cell? ⟨u2.heap.size, 0, none⟩ = some (.int .i64 y0) := by simp [go_sem, z7_0, z7_1, z7_2]
      have y_1 : (((v57.setCell ⟨u2.heap.size, 0, none⟩ (.int .i64 y0)).setCell ⟨u2.heap.size, 1, none⟩ (.int .i64 y1)).setCell ⟨u2.heap.size, 2, none⟩ (.bool y2)).cell? ⟨u2.heap.size, 1, none⟩ = some (.int .i64 y1) := by simp [go_sem, z7_0, z7_1, z7_2]
      have y_2 : (((v57.setCell ⟨u2.heap.size, 0, none⟩ (.int .i64 y0)).setCell ⟨u2.heap.size, 1, none⟩ (.int .i64 y1)).setCell ⟨u2.heap.size, 2, none⟩ (.bool y2)).cell? ⟨u2.heap.size, 2, none⟩ = some (.bool y2) := by simp [go_sem, z7_0, z7_1, z7_2]
      have z7_0 := y_0
      have z7_1 := y_1
      have z7_2 := y_2
      clear y_0 y_1 y_2
      have g7_0 : (((v57.setCell ⟨u2.heap.size, 0, none⟩ (.int .i64 y0)).setCell ⟨u2.heap.size, 1, none⟩ (.int .i64 y1)).setCell ⟨u2.heap.size, 2, none⟩ (.bool y2)).frozen? ⟨u2.heap.size, 0, none⟩ = false := by simp only [World.frozen?_setCell]; exact g7_0
      have g7_1 : (((v57.setCell ⟨u2.heap.size, 0, none⟩ (.int .i64 y0)).setCell ⟨u2.heap.size, 1, none⟩ (.int .i64 y1)).setCell ⟨u2.heap.size, 2, none⟩ (.bool y2)).frozen? ⟨u2.heap.size, 1, none⟩ = false := by simp only [World.frozen?_setCell]; exact g7_1
      have g7_2 : (((v57.setCell ⟨u2.heap.size, 0, none⟩ (.int .i64 y0)).setCell ⟨u2.heap.size, 1, none⟩ (.int .i64 y1)).setCell ⟨u2.heap.size, 2, none⟩ (.bool y2)).frozen? ⟨u2.heap.size, 2, none⟩ = false := by simp only [World.frozen?_setCell]; exact g7_2
      have l7 : u2.heap.size < (((v57.setCell ⟨u2.heap.size, 0, none⟩ (.int .i64 y0)).setCell ⟨u2.heap.size, 1, none⟩ (.int .i64 y1)).setCell ⟨u2.heap.size, 2, none⟩ (.bool y2)).heap.size := by simpa using l7
      have z6_0 := keep_far3 (x := .int .i64 y0) (y := .int .i64 y1) (z := .bool y2) z6_0 ne7_6.symm
      have g6_0 : (((v57.setCell ⟨u2.heap.size, 0, none⟩ (.int .i64 y0)).setCell ⟨u2.heap.size, 1, none⟩ (.int .i64 y1)).setCell ⟨u2.heap.size, 2, none⟩ (.bool y2)).frozen? ⟨v44.heap.size, 0, none⟩ = false := by simp only [World.frozen?_setCell]; exact g6_0
      have z6_1 := keep_far3 (x := .int .i64 y0) (y := .int .i64 y1) (z := .bool y2) z6_1 ne7_6.symm
      have g6_1 : (((v57.setCell ⟨u2.heap.size, 0, none⟩ (.int .i64 y0)).setCell ⟨u2.heap.size, 1, none⟩ (.int .i64 y1)).setCell ⟨u2.heap.size, 2, none⟩ (.bool y2)).frozen? ⟨v44.heap.size, 1, none⟩ = false := by simp only [World.frozen?_setCell]; exact g6_1
      have z6_2 := keep_far3 (x := .int .i64 y0) (y := .int .i64 y1) (z := .bool y2) z6_2 ne7_6.symm
      have g6_2 : (((v57.setCell ⟨u2.heap.size, 0, none⟩ (.int .i64 y0)).setCell ⟨u2.heap.size, 1, none⟩ (.int .i64 y1)).setCell ⟨u2.heap.size, 2, none⟩ (.bool y2)).frozen? ⟨v44.heap.size, 2, none⟩ = false := by simp only [World.frozen?_setCell]; exact g6_2
      have l6 : v44.heap.size < (((v57.setCell ⟨u2.heap.size, 0, none⟩ (.int .i64 y0)).setCell ⟨u2.heap.size, 1, none⟩ (.int .i64 y1)).setCell ⟨u2.heap.size, 2, none⟩ (.bool y2)).heap.size := by simpa using l6
      obtain ⟨v58, hv_⟩ : ∃ v_, v_ = (((v57.setCell ⟨u2.heap.size, 0, none⟩ (.int .i64 y0)).setCell ⟨u2.heap.size, 1, none⟩ (.int .i64 y1)).setCell ⟨u2.heap.size, 2, none⟩ (.bool y2)) := ⟨_, rfl⟩
      rw [← hv_] at hB z7_0 z7_1 z7_2 g7_0 g7_1 g7_2 l7 z6_0 g6_0 z6_1 g6_1 z6_2 g6_2 l6 ⊢
      clear hv_
      (try go_wp2_with fail); refine hK.out _ _ (hB) (fun hHeld => ?_); clear hK K; (try simp only [Act.put, List.setIfInBounds_toArray, List.set_cons_zero, List.set_cons_succ])
      refine wpAnyH_done (by kernel_rfl) ?_ _
      (go_wp2_with fail; go_meet)
      exact ⟨_, _, rfl, rfl, z6_2, z7_1, z7_2, hB⟩
    case rest =>
      obtain ⟨r1, r2, rfl, rfl, c0, c1', c2, hbw⟩ := hcut
      have HB3 := hide (bl_call hbw HBW)
      clear hbw HBW k0 k1 k2 k3
      cases x2
      · go_wp2_with (go_at_call 147; (with_reducible refine (HD.out false _).mono ?_); rintro e w' ⟨rfl, rfl⟩)
        go_ret2
        exact ⟨by rw [HE.out, HV.out]; first | done | rfl, HB3.out⟩
      · go_wp2_with (go_at_call 147; (with_reducible refine (HD.out y2 _).mono ?_); rintro e w' ⟨rfl, rfl⟩)
        go_ret2
        exact ⟨by rw [HE.out, HV.out]; simp, HB3.out⟩
end Go.Proofs.Ytafddofajfcffaa
