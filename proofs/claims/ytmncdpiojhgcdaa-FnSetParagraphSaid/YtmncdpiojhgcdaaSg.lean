/- Several texts of one claim, one behind the other. -/
import Derived.Test.YtmncdpiojhgcdaaSf
import Derived.Test.YtmncdpiojhgcdaaSb
import Derived.Test.YtmncdpiojhgcdaaSa
/- The cost of a line, in the program. -/
namespace Go.Proofs.Ytmncdpiojhgcdaa
open Go.ChangeShapes Go.WideShapes Go.ChangeAt Go.RowKit
set_option linter.unusedVariables false
set_option linter.unusedSimpArgs false

/-- The cost of a line and whether it is allowed. -/
noncomputable def coL (L : List It) (a b d t : Int) : Int × Bool :=
  if hasL L a b && inB d 1 10000 && inB t 0 10000 && decide ((ftL L a b d).1 ≠ 4) && decide ((ftL L a b d).2 ≤ t) then
    (dem (ftL L a b d).2 (tg L b.toNat).p ((decide (0 ≤ a) && (tg L a.toNat).f) && (tg L b.toNat).f), true) else (0, false)
theorem ftL_zero {L : List It} {a b d : Int} (h : (hasL L a b && inB d 1 10000) = true) : (ftL L a b d).1 = 1 ∨ (ftL L a b d).1 = 2 ∨ (ftL L a b d).1 = 3 ∨ (ftL L a b d).1 = 4 := by
  rw [ftL_yes h]
  rcases fit_cases (cl (lgW L a b)) (cl (lgT L a b)) (cl (lgS L a b)) d with ⟨_, e⟩ | ⟨_, e⟩ | ⟨_, _, e⟩ | ⟨_, _, e⟩ <;> rw [e] <;> simp
theorem coL_no {L : List It} {a b d t : Int} (h : (hasL L a b && inB d 1 10000 && inB t 0 10000 && decide ((ftL L a b d).1 ≠ 4) && decide ((ftL L a b d).2 ≤ t)) = false) : coL L a b d t = (0, false) := by unfold coL; rw [h]; rfl
theorem coL_yes {L : List It} {a b d t : Int} (h : (hasL L a b && inB d 1 10000 && inB t 0 10000 && decide ((ftL L a b d).1 ≠ 4) && decide ((ftL L a b d).2 ≤ t)) = true) : coL L a b d t = (dem (ftL L a b d).2 (tg L b.toNat).p ((decide (0 ≤ a) && (tg L a.toNat).f) && (tg L b.toNat).f), true) := by simp only [coL, h, if_true]
theorem pn_ok {x : It} (h : itOk x = true) : pnP x = x.p ∧ pnF x = x.f := by
  unfold pnP pnF
  rcases iok_iff.1 h with h | h | h
  · rw [if_neg (by omega), if_neg (by omega)]; exact ⟨by omega, h.2.2.2.2.2.symm⟩
  · rw [if_neg (by omega), if_neg (by omega)]; exact ⟨by omega, h.2.2.2.2.2.symm⟩
  · rw [if_pos (by omega), if_pos (by omega)]; exact ⟨rfl, rfl⟩
theorem bad_in {n h : Int} (n0 : 0 ≤ n) (h0 : 0 ≤ h) : 0 ≤ bad n h := by
  unfold bad
  split
  · omega
  · split
    · omega
    · have a : 0 ≤ 100 * n * n * n := Int.mul_nonneg (Int.mul_nonneg (Int.mul_nonneg (by omega) n0) n0) n0
      have b : 0 ≤ h * h * h := Int.mul_nonneg (Int.mul_nonneg h0 h0) h0
      have c := Int.ediv_nonneg a b
      omega
theorem ftL_bad {L : List It} (hall : ∀ i, i < L.length → itOk (tg L i) = true) {a b d : Int} (h : (hasL L a b && inB d 1 10000) = true) : 0 ≤ (ftL L a b d).2 := by
  rw [ftL_yes h]
  rw [Bool.and_eq_true] at h
  obtain ⟨p, q, hp, rfl, hpq, hq, _⟩ := hasL_of h.1
  obtain ⟨e1, e2, e3⟩ := lg_eqs (L := L) (q := q) hp
  obtain ⟨b1, b2, b3⟩ := lg_bd (p := p) hall hq (min (fBx L p) q) (Nat.min_le_right _ _)
  rw [← e1] at b1
  rw [← e2] at b2
  rw [← e3] at b3
  rcases fit_cases (cl (lgW L a q)) (cl (lgT L a q)) (cl (lgS L a q)) d with ⟨_, e⟩ | ⟨g, e⟩ | ⟨g, _, e⟩ | ⟨_, _, e⟩ <;> rw [e]
  · exact Int.le_refl _
  · exact bad_in (by omega) (cl_in b2).1
  · exact bad_in (by omega) (cl_in b3).1
  · simp
theorem mayE_p {L : List It} (hall : ∀ i, i < L.length → itOk (tg L i) = true) {q : Nat} (hq : q < L.length) (h : mayE L q = true) : -1000 ≤ (tg L q).p ∧ (tg L q).p ≤ 999 := by
  unfold mayE at h
  rcases iok_iff.1 (hall q hq) with x | x | x
  · omega
  · omega
  · rw [if_neg (by omega), if_pos (by omega)] at h
    have := of_decide_eq_true h
    omega
set_option maxRecDepth 8000 in
set_option maxHeartbeats 8000000 in
theorem cost_i (w : World) {B gp g c1 gs gf gb : Nat} (L : List It) (hps : PS w B gp g c1 gs gf gb L) (hall : ∀ i, i < L.length → itOk (tg L i) = true) (h1 : 1 ≤ L.length ∧ L.length ≤ 60) (a b d t : Int) (wa : -9223372036854775808 ≤ a ∧ a ≤ 9223372036854775807) (wb : -9223372036854775808 ≤ b ∧ b ≤ 9223372036854775807) :
    Calls Try.prog 69 #[.agg #[.slice (some ⟨g, 0, none⟩) L.length c1, .slice (some ⟨gs, 0, none⟩) (L.length + 1) (L.length + 1), .slice (some ⟨gf, 0, none⟩) (L.length + 1) (L.length + 1), .slice (some ⟨gb, 0, none⟩) (L.length + 1) (L.length + 1)], .int .i64 a, .int .i64 b, .int .i64 d, .int .i64 t] w fun e w' => e = .returned (.tuple #[.int .i64 (coL L a b d t).1, .bool (coL L a b d t).2]) ∧ Below w.heap.size w w' := by
  have HPS := hide (ps_made hps.row hps.pr)
  have HF := hide (fit_i _ L HPS.out hall h1 a b d wa wb)
  have HB0 := hide (bl_alloc (bl_refl w) (.cells #[.slice (some ⟨g, 0, none⟩) L.length c1, .slice (some ⟨gs, 0, none⟩) (L.length + 1) (L.length + 1), .slice (some ⟨gf, 0, none⟩) (L.length + 1) (L.length + 1), .slice (some ⟨gb, 0, none⟩) (L.length + 1) (L.length + 1)] 82))
  have HALL := hide hall
  have HROW := hide hps.row
  have k0 := HPS.out.k0; have k1 := HPS.out.k1; have k2 := HPS.out.k2; have k3 := HPS.out.k3
  clear hps wa wb hall
  cases q0 : hasL L a b && inB d 1 10000
  · have E := hide (coL_no (L := L) (a := a) (b := b) (d := d) (t := t) (by rw [q0]; rfl))
    rw [ftL_no q0] at HF
    clear q0
    go_enter Try.func69, Try.ntmps69; go_wp2_with fail; (with_reducible refine HF.out.mono ?_); rintro e u2 ⟨rfl, hb⟩; have HB2 := hide (bl_call hb HB0.out)
    clear hb
    go_wp2
    go_ret2
    exact ⟨by rw [E.out]; first | done | rfl, HB2.out⟩
  have Z := ftL_zero q0
  have ZB := ftL_bad HALL.out q0
  have hline : hasL L a b = true := by rw [Bool.and_eq_true] at q0; exact q0.1
  rcases (by omega : (ftL L a b d).1 = 4 ∨ ((ftL L a b d).1 ≠ 0 ∧ (ftL L a b d).1 ≠ 4)) with h4 | ⟨h0, h4⟩
  · have E := hide (coL_no (L := L) (a := a) (b := b) (d := d) (t := t) (by rw [h4]; simp))
    rw [h4] at HF
    clear q0 Z ZB h4
    go_enter Try.func69, Try.ntmps69; go_wp2_with fail; (with_reducible refine HF.out.mono ?_); rintro e u2 ⟨rfl, hb⟩; have HB2 := hide (bl_call hb HB0.out)
    clear hb
    go_wp2
    go_ret2
    exact ⟨by rw [E.out]; first | done | rfl, HB2.out⟩
  have CO := fun h => coL_no (L := L) (a := a) (b := b) (d := d) (t := t) h
  have CY := fun h => coL_yes (L := L) (a := a) (b := b) (d := d) (t := t) h
  rw [q0] at CO CY
  obtain ⟨F1, hF1⟩ : ∃ F, F = (ftL L a b d).1 := ⟨_, rfl⟩
  obtain ⟨F2, hF2⟩ : ∃ F, F = (ftL L a b d).2 := ⟨_, rfl⟩
  rw [← hF1, ← hF2] at HF CO CY
  rw [← hF1] at h0 h4
  rw [← hF2] at ZB
  have g0 : (F1 == 0) = false := beq_eq_false_iff_ne.2 h0
  have g4 : (F1 == 4) = false := beq_eq_false_iff_ne.2 h4
  cases q2 : inB t 0 10000
  · have E := hide (CO (by rw [q2]; simp))
    clear q0 Z ZB h4 h0 CO CY hF1 hF2
    go_enter Try.func69, Try.ntmps69; go_wp2_with fail; (with_reducible refine HF.out.mono ?_); rintro e u2 ⟨rfl, hb⟩; have HB2 := hide (bl_call hb HB0.out)
    clear hb
    go_wp2_with (go_at_call 113; refine (within_any _ _ _ _).mono ?_; rintro e w' ⟨rfl, rfl⟩)
    go_ret2
    exact ⟨by rw [E.out]; first | done | rfl, HB2.out⟩
  rcases (by omega : t < F2 ∨ F2 ≤ t) with h5 | h5
  · have E := hide (CO (by rw [decide_eq_false (show ¬ F2 ≤ t by omega)]; simp))
    clear q0 Z ZB h4 h0 CO CY hF1 hF2
    go_enter Try.func69, Try.ntmps69; go_wp2_with fail; (with_reducible refine HF.out.mono ?_); rintro e u2 ⟨rfl, hb⟩; have HB2 := hide (bl_call hb HB0.out)
    clear hb
    go_wp2_with (go_at_call 113; refine (within_any _ _ _ _).mono ?_; rintro e w' ⟨rfl, rfl⟩)
    go_ret2
    exact ⟨by rw [E.out]; first | done | rfl, HB2.out⟩
  · have E := CY (by rw [q2, decide_eq_true h4, decide_eq_true h5]; rfl)
    obtain ⟨p, q, hp, rfl, hpq, hq, _, hme, _⟩ := hasL_of hline
    have hp9 := mayE_p HALL.out hq hme
    have eP := (pn_ok (HALL.out q hq)).1
    have eF := (pn_ok (HALL.out q hq)).2
    have PA := fun (u : World) (hb : Below w.heap.size w u) (x1 x2 x3 : Value) => penaltyAt_i u x1 x2 x3 L HALL.out h1.2 (own_below HROW.out hb) a (by omega)
    have PB := fun (u : World) (hb : Below w.heap.size w u) (x1 x2 x3 : Value) => penaltyAt_i u x1 x2 x3 L HALL.out h1.2 (own_below HROW.out hb) (q : Int) (by omega)
    rw [show pa L (q : Int) = (pnW (tg L q), pnP (tg L q), pnF (tg L q)) by unfold pa; rw [if_neg (by omega)]; rfl] at PB
    have xf : (pa L a).2.2 = (decide (0 ≤ a) && (tg L a.toNat).f) := by
      unfold pa
      rcases (by omega : a < 0 ∨ 0 ≤ a) with g | g
      · rw [if_pos g, decide_eq_false (by omega)]; rfl
      · rw [if_neg (by omega), decide_eq_true g]
        show pnF (tg L a.toNat) = _
        rw [(pn_ok (HALL.out a.toNat (by omega))).2]; rfl
    rw [← xf, show (q : Int).toNat = q from rfl, ← eP, ← eF] at E
    rw [← eP] at hp9
    obtain ⟨x0, hx0⟩ : ∃ x, x = (pa L a).1 := ⟨_, rfl⟩
    obtain ⟨x1, hx1⟩ : ∃ x, x = (pa L a).2.1 := ⟨_, rfl⟩
    obtain ⟨x2, hx2⟩ : ∃ x, x = (pa L a).2.2 := ⟨_, rfl⟩
    obtain ⟨y0, hy0⟩ : ∃ x, x = pnW (tg L q) := ⟨_, rfl⟩
    obtain ⟨y1, hy1⟩ : ∃ x, x = pnP (tg L q) := ⟨_, rfl⟩
    obtain ⟨y2, hy2⟩ : ∃ x, x = pnF (tg L q) := ⟨_, rfl⟩
    rw [← hx0, ← hx1, ← hx2] at PA
    rw [← hy0, ← hy1, ← hy2] at PB
    rw [← hy1] at hp9
    rw [← hx2, ← hy1, ← hy2] at E
    have ht := inB_iff.1 q2
    have HD := hide (fun (f : Bool) (u : World) => Demerits_i F2 y1 f u)
    have HV := hide (fun (f : Bool) => demv_yes (b := F2) (p := y1) f ⟨ZB, by omega⟩ hp9)
    have HPA := hide PA
    have HPB := hide PB
    have HE := hide E
    have hg : decide (t < F2) = false := decide_eq_false (by omega)
    have hnF : F2 ≤ t := h5
    clear q0 Z ZB h4 h0 CO CY hF1 hF2 PA PB hx0 hx1 hx2 hy0 hy1 hy2 E eP eF xf hp9 ht hp hline hme
    go_enter Try.func69, Try.ntmps69; go_wp2_with fail; (with_reducible refine HF.out.mono ?_); rintro e u2 ⟨rfl, hb⟩; have HB2 := hide (bl_call hb HB0.out)
    have k0 := keep_cell hb k0
    have k1 := keep_cell hb k1
    have k2 := keep_cell hb k2
    have k3 := keep_cell hb k3
    have HBW : Below w.heap.size w u2 := HB2.out
    clear hb
    go_upto_region 4 with (go_at_call 113; refine (within_any _ _ _ _).mono ?_; rintro e w' ⟨rfl, rfl⟩)
    go_cut [14, 15] from 14 to 45 (fun x y wx => ∃ r1 r2, x = .pointer (some ⟨r1, 0, none⟩) ∧ y = .pointer (some ⟨r2, 0, none⟩) ∧ wx.cell? ⟨r1, 2, none⟩ = some (.bool x2) ∧ wx.cell? ⟨r2, 1, none⟩ = some (.int .i64 y1) ∧ wx.cell? ⟨r2, 2, none⟩ = some (.bool y2) ∧ Below u2.heap.size u2 wx)
    case first =>
      have hB := bl_drew (bl_refl u2)
      refine wp_region_held_drew (S := fun u : World => Below u2.heap.size u2 u) (by kernel_rfl) (hB) (fun hHeld => ?_)
      refine tkY (i := 0) (oi := ?_) (v := ?_) ?_ (by kernel_rfl) ?_ ?_ ?_ (by assumption) ?_; rotate_left 2; (next => simp only [tka, tkb, tkc]; rfl); (next => exact fun _ _ _ h => h); (next => rfl); (next => intro w_ hSw; (try dsimp only at hSw); have k0 := keep_cell hSw k0; have k1 := keep_cell hSw k1; have k2 := keep_cell hSw k2; have k3 := keep_cell hSw k3; go_simp; (try (with_reducible rfl))); (try simp only [Act.put, tkd, tke, tkf])
      (first | refine tky 1 (h := ?_) | refine tkn 1 (h := ?_)); (try simp only [Act.put, tkd, tke, tkf])
      refine tkY (i := 3) (oi := ?_) (v := ?_) ?_ (by kernel_rfl) ?_ ?_ ?_ (by assumption) ?_; rotate_left 2; (next => simp only [tka, tkb, tkc]; rfl); (next => exact fun _ _ _ h => h); (next => rfl); (next => intro w_ hSw; (try dsimp only at hSw); have k0 := keep_cell hSw k0; have k1 := keep_cell hSw k1; have k2 := keep_cell hSw k2; have k3 := keep_cell hSw k3; go_simp; (try (with_reducible rfl))); (try simp only [Act.put, tkd, tke, tkf])
      (first | refine tky 4 (h := ?_) | refine tkn 4 (h := ?_)); (try simp only [Act.put, tkd, tke, tkf])
      refine wpAnyH_ready (rs := [2, 6, 7]) (by kernel_rfl) (by simp) ?_
      refine AllReadyH.cons (o := ?_) ?_ (fun K hK => ?_) ?_; rotate_left 1; (next => simp only [List.getElem?_toArray, List.getElem?_cons_succ, List.getElem?_cons_zero]; rfl)
      · go_simp
        (go_at_call 114; (with_reducible refine (HPA.out _ (bl_call (by repeat' (first | with_reducible assumption | with_reducible refine bl_alloc ?_ _ | with_reducible refine bl_drew ?_)) HBW) _ _ _).mono ?_); rintro e v1 ⟨rfl, hb⟩)
        have hB : Below u2.heap.size u2 v1 := bl_call hb hB
        clear hb
        (try go_wp2_with fail); refine hK.out _ _ (hB) (fun hHeld => ?_); clear hK K; (try simp only [Act.put, List.setIfInBounds_toArray, List.set_cons_zero, List.set_cons_succ])
        refine wpAnyH_ready (rs := [5, 6, 7]) (by kernel_rfl) (by simp) ?_
        refine AllReadyH.cons (o := ?_) ?_ (fun K hK => ?_) ?_; rotate_left 1; (next => simp only [List.getElem?_toArray, List.getElem?_cons_succ, List.getElem?_cons_zero]; rfl)
        · go_simp
          (go_at_call 114; (with_reducible refine (HPB.out _ (bl_call (by repeat' (first | with_reducible assumption | with_reducible refine bl_alloc ?_ _ | with_reducible refine bl_drew ?_)) HBW) _ _ _).mono ?_); rintro e v2 ⟨rfl, hb⟩)
          have hB : Below u2.heap.size u2 v2 := bl_call hb hB
          clear hb
          (try go_wp2_with fail); refine hK.out _ _ (hB) (fun hHeld => ?_); clear hK K; (try simp only [Act.put, List.setIfInBounds_toArray, List.set_cons_zero, List.set_cons_succ])
          refine wpAnyH_ready (rs := [6, 7]) (by kernel_rfl) (by simp) ?_
          refine AllReadyH.cons (o := ?_) ?_ (fun K hK => ?_) ?_; rotate_left 1; (next => simp only [List.getElem?_toArray, List.getElem?_cons_succ, List.getElem?_cons_zero]; rfl)
          · go_simp
            have ge6 : u2.heap.size ≤ v2.heap.size := hB.size
            have hb := bl_alloc (bl_refl v2) (.cells #[.int .i64 0, .int .i64 0, .bool false] 134)
            have z6_0 : (v2.alloc (.cells #[.int .i64 0, .int .i64 0, .bool false] 134)).cell? ⟨v2.heap.size, 0, none⟩ = some (.int .i64 0) := by simp [go_sem]
            have z6_1 : (v2.alloc (.cells #[.int .i64 0, .int .i64 0, .bool false] 134)).cell? ⟨v2.heap.size, 1, none⟩ = some (.int .i64 0) := by simp [go_sem]
            have z6_2 : (v2.alloc (.cells #[.int .i64 0, .int .i64 0, .bool false] 134)).cell? ⟨v2.heap.size, 2, none⟩ = some (.bool false) := by simp [go_sem]
            have g6_0 : (v2.alloc (.cells #[.int .i64 0, .int .i64 0, .bool false] 134)).frozen? ⟨v2.heap.size, 0, none⟩ = false := by simp [go_sem]
            have g6_1 : (v2.alloc (.cells #[.int .i64 0, .int .i64 0, .bool false] 134)).frozen? ⟨v2.heap.size, 1, none⟩ = false := by simp [go_sem]
            have g6_2 : (v2.alloc (.cells #[.int .i64 0, .int .i64 0, .bool false] 134)).frozen? ⟨v2.heap.size, 2, none⟩ = false := by simp [go_sem]
            have l6 : v2.heap.size < (v2.alloc (.cells #[.int .i64 0, .int .i64 0, .bool false] 134)).heap.size := by simp
            obtain ⟨v3, hv_⟩ : ∃ v_, v_ = (v2.alloc (.cells #[.int .i64 0, .int .i64 0, .bool false] 134)) := ⟨_, rfl⟩
            rw [← hv_] at hb z6_0 z6_1 z6_2 g6_0 g6_1 g6_2 l6 ⊢
            clear hv_
            have hB : Below u2.heap.size u2 v3 := bl_call hb hB
            clear hb
            (try go_wp2_with fail); refine hK.out _ _ (hB) (fun hHeld => ?_); clear hK K; (try simp only [Act.put, List.setIfInBounds_toArray, List.set_cons_zero, List.set_cons_succ])
            refine wpAnyH_ready (rs := [7]) (by kernel_rfl) (by simp) ?_; refine AllReadyH.cons (o := ?_) ?_ (fun K hK => ?_) AllReadyH.nil; rotate_left 1; (next => simp only [List.getElem?_toArray, List.getElem?_cons_succ, List.getElem?_cons_zero]; rfl); go_simp
            have ge7 : u2.heap.size ≤ v3.heap.size := hB.size
            have ne6_7 : v2.heap.size ≠ v3.heap.size := Nat.ne_of_lt l6
            have hb := bl_alloc (bl_refl v3) (.cells #[.int .i64 0, .int .i64 0, .bool false] 134)
            have z6_0 := keep_cell hb z6_0
            have z6_1 := keep_cell hb z6_1
            have z6_2 := keep_cell hb z6_2
            have g6_0 := (hb.frozen (p := ⟨v2.heap.size, 0, none⟩) l6).trans g6_0
            have g6_1 := (hb.frozen (p := ⟨v2.heap.size, 1, none⟩) l6).trans g6_1
            have g6_2 := (hb.frozen (p := ⟨v2.heap.size, 2, none⟩) l6).trans g6_2
            have l6 := Nat.lt_of_lt_of_le l6 hb.size
            have z7_0 : (v3.alloc (.cells #[.int .i64 0, .int .i64 0, .bool false] 134)).cell? ⟨v3.heap.size, 0, none⟩ = some (.int .i64 0) := by simp [go_sem]
            have z7_1 : (v3.alloc (.cells #[.int .i64 0, .int .i64 0, .bool false] 134)).cell? ⟨v3.heap.size, 1, none⟩ = some (.int .i64 0) := by simp [go_sem]
            have z7_2 : (v3.alloc (.cells #[.int .i64 0, .int .i64 0, .bool false] 134)).cell? ⟨v3.heap.size, 2, none⟩ = some (.bool false) := by simp [go_sem]
            have g7_0 : (v3.alloc (.cells #[.int .i64 0, .int .i64 0, .bool false] 134)).frozen? ⟨v3.heap.size, 0, none⟩ = false := by simp [go_sem]
            have g7_1 : (v3.alloc (.cells #[.int .i64 0, .int .i64 0, .bool false] 134)).frozen? ⟨v3.heap.size, 1, none⟩ = false := by simp [go_sem]
            have g7_2 : (v3.alloc (.cells #[.int .i64 0, .int .i64 0, .bool false] 134)).frozen? ⟨v3.heap.size, 2, none⟩ = false := by simp [go_sem]
            have l7 : v3.heap.size < (v3.alloc (.cells #[.int .i64 0, .int .i64 0, .bool false] 134)).heap.size := by simp
            obtain ⟨v4, hv_⟩ : ∃ v_, v_ = (v3.alloc (.cells #[.int .i64 0, .int .i64 0, .bool false] 134)) := ⟨_, rfl⟩
            rw [← hv_] at hb z6_0 g6_0 z6_1 g6_1 z6_2 g6_2 l6 z7_0 z7_1 z7_2 g7_0 g7_1 g7_2 l7 ⊢
            clear hv_
            have hB : Below u2.heap.size u2 v4 := bl_call hb hB
            clear hb
            (try go_wp2_with fail); refine hK.out _ _ (hB) (fun hHeld => ?_); clear hK K; (try simp only [Act.put, List.setIfInBounds_toArray, List.set_cons_zero, List.set_cons_succ])
            refine wpAnyH_ready (rs := [8]) (by kernel_rfl) (by simp) ?_; refine AllReadyH.cons (o := ?_) ?_ (fun K hK => ?_) AllReadyH.nil; rotate_left 1; (next => simp only [List.getElem?_toArray, List.getElem?_cons_succ, List.getElem?_cons_zero]; rfl); go_simp
            have hB : Below u2.heap.size u2 (((v4.setCell ⟨v2.heap.size, 0, none⟩ (.int .i64 x0)).setCell ⟨v2.heap.size, 1, none⟩ (.int .i64 x1)).setCell ⟨v2.heap.size, 2, none⟩ (.bool x2)) := bl_set (bl_set (bl_set hB ge6 _) ge6 _) ge6 _
            have y_0 : (((v4.setCell ⟨v2.heap.size, 0, none⟩ (.int .i64 x0)).setCell ⟨v2.heap.size, 1, none⟩ (.int .i64 x1)).setCell ⟨v2.heap.size, 2, none⟩ (.bool x2)).cell? ⟨v2.heap.size, 0, none⟩ = some (.int .i64 x0) := by simp [go_sem, z6_0, z6_1, z6_2]
            have y_1 : (((v4.setCell ⟨v2.heap.size, 0, none⟩ (.int .i64 x0)).setCell ⟨v2.heap.size, 1, none⟩ (.int .i64 x1)).setCell ⟨v2.heap.size, 2, none⟩ (.bool x2)).cell? ⟨v2.heap.size, 1, none⟩ = some (.int .i64 x1) := by simp [go_sem, z6_0, z6_1, z6_2]
            have y_2 : (((v4.setCell ⟨v2.heap.size, 0, none⟩ (.int .i64 x0)).setCell ⟨v2.heap.size, 1, none⟩ (.int .i64 x1)).setCell ⟨v2.heap.size, 2, none⟩ (.bool x2)).cell? ⟨v2.heap.size, 2, none⟩ = some (.bool x2) := by simp [go_sem, z6_0, z6_1, z6_2]
            have z6_0 := y_0
            have z6_1 := y_1
            have z6_2 := y_2
            clear y_0 y_1 y_2
            have g6_0 : (((v4.setCell ⟨v2.heap.size, 0, none⟩ (.int .i64 x0)).setCell ⟨v2.heap.size, 1, none⟩ (.int .i64 x1)).setCell ⟨v2.heap.size, 2, none⟩ (.bool x2)).frozen? ⟨v2.heap.size, 0, none⟩ = false := by simp only [World.frozen?_setCell]; exact g6_0
            have g6_1 : (((v4.setCell ⟨v2.heap.size, 0, none⟩ (.int .i64 x0)).setCell ⟨v2.heap.size, 1, none⟩ (.int .i64 x1)).setCell ⟨v2.heap.size, 2, none⟩ (.bool x2)).frozen? ⟨v2.heap.size, 1, none⟩ = false := by simp only [World.frozen?_setCell]; exact g6_1
            have g6_2 : (((v4.setCell ⟨v2.heap.size, 0, none⟩ (.int .i64 x0)).setCell ⟨v2.heap.size, 1, none⟩ (.int .i64 x1)).setCell ⟨v2.heap.size, 2, none⟩ (.bool x2)).frozen? ⟨v2.heap.size, 2, none⟩ = false := by simp only [World.frozen?_setCell]; exact g6_2
            have l6 : v2.heap.size < (((v4.setCell ⟨v2.heap.size, 0, none⟩ (.int .i64 x0)).setCell ⟨v2.heap.size, 1, none⟩ (.int .i64 x1)).setCell ⟨v2.heap.size, 2, none⟩ (.bool x2)).heap.size := by simpa using l6
            have z7_0 := keep_far3 (x := .int .i64 x0) (y := .int .i64 x1) (z := .bool x2) z7_0 ne6_7.symm
            have g7_0 : (((v4.setCell ⟨v2.heap.size, 0, none⟩ (.int .i64 x0)).setCell ⟨v2.heap.size, 1, none⟩ (.int .i64 x1)).setCell ⟨v2.heap.size, 2, none⟩ (.bool x2)).frozen? ⟨v3.heap.size, 0, none⟩ = false := by simp only [World.frozen?_setCell]; exact g7_0
            have z7_1 := keep_far3 (x := .int .i64 x0) (y := .int .i64 x1) (z := .bool x2) z7_1 ne6_7.symm
            have g7_1 : (((v4.setCell ⟨v2.heap.size, 0, none⟩ (.int .i64 x0)).setCell ⟨v2.heap.size, 1, none⟩ (.int .i64 x1)).setCell ⟨v2.heap.size, 2, none⟩ (.bool x2)).frozen? ⟨v3.heap.size, 1, none⟩ = false := by simp only [World.frozen?_setCell]; exact g7_1
            have z7_2 := keep_far3 (x := .int .i64 x0) (y := .int .i64 x1) (z := .bool x2) z7_2 ne6_7.symm
            have g7_2 : (((v4.setCell ⟨v2.heap.size, 0, none⟩ (.int .i64 x0)).setCell ⟨v2.heap.size, 1, none⟩ (.int .i64 x1)).setCell ⟨v2.heap.size, 2, none⟩ (.bool x2)).frozen? ⟨v3.heap.size, 2, none⟩ = false := by simp only [World.frozen?_setCell]; exact g7_2
            have l7 : v3.heap.size < (((v4.setCell ⟨v2.heap.size, 0, none⟩ (.int .i64 x0)).setCell ⟨v2.heap.size, 1, none⟩ (.int .i64 x1)).setCell ⟨v2.heap.size, 2, none⟩ (.bool x2)).heap.size := by simpa using l7
            obtain ⟨v5, hv_⟩ : ∃ v_, v_ = (((v4.setCell ⟨v2.heap.size, 0, none⟩ (.int .i64 x0)).setCell ⟨v2.heap.size, 1, none⟩ (.int .i64 x1)).setCell ⟨v2.heap.size, 2, none⟩ (.bool x2)) := ⟨_, rfl⟩
            rw [← hv_] at hB z6_0 z6_1 z6_2 g6_0 g6_1 g6_2 l6 z7_0 g7_0 z7_1 g7_1 z7_2 g7_2 l7 ⊢
            clear hv_
            (try go_wp2_with fail); refine hK.out _ _ (hB) (fun hHeld => ?_); clear hK K; (try simp only [Act.put, List.setIfInBounds_toArray, List.set_cons_zero, List.set_cons_succ])
            refine wpAnyH_ready (rs := [9]) (by kernel_rfl) (by simp) ?_; refine AllReadyH.cons (o := ?_) ?_ (fun K hK => ?_) AllReadyH.nil; rotate_left 1; (next => simp only [List.getElem?_toArray, List.getElem?_cons_succ, List.getElem?_cons_zero]; rfl); go_simp
            have hB : Below u2.heap.size u2 (((v5.setCell ⟨v3.heap.size, 0, none⟩ (.int .i64 y0)).setCell ⟨v3.heap.size, 1, none⟩ (.int .i64 y1)).setCell ⟨v3.heap.size, 2, none⟩ (.bool y2)) := bl_set (bl_set (bl_set hB ge7 _) ge7 _) ge7 _
            have y_0 : (((v5.setCell ⟨v3.heap.size, 0, none⟩ (.int .i64 y0)).setCell ⟨v3.heap.size, 1, none⟩ (.int .i64 y1)).setCell ⟨v3.heap.size, 2, none⟩ (.bool y2)).cell? ⟨v3.heap.size, 0, none⟩ = some (.int .i64 y0) := by simp [go_sem, z7_0, z7_1, z7_2]
            have y_1 : (((v5.setCell ⟨v3.heap.size, 0, none⟩ (.int .i64 y0)).setCell ⟨v3.heap.size, 1, none⟩ (.int .i64 y1)).setCell ⟨v3.heap.size, 2, none⟩ (.bool y2)).cell? ⟨v3.heap.size, 1, none⟩ = some (.int .i64 y1) := by simp [go_sem, z7_0, z7_1, z7_2]
            have y_2 : (((v5.setCell ⟨v3.heap.size, 0, none⟩ (.int .i64 y0)).setCell ⟨v3.heap.size, 1, none⟩ (.int .i64 y1)).setCell ⟨v3.heap.size, 2, none⟩ (.bool y2)).cell? ⟨v3.heap.size, 2, none⟩ = some (.bool y2) := by simp [go_sem, z7_0, z7_1, z7_2]
            have z7_0 := y_0
            have z7_1 := y_1
            have z7_2 := y_2
            clear y_0 y_1 y_2
            have z6_0 := keep_far3 (x := .int .i64 y0) (y := .int .i64 y1) (z := .bool y2) z6_0 ne6_7
            have g6_0 : (((v5.setCell ⟨v3.heap.size, 0, none⟩ (.int .i64 y0)).setCell ⟨v3.heap.size, 1, none⟩ (.int .i64 y1)).setCell ⟨v3.heap.size, 2, none⟩ (.bool y2)).frozen? ⟨v2.heap.size, 0, none⟩ = false := by simp only [World.frozen?_setCell]; exact g6_0
            have z6_1 := keep_far3 (x := .int .i64 y0) (y := .int .i64 y1) (z := .bool y2) z6_1 ne6_7
            have g6_1 : (((v5.setCell ⟨v3.heap.size, 0, none⟩ (.int .i64 y0)).setCell ⟨v3.heap.size, 1, none⟩ (.int .i64 y1)).setCell ⟨v3.heap.size, 2, none⟩ (.bool y2)).frozen? ⟨v2.heap.size, 1, none⟩ = false := by simp only [World.frozen?_setCell]; exact g6_1
            have z6_2 := keep_far3 (x := .int .i64 y0) (y := .int .i64 y1) (z := .bool y2) z6_2 ne6_7
            have g6_2 : (((v5.setCell ⟨v3.heap.size, 0, none⟩ (.int .i64 y0)).setCell ⟨v3.heap.size, 1, none⟩ (.int .i64 y1)).setCell ⟨v3.heap.size, 2, none⟩ (.bool y2)).frozen? ⟨v2.heap.size, 2, none⟩ = false := by simp only [World.frozen?_setCell]; exact g6_2
            have l6 : v2.heap.size < (((v5.setCell ⟨v3.heap.size, 0, none⟩ (.int .i64 y0)).setCell ⟨v3.heap.size, 1, none⟩ (.int .i64 y1)).setCell ⟨v3.heap.size, 2, none⟩ (.bool y2)).heap.size := by simpa using l6
            have g7_0 : (((v5.setCell ⟨v3.heap.size, 0, none⟩ (.int .i64 y0)).setCell ⟨v3.heap.size, 1, none⟩ (.int .i64 y1)).setCell ⟨v3.heap.size, 2, none⟩ (.bool y2)).frozen? ⟨v3.heap.size, 0, none⟩ = false := by simp only [World.frozen?_setCell]; exact g7_0
            have g7_1 : (((v5.setCell ⟨v3.heap.size, 0, none⟩ (.int .i64 y0)).setCell ⟨v3.heap.size, 1, none⟩ (.int .i64 y1)).setCell ⟨v3.heap.size, 2, none⟩ (.bool y2)).frozen? ⟨v3.heap.size, 1, none⟩ = false := by simp only [World.frozen?_setCell]; exact g7_1
            have g7_2 : (((v5.setCell ⟨v3.heap.size, 0, none⟩ (.int .i64 y0)).setCell ⟨v3.heap.size, 1, none⟩ (.int .i64 y1)).setCell ⟨v3.heap.size, 2, none⟩ (.bool y2)).frozen? ⟨v3.heap.size, 2, none⟩ = false := by simp only [World.frozen?_setCell]; exact g7_2
            have l7 : v3.heap.size < (((v5.setCell ⟨v3.heap.size, 0, none⟩ (.int .i64 y0)).setCell ⟨v3.heap.size, 1, none⟩ (.int .i64 y1)).setCell ⟨v3.heap.size, 2, none⟩ (.bool y2)).heap.size := by simpa using l7
            obtain ⟨v6, hv_⟩ : ∃ v_, v_ = (((v5.setCell ⟨v3.heap.size, 0, none⟩ (.int .i64 y0)).setCell ⟨v3.heap.size, 1, none⟩ (.int .i64 y1)).setCell ⟨v3.heap.size, 2, none⟩ (.bool y2)) := ⟨_, rfl⟩
            rw [← hv_] at hB z7_0 z7_1 z7_2 z6_0 g6_0 z6_1 g6_1 z6_2 g6_2 l6 g7_0 g7_1 g7_2 l7 ⊢
            clear hv_
            (try go_wp2_with fail); refine hK.out _ _ (hB) (fun hHeld => ?_); clear hK K; (try simp only [Act.put, List.setIfInBounds_toArray, List.set_cons_zero, List.set_cons_succ])
            refine wpAnyH_done (by kernel_rfl) ?_ _
            (go_wp2_with fail; go_meet)
            exact ⟨_, _, rfl, rfl, z6_2, z7_1, z7_2, hB⟩
          refine AllReadyH.cons (o := ?_) ?_ (fun K hK => ?_) AllReadyH.nil; rotate_left 1; (next => simp only [List.getElem?_toArray, List.getElem?_cons_succ, List.getElem?_cons_zero]; rfl)
          go_simp
          have ge7 : u2.heap.size ≤ v2.heap.size := hB.size
          have hb := bl_alloc (bl_refl v2) (.cells #[.int .i64 0, .int .i64 0, .bool false] 134)
          have z7_0 : (v2.alloc (.cells #[.int .i64 0, .int .i64 0, .bool false] 134)).cell? ⟨v2.heap.size, 0, none⟩ = some (.int .i64 0) := by simp [go_sem]
          have z7_1 : (v2.alloc (.cells #[.int .i64 0, .int .i64 0, .bool false] 134)).cell? ⟨v2.heap.size, 1, none⟩ = some (.int .i64 0) := by simp [go_sem]
          have z7_2 : (v2.alloc (.cells #[.int .i64 0, .int .i64 0, .bool false] 134)).cell? ⟨v2.heap.size, 2, none⟩ = some (.bool false) := by simp [go_sem]
          have g7_0 : (v2.alloc (.cells #[.int .i64 0, .int .i64 0, .bool false] 134)).frozen? ⟨v2.heap.size, 0, none⟩ = false := by simp [go_sem]
          have g7_1 : (v2.alloc (.cells #[.int .i64 0, .int .i64 0, .bool false] 134)).frozen? ⟨v2.heap.size, 1, none⟩ = false := by simp [go_sem]
          have g7_2 : (v2.alloc (.cells #[.int .i64 0, .int .i64 0, .bool false] 134)).frozen? ⟨v2.heap.size, 2, none⟩ = false := by simp [go_sem]
          have l7 : v2.heap.size < (v2.alloc (.cells #[.int .i64 0, .int .i64 0, .bool false] 134)).heap.size := by simp
          obtain ⟨v7, hv_⟩ : ∃ v_, v_ = (v2.alloc (.cells #[.int .i64 0, .int .i64 0, .bool false] 134)) := ⟨_, rfl⟩
          rw [← hv_] at hb z7_0 z7_1 z7_2 g7_0 g7_1 g7_2 l7 ⊢
          clear hv_
          have hB : Below u2.heap.size u2 v7 := bl_call hb hB
          clear hb
          (try go_wp2_with fail); refine hK.out _ _ (hB) (fun hHeld => ?_); clear hK K; (try simp only [Act.put, List.setIfInBounds_toArray, List.set_cons_zero, List.set_cons_succ])
          refine wpAnyH_ready (rs := [6]) (by kernel_rfl) (by simp) ?_; refine AllReadyH.cons (o := ?_) ?_ (fun K hK => ?_) AllReadyH.nil; rotate_left 1; (next => simp only [List.getElem?_toArray, List.getElem?_cons_succ, List.getElem?_cons_zero]; rfl); go_simp
          have ge6 : u2.heap.size ≤ v7.heap.size := hB.size
          have ne7_6 : v2.heap.size ≠ v7.heap.size := Nat.ne_of_lt l7
          have hb := bl_alloc (bl_refl v7) (.cells #[.int .i64 0, .int .i64 0, .bool false] 134)
          have z7_0 := keep_cell hb z7_0
          have z7_1 := keep_cell hb z7_1
          have z7_2 := keep_cell hb z7_2
          have g7_0 := (hb.frozen (p := ⟨v2.heap.size, 0, none⟩) l7).trans g7_0
          have g7_1 := (hb.frozen (p := ⟨v2.heap.size, 1, none⟩) l7).trans g7_1
          have g7_2 := (hb.frozen (p := ⟨v2.heap.size, 2, none⟩) l7).trans g7_2
          have l7 := Nat.lt_of_lt_of_le l7 hb.size
          have z6_0 : (v7.alloc (.cells #[.int .i64 0, .int .i64 0, .bool false] 134)).cell? ⟨v7.heap.size, 0, none⟩ = some (.int .i64 0) := by simp [go_sem]
          have z6_1 : (v7.alloc (.cells #[.int .i64 0, .int .i64 0, .bool false] 134)).cell? ⟨v7.heap.size, 1, none⟩ = some (.int .i64 0) := by simp [go_sem]
          have z6_2 : (v7.alloc (.cells #[.int .i64 0, .int .i64 0, .bool false] 134)).cell? ⟨v7.heap.size, 2, none⟩ = some (.bool false) := by simp [go_sem]
          have g6_0 : (v7.alloc (.cells #[.int .i64 0, .int .i64 0, .bool false] 134)).frozen? ⟨v7.heap.size, 0, none⟩ = false := by simp [go_sem]
          have g6_1 : (v7.alloc (.cells #[.int .i64 0, .int .i64 0, .bool false] 134)).frozen? ⟨v7.heap.size, 1, none⟩ = false := by simp [go_sem]
          have g6_2 : (v7.alloc (.cells #[.int .i64 0, .int .i64 0, .bool false] 134)).frozen? ⟨v7.heap.size, 2, none⟩ = false := by simp [go_sem]
          have l6 : v7.heap.size < (v7.alloc (.cells #[.int .i64 0, .int .i64 0, .bool false] 134)).heap.size := by simp
          obtain ⟨v8, hv_⟩ : ∃ v_, v_ = (v7.alloc (.cells #[.int .i64 0, .int .i64 0, .bool false] 134)) := ⟨_, rfl⟩
          rw [← hv_] at hb z7_0 g7_0 z7_1 g7_1 z7_2 g7_2 l7 z6_0 z6_1 z6_2 g6_0 g6_1 g6_2 l6 ⊢
          clear hv_
          have hB : Below u2.heap.size u2 v8 := bl_call hb hB
          clear hb
          (try go_wp2_with fail); refine hK.out _ _ (hB) (fun hHeld => ?_); clear hK K; (try simp only [Act.put, List.setIfInBounds_toArray, List.set_cons_zero, List.set_cons_succ])
          refine wpAnyH_ready (rs := [8]) (by kernel_rfl) (by simp) ?_; refine AllReadyH.cons (o := ?_) ?_ (fun K hK => ?_) AllReadyH.nil; rotate_left 1; (next => simp only [List.getElem?_toArray, List.getElem?_cons_succ, List.getElem?_cons_zero]; rfl); go_simp
          have hB : Below u2.heap.size u2 (((v8.setCell ⟨v7.heap.size, 0, none⟩ (.int .i64 x0)).setCell ⟨v7.heap.size, 1, none⟩ (.int .i64 x1)).setCell ⟨v7.heap.size, 2, none⟩ (.bool x2)) := bl_set (bl_set (bl_set hB ge6 _) ge6 _) ge6 _
          have y_0 : (((v8.setCell ⟨v7.heap.size, 0, none⟩ (.int .i64 x0)).setCell ⟨v7.heap.size, 1, none⟩ (.int .i64 x1)).setCell ⟨v7.heap.size, 2, none⟩ (.bool x2)).cell? ⟨v7.heap.size, 0, none⟩ = some (.int .i64 x0) := by simp [go_sem, z6_0, z6_1, z6_2]
          have y_1 : (((v8.setCell ⟨v7.heap.size, 0, none⟩ (.int .i64 x0)).setCell ⟨v7.heap.size, 1, none⟩ (.int .i64 x1)).setCell ⟨v7.heap.size, 2, none⟩ (.bool x2)).cell? ⟨v7.heap.size, 1, none⟩ = some (.int .i64 x1) := by simp [go_sem, z6_0, z6_1, z6_2]
          have y_2 : (((v8.setCell ⟨v7.heap.size, 0, none⟩ (.int .i64 x0)).setCell ⟨v7.heap.size, 1, none⟩ (.int .i64 x1)).setCell ⟨v7.heap.size, 2, none⟩ (.bool x2)).cell? ⟨v7.heap.size, 2, none⟩ = some (.bool x2) := by simp [go_sem, z6_0, z6_1, z6_2]
          have z6_0 := y_0
          have z6_1 := y_1
          have z6_2 := y_2
          clear y_0 y_1 y_2
          have z7_0 := keep_far3 (x := .int .i64 x0) (y := .int .i64 x1) (z := .bool x2) z7_0 ne7_6
          have g7_0 : (((v8.setCell ⟨v7.heap.size, 0, none⟩ (.int .i64 x0)).setCell ⟨v7.heap.size, 1, none⟩ (.int .i64 x1)).setCell ⟨v7.heap.size, 2, none⟩ (.bool x2)).frozen? ⟨v2.heap.size, 0, none⟩ = false := by simp only [World.frozen?_setCell]; exact g7_0
          have z7_1 := keep_far3 (x := .int .i64 x0) (y := .int .i64 x1) (z := .bool x2) z7_1 ne7_6
          have g7_1 : (((v8.setCell ⟨v7.heap.size, 0, none⟩ (.int .i64 x0)).setCell ⟨v7.heap.size, 1, none⟩ (.int .i64 x1)).setCell ⟨v7.heap.size, 2, none⟩ (.bool x2)).frozen? ⟨v2.heap.size, 1, none⟩ = false := by simp only [World.frozen?_setCell]; exact g7_1
          have z7_2 := keep_far3 (x := .int .i64 x0) (y := .int .i64 x1) (z := .bool x2) z7_2 ne7_6
          have g7_2 : (((v8.setCell ⟨v7.heap.size, 0, none⟩ (.int .i64 x0)).setCell ⟨v7.heap.size, 1, none⟩ (.int .i64 x1)).setCell ⟨v7.heap.size, 2, none⟩ (.bool x2)).frozen? ⟨v2.heap.size, 2, none⟩ = false := by simp only [World.frozen?_setCell]; exact g7_2
          have l7 : v2.heap.size < (((v8.setCell ⟨v7.heap.size, 0, none⟩ (.int .i64 x0)).setCell ⟨v7.heap.size, 1, none⟩ (.int .i64 x1)).setCell ⟨v7.heap.size, 2, none⟩ (.bool x2)).heap.size := by simpa using l7
          have g6_0 : (((v8.setCell ⟨v7.heap.size, 0, none⟩ (.int .i64 x0)).setCell ⟨v7.heap.size, 1, none⟩ (.int .i64 x1)).setCell ⟨v7.heap.size, 2, none⟩ (.bool x2)).frozen? ⟨v7.heap.size, 0, none⟩ = false := by simp only [World.frozen?_setCell]; exact g6_0
          have g6_1 : (((v8.setCell ⟨v7.heap.size, 0, none⟩ (.int .i64 x0)).setCell ⟨v7.heap.size, 1, none⟩ (.int .i64 x1)).setCell ⟨v7.heap.size, 2, none⟩ (.bool x2)).frozen? ⟨v7.heap.size, 1, none⟩ = false := by simp only [World.frozen?_setCell]; exact g6_1
          have g6_2 : (((v8.setCell ⟨v7.heap.size, 0, none⟩ (.int .i64 x0)).setCell ⟨v7.heap.size, 1, none⟩ (.int .i64 x1)).setCell ⟨v7.heap.size, 2, none⟩ (.bool x2)).frozen? ⟨v7.heap.size, 2, none⟩ = false := by simp only [World.frozen?_setCell]; exact g6_2
          have l6 : v7.heap.size < (((v8.setCell ⟨v7.heap.size, 0, none⟩ (.int .i64 x0)).setCell ⟨v7.heap.size, 1, none⟩ (.int .i64 x1)).setCell ⟨v7.heap.size, 2, none⟩ (.bool x2)).heap.size := by simpa using l6
          obtain ⟨v9, hv_⟩ : ∃ v_, v_ = (((v8.setCell ⟨v7.heap.size, 0, none⟩ (.int .i64 x0)).setCell ⟨v7.heap.size, 1, none⟩ (.int .i64 x1)).setCell ⟨v7.heap.size, 2, none⟩ (.bool x2)) := ⟨_, rfl⟩
          rw [← hv_] at hB z6_0 z6_1 z6_2 z7_0 g7_0 z7_1 g7_1 z7_2 g7_2 l7 g6_0 g6_1 g6_2 l6 ⊢
          clear hv_
          (try go_wp2_with fail); refine hK.out _ _ (hB) (fun hHeld => ?_); clear hK K; (try simp only [Act.put, List.setIfInBounds_toArray, List.set_cons_zero, List.set_cons_succ])
          refine wpAnyH_ready (rs := [9]) (by kernel_rfl) (by simp) ?_; refine AllReadyH.cons (o := ?_) ?_ (fun K hK => ?_) AllReadyH.nil; rotate_left 1; (next => simp only [List.getElem?_toArray, List.getElem?_cons_succ, List.getElem?_cons_zero]; rfl); go_simp
          have hB : Below u2.heap.size u2 (((v9.setCell ⟨v2.heap.size, 0, none⟩ (.int .i64 y0)).setCell ⟨v2.heap.size, 1, none⟩ (.int .i64 y1)).setCell ⟨v2.heap.size, 2, none⟩ (.bool y2)) := bl_set (bl_set (bl_set hB ge7 _) ge7 _) ge7 _
          have y_0 : (((v9.setCell ⟨v2.heap.size, 0, none⟩ (.int .i64 y0)).setCell ⟨v2.heap.size, 1, none⟩ (.int .i64 y1)).setCell ⟨v2.heap.size, 2, none⟩ (.bool y2)).cell? ⟨v2.heap.size, 0, none⟩ = some (.int .i64 y0) := by simp [go_sem, z7_0, z7_1, z7_2]
          have y_1 : (((v9.setCell ⟨v2.heap.size, 0, none⟩ (.int .i64 y0)).setCell ⟨v2.heap.size, 1, none⟩ (.int .i64 y1)).setCell ⟨v2.heap.size, 2, none⟩ (.bool y2)).cell? ⟨v2.heap.size, 1, none⟩ = some (.int .i64 y1) := by simp [go_sem, z7_0, z7_1, z7_2]
          have y_2 : (((v9.setCell ⟨v2.heap.size, 0, none⟩ (.int .i64 y0)).setCell ⟨v2.heap.size, 1, none⟩ (.int .i64 y1)).setCell ⟨v2.heap.size, 2, none⟩ (.bool y2)).cell? ⟨v2.heap.size, 2, none⟩ = some (.bool y2) := by simp [go_sem, z7_0, z7_1, z7_2]
          have z7_0 := y_0
          have z7_1 := y_1
          have z7_2 := y_2
          clear y_0 y_1 y_2
          have g7_0 : (((v9.setCell ⟨v2.heap.size, 0, none⟩ (.int .i64 y0)).setCell ⟨v2.heap.size, 1, none⟩ (.int .i64 y1)).setCell ⟨v2.heap.size, 2, none⟩ (.bool y2)).frozen? ⟨v2.heap.size, 0, none⟩ = false := by simp only [World.frozen?_setCell]; exact g7_0
          have g7_1 : (((v9.setCell ⟨v2.heap.size, 0, none⟩ (.int .i64 y0)).setCell ⟨v2.heap.size, 1, none⟩ (.int .i64 y1)).setCell ⟨v2.heap.size, 2, none⟩ (.bool y2)).frozen? ⟨v2.heap.size, 1, none⟩ = false := by simp only [World.frozen?_setCell]; exact g7_1
          have g7_2 : (((v9.setCell ⟨v2.heap.size, 0, none⟩ (.int .i64 y0)).setCell ⟨v2.heap.size, 1, none⟩ (.int .i64 y1)).setCell ⟨v2.heap.size, 2, none⟩ (.bool y2)).frozen? ⟨v2.heap.size, 2, none⟩ = false := by simp only [World.frozen?_setCell]; exact g7_2
          have l7 : v2.heap.size < (((v9.setCell ⟨v2.heap.size, 0, none⟩ (.int .i64 y0)).setCell ⟨v2.heap.size, 1, none⟩ (.int .i64 y1)).setCell ⟨v2.heap.size, 2, none⟩ (.bool y2)).heap.size := by simpa using l7
          have z6_0 := keep_far3 (x := .int .i64 y0) (y := .int .i64 y1) (z := .bool y2) z6_0 ne7_6.symm
          have g6_0 : (((v9.setCell ⟨v2.heap.size, 0, none⟩ (.int .i64 y0)).setCell ⟨v2.heap.size, 1, none⟩ (.int .i64 y1)).setCell ⟨v2.heap.size, 2, none⟩ (.bool y2)).frozen? ⟨v7.heap.size, 0, none⟩ = false := by simp only [World.frozen?_setCell]; exact g6_0
          have z6_1 := keep_far3 (x := .int .i64 y0) (y := .int .i64 y1) (z := .bool y2) z6_1 ne7_6.symm
          have g6_1 : (((v9.setCell ⟨v2.heap.size, 0, none⟩ (.int .i64 y0)).setCell ⟨v2.heap.size, 1, none⟩ (.int .i64 y1)).setCell ⟨v2.heap.size, 2, none⟩ (.bool y2)).frozen? ⟨v7.heap.size, 1, none⟩ = false := by simp only [World.frozen?_setCell]; exact g6_1
          have z6_2 := keep_far3 (x := .int .i64 y0) (y := .int .i64 y1) (z := .bool y2) z6_2 ne7_6.symm
          have g6_2 : (((v9.setCell ⟨v2.heap.size, 0, none⟩ (.int .i64 y0)).setCell ⟨v2.heap.size, 1, none⟩ (.int .i64 y1)).setCell ⟨v2.heap.size, 2, none⟩ (.bool y2)).frozen? ⟨v7.heap.size, 2, none⟩ = false := by simp only [World.frozen?_setCell]; exact g6_2
          have l6 : v7.heap.size < (((v9.setCell ⟨v2.heap.size, 0, none⟩ (.int .i64 y0)).setCell ⟨v2.heap.size, 1, none⟩ (.int .i64 y1)).setCell ⟨v2.heap.size, 2, none⟩ (.bool y2)).heap.size := by simpa using l6
          obtain ⟨v10, hv_⟩ : ∃ v_, v_ = (((v9.setCell ⟨v2.heap.size, 0, none⟩ (.int .i64 y0)).setCell ⟨v2.heap.size, 1, none⟩ (.int .i64 y1)).setCell ⟨v2.heap.size, 2, none⟩ (.bool y2)) := ⟨_, rfl⟩
          rw [← hv_] at hB z7_0 z7_1 z7_2 g7_0 g7_1 g7_2 l7 z6_0 g6_0 z6_1 g6_1 z6_2 g6_2 l6 ⊢
          clear hv_
          (try go_wp2_with fail); refine hK.out _ _ (hB) (fun hHeld => ?_); clear hK K; (try simp only [Act.put, List.setIfInBounds_toArray, List.set_cons_zero, List.set_cons_succ])
          refine wpAnyH_done (by kernel_rfl) ?_ _
          (go_wp2_with fail; go_meet)
          exact ⟨_, _, rfl, rfl, z6_2, z7_1, z7_2, hB⟩
        refine AllReadyH.cons (o := ?_) ?_ (fun K hK => ?_) ?_; rotate_left 1; (next => simp only [List.getElem?_toArray, List.getElem?_cons_succ, List.getElem?_cons_zero]; rfl)
        · go_simp
          have ge6 : u2.heap.size ≤ v1.heap.size := hB.size
          have hb := bl_alloc (bl_refl v1) (.cells #[.int .i64 0, .int .i64 0, .bool false] 134)
          have z6_0 : (v1.alloc (.cells #[.int .i64 0, .int .i64 0, .bool false] 134)).cell? ⟨v1.heap.size, 0, none⟩ = some (.int .i64 0) := by simp [go_sem]
          have z6_1 : (v1.alloc (.cells #[.int .i64 0, .int .i64 0, .bool false] 134)).cell? ⟨v1.heap.size, 1, none⟩ = some (.int .i64 0) := by simp [go_sem]
          have z6_2 : (v1.alloc (.cells #[.int .i64 0, .int .i64 0, .bool false] 134)).cell? ⟨v1.heap.size, 2, none⟩ = some (.bool false) := by simp [go_sem]
          have g6_0 : (v1.alloc (.cells #[.int .i64 0, .int .i64 0, .bool false] 134)).frozen? ⟨v1.heap.size, 0, none⟩ = false := by simp [go_sem]
          have g6_1 : (v1.alloc (.cells #[.int .i64 0, .int .i64 0, .bool false] 134)).frozen? ⟨v1.heap.size, 1, none⟩ = false := by simp [go_sem]
          have g6_2 : (v1.alloc (.cells #[.int .i64 0, .int .i64 0, .bool false] 134)).frozen? ⟨v1.heap.size, 2, none⟩ = false := by simp [go_sem]
          have l6 : v1.heap.size < (v1.alloc (.cells #[.int .i64 0, .int .i64 0, .bool false] 134)).heap.size := by simp
          obtain ⟨v11, hv_⟩ : ∃ v_, v_ = (v1.alloc (.cells #[.int .i64 0, .int .i64 0, .bool false] 134)) := ⟨_, rfl⟩
          rw [← hv_] at hb z6_0 z6_1 z6_2 g6_0 g6_1 g6_2 l6 ⊢
          clear hv_
          have hB : Below u2.heap.size u2 v11 := bl_call hb hB
          clear hb
          (try go_wp2_with fail); refine hK.out _ _ (hB) (fun hHeld => ?_); clear hK K; (try simp only [Act.put, List.setIfInBounds_toArray, List.set_cons_zero, List.set_cons_succ])
          refine wpAnyH_ready (rs := [5, 7]) (by kernel_rfl) (by simp) ?_
          refine AllReadyH.cons (o := ?_) ?_ (fun K hK => ?_) ?_; rotate_left 1; (next => simp only [List.getElem?_toArray, List.getElem?_cons_succ, List.getElem?_cons_zero]; rfl)
          · go_simp
            (go_at_call 114; (with_reducible refine (HPB.out _ (bl_call (by repeat' (first | with_reducible assumption | with_reducible refine bl_alloc ?_ _ | with_reducible refine bl_drew ?_)) HBW) _ _ _).mono ?_); rintro e v12 ⟨rfl, hb⟩)
            have hB : Below u2.heap.size u2 v12 := bl_call hb hB
            have z6_0 := keep_cell hb z6_0
            have z6_1 := keep_cell hb z6_1
            have z6_2 := keep_cell hb z6_2
            have g6_0 := (hb.frozen (p := ⟨v1.heap.size, 0, none⟩) l6).trans g6_0
            have g6_1 := (hb.frozen (p := ⟨v1.heap.size, 1, none⟩) l6).trans g6_1
            have g6_2 := (hb.frozen (p := ⟨v1.heap.size, 2, none⟩) l6).trans g6_2
            have l6 := Nat.lt_of_lt_of_le l6 hb.size
            clear hb
            (try go_wp2_with fail); refine hK.out _ _ (hB) (fun hHeld => ?_); clear hK K; (try simp only [Act.put, List.setIfInBounds_toArray, List.set_cons_zero, List.set_cons_succ])
            refine wpAnyH_ready (rs := [7]) (by kernel_rfl) (by simp) ?_; refine AllReadyH.cons (o := ?_) ?_ (fun K hK => ?_) AllReadyH.nil; rotate_left 1; (next => simp only [List.getElem?_toArray, List.getElem?_cons_succ, List.getElem?_cons_zero]; rfl); go_simp
            have ge7 : u2.heap.size ≤ v12.heap.size := hB.size
            have ne6_7 : v1.heap.size ≠ v12.heap.size := Nat.ne_of_lt l6
            have hb := bl_alloc (bl_refl v12) (.cells #[.int .i64 0, .int .i64 0, .bool false] 134)
            have z6_0 := keep_cell hb z6_0
            have z6_1 := keep_cell hb z6_1
            have z6_2 := keep_cell hb z6_2
            have g6_0 := (hb.frozen (p := ⟨v1.heap.size, 0, none⟩) l6).trans g6_0
            have g6_1 := (hb.frozen (p := ⟨v1.heap.size, 1, none⟩) l6).trans g6_1
            have g6_2 := (hb.frozen (p := ⟨v1.heap.size, 2, none⟩) l6).trans g6_2
            have l6 := Nat.lt_of_lt_of_le l6 hb.size
            have z7_0 : (v12.alloc (.cells #[.int .i64 0, .int .i64 0, .bool false] 134)).cell? ⟨v12.heap.size, 0, none⟩ = some (.int .i64 0) := by simp [go_sem]
            have z7_1 : (v12.alloc (.cells #[.int .i64 0, .int .i64 0, .bool false] 134)).cell? ⟨v12.heap.size, 1, none⟩ = some (.int .i64 0) := by simp [go_sem]
            have z7_2 : (v12.alloc (.cells #[.int .i64 0, .int .i64 0, .bool false] 134)).cell? ⟨v12.heap.size, 2, none⟩ = some (.bool false) := by simp [go_sem]
            have g7_0 : (v12.alloc (.cells #[.int .i64 0, .int .i64 0, .bool false] 134)).frozen? ⟨v12.heap.size, 0, none⟩ = false := by simp [go_sem]
            have g7_1 : (v12.alloc (.cells #[.int .i64 0, .int .i64 0, .bool false] 134)).frozen? ⟨v12.heap.size, 1, none⟩ = false := by simp [go_sem]
            have g7_2 : (v12.alloc (.cells #[.int .i64 0, .int .i64 0, .bool false] 134)).frozen? ⟨v12.heap.size, 2, none⟩ = false := by simp [go_sem]
            have l7 : v12.heap.size < (v12.alloc (.cells #[.int .i64 0, .int .i64 0, .bool false] 134)).heap.size := by simp
            obtain ⟨v13, hv_⟩ : ∃ v_, v_ = (v12.alloc (.cells #[.int .i64 0, .int .i64 0, .bool false] 134)) := ⟨_, rfl⟩
            rw [← hv_] at hb z6_0 g6_0 z6_1 g6_1 z6_2 g6_2 l6 z7_0 z7_1 z7_2 g7_0 g7_1 g7_2 l7 ⊢
            clear hv_
            have hB : Below u2.heap.size u2 v13 := bl_call hb hB
            clear hb
            (try go_wp2_with fail); refine hK.out _ _ (hB) (fun hHeld => ?_); clear hK K; (try simp only [Act.put, List.setIfInBounds_toArray, List.set_cons_zero, List.set_cons_succ])
            refine wpAnyH_ready (rs := [8]) (by kernel_rfl) (by simp) ?_; refine AllReadyH.cons (o := ?_) ?_ (fun K hK => ?_) AllReadyH.nil; rotate_left 1; (next => simp only [List.getElem?_toArray, List.getElem?_cons_succ, List.getElem?_cons_zero]; rfl); go_simp
            have hB : Below u2.heap.size u2 (((v13.setCell ⟨v1.heap.size, 0, none⟩ (.int .i64 x0)).setCell ⟨v1.heap.size, 1, none⟩ (.int .i64 x1)).setCell ⟨v1.heap.size, 2, none⟩ (.bool x2)) := bl_set (bl_set (bl_set hB ge6 _) ge6 _) ge6 _
            have y_0 : (((v13.setCell ⟨v1.heap.size, 0, none⟩ (.int .i64 x0)).setCell ⟨v1.heap.size, 1, none⟩ (.int .i64 x1)).setCell ⟨v1.heap.size, 2, none⟩ (.bool x2)).cell? ⟨v1.heap.size, 0, none⟩ = some (.int .i64 x0) := by simp [go_sem, z6_0, z6_1, z6_2]
            have y_1 : (((v13.setCell ⟨v1.heap.size, 0, none⟩ (.int .i64 x0)).setCell ⟨v1.heap.size, 1, none⟩ (.int .i64 x1)).setCell ⟨v1.heap.size, 2, none⟩ (.bool x2)).cell? ⟨v1.heap.size, 1, none⟩ = some (.int .i64 x1) := by simp [go_sem, z6_0, z6_1, z6_2]
            have y_2 : (((v13.setCell ⟨v1.heap.size, 0, none⟩ (.int .i64 x0)).setCell ⟨v1.heap.size, 1, none⟩ (.int .i64 x1)).setCell ⟨v1.heap.size, 2, none⟩ (.bool x2)).cell? ⟨v1.heap.size, 2, none⟩ = some (.bool x2) := by simp [go_sem, z6_0, z6_1, z6_2]
            have z6_0 := y_0
            have z6_1 := y_1
            have z6_2 := y_2
            clear y_0 y_1 y_2
            have g6_0 : (((v13.setCell ⟨v1.heap.size, 0, none⟩ (.int .i64 x0)).setCell ⟨v1.heap.size, 1, none⟩ (.int .i64 x1)).setCell ⟨v1.heap.size, 2, none⟩ (.bool x2)).frozen? ⟨v1.heap.size, 0, none⟩ = false := by simp only [World.frozen?_setCell]; exact g6_0
            have g6_1 : (((v13.setCell ⟨v1.heap.size, 0, none⟩ (.int .i64 x0)).setCell ⟨v1.heap.size, 1, none⟩ (.int .i64 x1)).setCell ⟨v1.heap.size, 2, none⟩ (.bool x2)).frozen? ⟨v1.heap.size, 1, none⟩ = false := by simp only [World.frozen?_setCell]; exact g6_1
            have g6_2 : (((v13.setCell ⟨v1.heap.size, 0, none⟩ (.int .i64 x0)).setCell ⟨v1.heap.size, 1, none⟩ (.int .i64 x1)).setCell ⟨v1.heap.size, 2, none⟩ (.bool x2)).frozen? ⟨v1.heap.size, 2, none⟩ = false := by simp only [World.frozen?_setCell]; exact g6_2
            have l6 : v1.heap.size < (((v13.setCell ⟨v1.heap.size, 0, none⟩ (.int .i64 x0)).setCell ⟨v1.heap.size, 1, none⟩ (.int .i64 x1)).setCell ⟨v1.heap.size, 2, none⟩ (.bool x2)).heap.size := by simpa using l6
            have z7_0 := keep_far3 (x := .int .i64 x0) (y := .int .i64 x1) (z := .bool x2) z7_0 ne6_7.symm
            have g7_0 : (((v13.setCell ⟨v1.heap.size, 0, none⟩ (.int .i64 x0)).setCell ⟨v1.heap.size, 1, none⟩ (.int .i64 x1)).setCell ⟨v1.heap.size, 2, none⟩ (.bool x2)).frozen? ⟨v12.heap.size, 0, none⟩ = false := by simp only [World.frozen?_setCell]; exact g7_0
            have z7_1 := keep_far3 (x := .int .i64 x0) (y := .int .i64 x1) (z := .bool x2) z7_1 ne6_7.symm
            have g7_1 : (((v13.setCell ⟨v1.heap.size, 0, none⟩ (.int .i64 x0)).setCell ⟨v1.heap.size, 1, none⟩ (.int .i64 x1)).setCell ⟨v1.heap.size, 2, none⟩ (.bool x2)).frozen? ⟨v12.heap.size, 1, none⟩ = false := by simp only [World.frozen?_setCell]; exact g7_1
            have z7_2 := keep_far3 (x := .int .i64 x0) (y := .int .i64 x1) (z := .bool x2) z7_2 ne6_7.symm
            have g7_2 : (((v13.setCell ⟨v1.heap.size, 0, none⟩ (.int .i64 x0)).setCell ⟨v1.heap.size, 1, none⟩ (.int .i64 x1)).setCell ⟨v1.heap.size, 2, none⟩ (.bool x2)).frozen? ⟨v12.heap.size, 2, none⟩ = false := by simp only [World.frozen?_setCell]; exact g7_2
            have l7 : v12.heap.size < (((v13.setCell ⟨v1.heap.size, 0, none⟩ (.int .i64 x0)).setCell ⟨v1.heap.size, 1, none⟩ (.int .i64 x1)).setCell ⟨v1.heap.size, 2, none⟩ (.bool x2)).heap.size := by simpa using l7
            obtain ⟨v14, hv_⟩ : ∃ v_, v_ = (((v13.setCell ⟨v1.heap.size, 0, none⟩ (.int .i64 x0)).setCell ⟨v1.heap.size, 1, none⟩ (.int .i64 x1)).setCell ⟨v1.heap.size, 2, none⟩ (.bool x2)) := ⟨_, rfl⟩
            rw [← hv_] at hB z6_0 z6_1 z6_2 g6_0 g6_1 g6_2 l6 z7_0 g7_0 z7_1 g7_1 z7_2 g7_2 l7 ⊢
            clear hv_
            (try go_wp2_with fail); refine hK.out _ _ (hB) (fun hHeld => ?_); clear hK K; (try simp only [Act.put, List.setIfInBounds_toArray, List.set_cons_zero, List.set_cons_succ])
            refine wpAnyH_ready (rs := [9]) (by kernel_rfl) (by simp) ?_; refine AllReadyH.cons (o := ?_) ?_ (fun K hK => ?_) AllReadyH.nil; rotate_left 1; (next => simp only [List.getElem?_toArray, List.getElem?_cons_succ, List.getElem?_cons_zero]; rfl); go_simp
            have hB : Below u2.heap.size u2 (((v14.setCell ⟨v12.heap.size, 0, none⟩ (.int .i64 y0)).setCell ⟨v12.heap.size, 1, none⟩ (.int .i64 y1)).setCell ⟨v12.heap.size, 2, none⟩ (.bool y2)) := bl_set (bl_set (bl_set hB ge7 _) ge7 _) ge7 _
            have y_0 : (((v14.setCell ⟨v12.heap.size, 0, none⟩ (.int .i64 y0)).setCell ⟨v12.heap.size, 1, none⟩ (.int .i64 y1)).setCell ⟨v12.heap.size, 2, none⟩ (.bool y2)).cell? ⟨v12.heap.size, 0, none⟩ = some (.int .i64 y0) := by simp [go_sem, z7_0, z7_1, z7_2]
            have y_1 : (((v14.setCell ⟨v12.heap.size, 0, none⟩ (.int .i64 y0)).setCell ⟨v12.heap.size, 1, none⟩ (.int .i64 y1)).setCell ⟨v12.heap.size, 2, none⟩ (.bool y2)).cell? ⟨v12.heap.size, 1, none⟩ = some (.int .i64 y1) := by simp [go_sem, z7_0, z7_1, z7_2]
            have y_2 : (((v14.setCell ⟨v12.heap.size, 0, none⟩ (.int .i64 y0)).setCell ⟨v12.heap.size, 1, none⟩ (.int .i64 y1)).setCell ⟨v12.heap.size, 2, none⟩ (.bool y2)).cell? ⟨v12.heap.size, 2, none⟩ = some (.bool y2) := by simp [go_sem, z7_0, z7_1, z7_2]
            have z7_0 := y_0
            have z7_1 := y_1
            have z7_2 := y_2
            clear y_0 y_1 y_2
            have z6_0 := keep_far3 (x := .int .i64 y0) (y := .int .i64 y1) (z := .bool y2) z6_0 ne6_7
            have g6_0 : (((v14.setCell ⟨v12.heap.size, 0, none⟩ (.int .i64 y0)).setCell ⟨v12.heap.size, 1, none⟩ (.int .i64 y1)).setCell ⟨v12.heap.size, 2, none⟩ (.bool y2)).frozen? ⟨v1.heap.size, 0, none⟩ = false := by simp only [World.frozen?_setCell]; exact g6_0
            have z6_1 := keep_far3 (x := .int .i64 y0) (y := .int .i64 y1) (z := .bool y2) z6_1 ne6_7
            have g6_1 : (((v14.setCell ⟨v12.heap.size, 0, none⟩ (.int .i64 y0)).setCell ⟨v12.heap.size, 1, none⟩ (.int .i64 y1)).setCell ⟨v12.heap.size, 2, none⟩ (.bool y2)).frozen? ⟨v1.heap.size, 1, none⟩ = false := by simp only [World.frozen?_setCell]; exact g6_1
            have z6_2 := keep_far3 (x := .int .i64 y0) (y := .int .i64 y1) (z := .bool y2) z6_2 ne6_7
            have g6_2 : (((v14.setCell ⟨v12.heap.size, 0, none⟩ (.int .i64 y0)).setCell ⟨v12.heap.size, 1, none⟩ (.int .i64 y1)).setCell ⟨v12.heap.size, 2, none⟩ (.bool y2)).frozen? ⟨v1.heap.size, 2, none⟩ = false := by simp only [World.frozen?_setCell]; exact g6_2
            have l6 : v1.heap.size < (((v14.setCell ⟨v12.heap.size, 0, none⟩ (.int .i64 y0)).setCell ⟨v12.heap.size, 1, none⟩ (.int .i64 y1)).setCell ⟨v12.heap.size, 2, none⟩ (.bool y2)).heap.size := by simpa using l6
            have g7_0 : (((v14.setCell ⟨v12.heap.size, 0, none⟩ (.int .i64 y0)).setCell ⟨v12.heap.size, 1, none⟩ (.int .i64 y1)).setCell ⟨v12.heap.size, 2, none⟩ (.bool y2)).frozen? ⟨v12.heap.size, 0, none⟩ = false := by simp only [World.frozen?_setCell]; exact g7_0
            have g7_1 : (((v14.setCell ⟨v12.heap.size, 0, none⟩ (.int .i64 y0)).setCell ⟨v12.heap.size, 1, none⟩ (.int .i64 y1)).setCell ⟨v12.heap.size, 2, none⟩ (.bool y2)).frozen? ⟨v12.heap.size, 1, none⟩ = false := by simp only [World.frozen?_setCell]; exact g7_1
            have g7_2 : (((v14.setCell ⟨v12.heap.size, 0, none⟩ (.int .i64 y0)).setCell ⟨v12.heap.size, 1, none⟩ (.int .i64 y1)).setCell ⟨v12.heap.size, 2, none⟩ (.bool y2)).frozen? ⟨v12.heap.size, 2, none⟩ = false := by simp only [World.frozen?_setCell]; exact g7_2
            have l7 : v12.heap.size < (((v14.setCell ⟨v12.heap.size, 0, none⟩ (.int .i64 y0)).setCell ⟨v12.heap.size, 1, none⟩ (.int .i64 y1)).setCell ⟨v12.heap.size, 2, none⟩ (.bool y2)).heap.size := by simpa using l7
            obtain ⟨v15, hv_⟩ : ∃ v_, v_ = (((v14.setCell ⟨v12.heap.size, 0, none⟩ (.int .i64 y0)).setCell ⟨v12.heap.size, 1, none⟩ (.int .i64 y1)).setCell ⟨v12.heap.size, 2, none⟩ (.bool y2)) := ⟨_, rfl⟩
            rw [← hv_] at hB z7_0 z7_1 z7_2 z6_0 g6_0 z6_1 g6_1 z6_2 g6_2 l6 g7_0 g7_1 g7_2 l7 ⊢
            clear hv_
            (try go_wp2_with fail); refine hK.out _ _ (hB) (fun hHeld => ?_); clear hK K; (try simp only [Act.put, List.setIfInBounds_toArray, List.set_cons_zero, List.set_cons_succ])
            refine wpAnyH_done (by kernel_rfl) ?_ _
            (go_wp2_with fail; go_meet)
            exact ⟨_, _, rfl, rfl, z6_2, z7_1, z7_2, hB⟩
          refine AllReadyH.cons (o := ?_) ?_ (fun K hK => ?_) AllReadyH.nil; rotate_left 1; (next => simp only [List.getElem?_toArray, List.getElem?_cons_succ, List.getElem?_cons_zero]; rfl)
          go_simp
          have ge7 : u2.heap.size ≤ v11.heap.size := hB.size
          have ne6_7 : v1.heap.size ≠ v11.heap.size := Nat.ne_of_lt l6
          have hb := bl_alloc (bl_refl v11) (.cells #[.int .i64 0, .int .i64 0, .bool false] 134)
          have z6_0 := keep_cell hb z6_0
          have z6_1 := keep_cell hb z6_1
          have z6_2 := keep_cell hb z6_2
          have g6_0 := (hb.frozen (p := ⟨v1.heap.size, 0, none⟩) l6).trans g6_0
          have g6_1 := (hb.frozen (p := ⟨v1.heap.size, 1, none⟩) l6).trans g6_1
          have g6_2 := (hb.frozen (p := ⟨v1.heap.size, 2, none⟩) l6).trans g6_2
          have l6 := Nat.lt_of_lt_of_le l6 hb.size
          have z7_0 : (v11.alloc (.cells #[.int .i64 0, .int .i64 0, .bool false] 134)).cell? ⟨v11.heap.size, 0, none⟩ = some (.int .i64 0) := by simp [go_sem]
          have z7_1 : (v11.alloc (.cells #[.int .i64 0, .int .i64 0, .bool false] 134)).cell? ⟨v11.heap.size, 1, none⟩ = some (.int .i64 0) := by simp [go_sem]
          have z7_2 : (v11.alloc (.cells #[.int .i64 0, .int .i64 0, .bool false] 134)).cell? ⟨v11.heap.size, 2, none⟩ = some (.bool false) := by simp [go_sem]
          have g7_0 : (v11.alloc (.cells #[.int .i64 0, .int .i64 0, .bool false] 134)).frozen? ⟨v11.heap.size, 0, none⟩ = false := by simp [go_sem]
          have g7_1 : (v11.alloc (.cells #[.int .i64 0, .int .i64 0, .bool false] 134)).frozen? ⟨v11.heap.size, 1, none⟩ = false := by simp [go_sem]
          have g7_2 : (v11.alloc (.cells #[.int .i64 0, .int .i64 0, .bool false] 134)).frozen? ⟨v11.heap.size, 2, none⟩ = false := by simp [go_sem]
          have l7 : v11.heap.size < (v11.alloc (.cells #[.int .i64 0, .int .i64 0, .bool false] 134)).heap.size := by simp
          obtain ⟨v16, hv_⟩ : ∃ v_, v_ = (v11.alloc (.cells #[.int .i64 0, .int .i64 0, .bool false] 134)) := ⟨_, rfl⟩
          rw [← hv_] at hb z6_0 g6_0 z6_1 g6_1 z6_2 g6_2 l6 z7_0 z7_1 z7_2 g7_0 g7_1 g7_2 l7 ⊢
          clear hv_
          have hB : Below u2.heap.size u2 v16 := bl_call hb hB
          clear hb
          (try go_wp2_with fail); refine hK.out _ _ (hB) (fun hHeld => ?_); clear hK K; (try simp only [Act.put, List.setIfInBounds_toArray, List.set_cons_zero, List.set_cons_succ])
          refine wpAnyH_ready (rs := [5]) (by kernel_rfl) (by simp) ?_; refine AllReadyH.cons (o := ?_) ?_ (fun K hK => ?_) AllReadyH.nil; rotate_left 1; (next => simp only [List.getElem?_toArray, List.getElem?_cons_succ, List.getElem?_cons_zero]; rfl); go_simp
          (go_at_call 114; (with_reducible refine (HPB.out _ (bl_call (by repeat' (first | with_reducible assumption | with_reducible refine bl_alloc ?_ _ | with_reducible refine bl_drew ?_)) HBW) _ _ _).mono ?_); rintro e v17 ⟨rfl, hb⟩)
          have hB : Below u2.heap.size u2 v17 := bl_call hb hB
          have z6_0 := keep_cell hb z6_0
          have z6_1 := keep_cell hb z6_1
          have z6_2 := keep_cell hb z6_2
          have g6_0 := (hb.frozen (p := ⟨v1.heap.size, 0, none⟩) l6).trans g6_0
          have g6_1 := (hb.frozen (p := ⟨v1.heap.size, 1, none⟩) l6).trans g6_1
          have g6_2 := (hb.frozen (p := ⟨v1.heap.size, 2, none⟩) l6).trans g6_2
          have l6 := Nat.lt_of_lt_of_le l6 hb.size
          have z7_0 := keep_cell hb z7_0
          have z7_1 := keep_cell hb z7_1
          have z7_2 := keep_cell hb z7_2
          have g7_0 := (hb.frozen (p := ⟨v11.heap.size, 0, none⟩) l7).trans g7_0
          have g7_1 := (hb.frozen (p := ⟨v11.heap.size, 1, none⟩) l7).trans g7_1
          have g7_2 := (hb.frozen (p := ⟨v11.heap.size, 2, none⟩) l7).trans g7_2
          have l7 := Nat.lt_of_lt_of_le l7 hb.size
          clear hb
          (try go_wp2_with fail); refine hK.out _ _ (hB) (fun hHeld => ?_); clear hK K; (try simp only [Act.put, List.setIfInBounds_toArray, List.set_cons_zero, List.set_cons_succ])
          refine wpAnyH_ready (rs := [8]) (by kernel_rfl) (by simp) ?_; refine AllReadyH.cons (o := ?_) ?_ (fun K hK => ?_) AllReadyH.nil; rotate_left 1; (next => simp only [List.getElem?_toArray, List.getElem?_cons_succ, List.getElem?_cons_zero]; rfl); go_simp
          have hB : Below u2.heap.size u2 (((v17.setCell ⟨v1.heap.size, 0, none⟩ (.int .i64 x0)).setCell ⟨v1.heap.size, 1, none⟩ (.int .i64 x1)).setCell ⟨v1.heap.size, 2, none⟩ (.bool x2)) := bl_set (bl_set (bl_set hB ge6 _) ge6 _) ge6 _
          have y_0 : (((v17.setCell ⟨v1.heap.size, 0, none⟩ (.int .i64 x0)).setCell ⟨v1.heap.size, 1, none⟩ (.int .i64 x1)).setCell ⟨v1.heap.size, 2, none⟩ (.bool x2)).cell? ⟨v1.heap.size, 0, none⟩ = some (.int .i64 x0) := by simp [go_sem, z6_0, z6_1, z6_2]
          have y_1 : (((v17.setCell ⟨v1.heap.size, 0, none⟩ (.int .i64 x0)).setCell ⟨v1.heap.size, 1, none⟩ (.int .i64 x1)).setCell ⟨v1.heap.size, 2, none⟩ (.bool x2)).cell? ⟨v1.heap.size, 1, none⟩ = some (.int .i64 x1) := by simp [go_sem, z6_0, z6_1, z6_2]
          have y_2 : (((v17.setCell ⟨v1.heap.size, 0, none⟩ (.int .i64 x0)).setCell ⟨v1.heap.size, 1, none⟩ (.int .i64 x1)).setCell ⟨v1.heap.size, 2, none⟩ (.bool x2)).cell? ⟨v1.heap.size, 2, none⟩ = some (.bool x2) := by simp [go_sem, z6_0, z6_1, z6_2]
          have z6_0 := y_0
          have z6_1 := y_1
          have z6_2 := y_2
          clear y_0 y_1 y_2
          have g6_0 : (((v17.setCell ⟨v1.heap.size, 0, none⟩ (.int .i64 x0)).setCell ⟨v1.heap.size, 1, none⟩ (.int .i64 x1)).setCell ⟨v1.heap.size, 2, none⟩ (.bool x2)).frozen? ⟨v1.heap.size, 0, none⟩ = false := by simp only [World.frozen?_setCell]; exact g6_0
          have g6_1 : (((v17.setCell ⟨v1.heap.size, 0, none⟩ (.int .i64 x0)).setCell ⟨v1.heap.size, 1, none⟩ (.int .i64 x1)).setCell ⟨v1.heap.size, 2, none⟩ (.bool x2)).frozen? ⟨v1.heap.size, 1, none⟩ = false := by simp only [World.frozen?_setCell]; exact g6_1
          have g6_2 : (((v17.setCell ⟨v1.heap.size, 0, none⟩ (.int .i64 x0)).setCell ⟨v1.heap.size, 1, none⟩ (.int .i64 x1)).setCell ⟨v1.heap.size, 2, none⟩ (.bool x2)).frozen? ⟨v1.heap.size, 2, none⟩ = false := by simp only [World.frozen?_setCell]; exact g6_2
          have l6 : v1.heap.size < (((v17.setCell ⟨v1.heap.size, 0, none⟩ (.int .i64 x0)).setCell ⟨v1.heap.size, 1, none⟩ (.int .i64 x1)).setCell ⟨v1.heap.size, 2, none⟩ (.bool x2)).heap.size := by simpa using l6
          have z7_0 := keep_far3 (x := .int .i64 x0) (y := .int .i64 x1) (z := .bool x2) z7_0 ne6_7.symm
          have g7_0 : (((v17.setCell ⟨v1.heap.size, 0, none⟩ (.int .i64 x0)).setCell ⟨v1.heap.size, 1, none⟩ (.int .i64 x1)).setCell ⟨v1.heap.size, 2, none⟩ (.bool x2)).frozen? ⟨v11.heap.size, 0, none⟩ = false := by simp only [World.frozen?_setCell]; exact g7_0
          have z7_1 := keep_far3 (x := .int .i64 x0) (y := .int .i64 x1) (z := .bool x2) z7_1 ne6_7.symm
          have g7_1 : (((v17.setCell ⟨v1.heap.size, 0, none⟩ (.int .i64 x0)).setCell ⟨v1.heap.size, 1, none⟩ (.int .i64 x1)).setCell ⟨v1.heap.size, 2, none⟩ (.bool x2)).frozen? ⟨v11.heap.size, 1, none⟩ = false := by simp only [World.frozen?_setCell]; exact g7_1
          have z7_2 := keep_far3 (x := .int .i64 x0) (y := .int .i64 x1) (z := .bool x2) z7_2 ne6_7.symm
          have g7_2 : (((v17.setCell ⟨v1.heap.size, 0, none⟩ (.int .i64 x0)).setCell ⟨v1.heap.size, 1, none⟩ (.int .i64 x1)).setCell ⟨v1.heap.size, 2, none⟩ (.bool x2)).frozen? ⟨v11.heap.size, 2, none⟩ = false := by simp only [World.frozen?_setCell]; exact g7_2
          have l7 : v11.heap.size < (((v17.setCell ⟨v1.heap.size, 0, none⟩ (.int .i64 x0)).setCell ⟨v1.heap.size, 1, none⟩ (.int .i64 x1)).setCell ⟨v1.heap.size, 2, none⟩ (.bool x2)).heap.size := by simpa using l7
          obtain ⟨v18, hv_⟩ : ∃ v_, v_ = (((v17.setCell ⟨v1.heap.size, 0, none⟩ (.int .i64 x0)).setCell ⟨v1.heap.size, 1, none⟩ (.int .i64 x1)).setCell ⟨v1.heap.size, 2, none⟩ (.bool x2)) := ⟨_, rfl⟩
          rw [← hv_] at hB z6_0 z6_1 z6_2 g6_0 g6_1 g6_2 l6 z7_0 g7_0 z7_1 g7_1 z7_2 g7_2 l7 ⊢
          clear hv_
          (try go_wp2_with fail); refine hK.out _ _ (hB) (fun hHeld => ?_); clear hK K; (try simp only [Act.put, List.setIfInBounds_toArray, List.set_cons_zero, List.set_cons_succ])
          refine wpAnyH_ready (rs := [9]) (by kernel_rfl) (by simp) ?_; refine AllReadyH.cons (o := ?_) ?_ (fun K hK => ?_) AllReadyH.nil; rotate_left 1; (next => simp only [List.getElem?_toArray, List.getElem?_cons_succ, List.getElem?_cons_zero]; rfl); go_simp
          have hB : Below u2.heap.size u2 (((v18.setCell ⟨v11.heap.size, 0, none⟩ (.int .i64 y0)).setCell ⟨v11.heap.size, 1, none⟩ (.int .i64 y1)).setCell ⟨v11.heap.size, 2, none⟩ (.bool y2)) := bl_set (bl_set (bl_set hB ge7 _) ge7 _) ge7 _
          have y_0 : (((v18.setCell ⟨v11.heap.size, 0, none⟩ (.int .i64 y0)).setCell ⟨v11.heap.size, 1, none⟩ (.int .i64 y1)).setCell ⟨v11.heap.size, 2, none⟩ (.bool y2)).cell? ⟨v11.heap.size, 0, none⟩ = some (.int .i64 y0) := by simp [go_sem, z7_0, z7_1, z7_2]
          have y_1 : (((v18.setCell ⟨v11.heap.size, 0, none⟩ (.int .i64 y0)).setCell ⟨v11.heap.size, 1, none⟩ (.int .i64 y1)).setCell ⟨v11.heap.size, 2, none⟩ (.bool y2)).cell? ⟨v11.heap.size, 1, none⟩ = some (.int .i64 y1) := by simp [go_sem, z7_0, z7_1, z7_2]
          have y_2 : (((v18.setCell ⟨v11.heap.size, 0, none⟩ (.int .i64 y0)).setCell ⟨v11.heap.size, 1, none⟩ (.int .i64 y1)).setCell ⟨v11.heap.size, 2, none⟩ (.bool y2)).cell? ⟨v11.heap.size, 2, none⟩ = some (.bool y2) := by simp [go_sem, z7_0, z7_1, z7_2]
          have z7_0 := y_0
          have z7_1 := y_1
          have z7_2 := y_2
          clear y_0 y_1 y_2
          have z6_0 := keep_far3 (x := .int .i64 y0) (y := .int .i64 y1) (z := .bool y2) z6_0 ne6_7
          have g6_0 : (((v18.setCell ⟨v11.heap.size, 0, none⟩ (.int .i64 y0)).setCell ⟨v11.heap.size, 1, none⟩ (.int .i64 y1)).setCell ⟨v11.heap.size, 2, none⟩ (.bool y2)).frozen? ⟨v1.heap.size, 0, none⟩ = false := by simp only [World.frozen?_setCell]; exact g6_0
          have z6_1 := keep_far3 (x := .int .i64 y0) (y := .int .i64 y1) (z := .bool y2) z6_1 ne6_7
          have g6_1 : (((v18.setCell ⟨v11.heap.size, 0, none⟩ (.int .i64 y0)).setCell ⟨v11.heap.size, 1, none⟩ (.int .i64 y1)).setCell ⟨v11.heap.size, 2, none⟩ (.bool y2)).frozen? ⟨v1.heap.size, 1, none⟩ = false := by simp only [World.frozen?_setCell]; exact g6_1
          have z6_2 := keep_far3 (x := .int .i64 y0) (y := .int .i64 y1) (z := .bool y2) z6_2 ne6_7
          have g6_2 : (((v18.setCell ⟨v11.heap.size, 0, none⟩ (.int .i64 y0)).setCell ⟨v11.heap.size, 1, none⟩ (.int .i64 y1)).setCell ⟨v11.heap.size, 2, none⟩ (.bool y2)).frozen? ⟨v1.heap.size, 2, none⟩ = false := by simp only [World.frozen?_setCell]; exact g6_2
          have l6 : v1.heap.size < (((v18.setCell ⟨v11.heap.size, 0, none⟩ (.int .i64 y0)).setCell ⟨v11.heap.size, 1, none⟩ (.int .i64 y1)).setCell ⟨v11.heap.size, 2, none⟩ (.bool y2)).heap.size := by simpa using l6
          have g7_0 : (((v18.setCell ⟨v11.heap.size, 0, none⟩ (.int .i64 y0)).setCell ⟨v11.heap.size, 1, none⟩ (.int .i64 y1)).setCell ⟨v11.heap.size, 2, none⟩ (.bool y2)).frozen? ⟨v11.heap.size, 0, none⟩ = false := by simp only [World.frozen?_setCell]; exact g7_0
          have g7_1 : (((v18.setCell ⟨v11.heap.size, 0, none⟩ (.int .i64 y0)).setCell ⟨v11.heap.size, 1, none⟩ (.int .i64 y1)).setCell ⟨v11.heap.size, 2, none⟩ (.bool y2)).frozen? ⟨v11.heap.size, 1, none⟩ = false := by simp only [World.frozen?_setCell]; exact g7_1
          have g7_2 : (((v18.setCell ⟨v11.heap.size, 0, none⟩ (.int .i64 y0)).setCell ⟨v11.heap.size, 1, none⟩ (.int .i64 y1)).setCell ⟨v11.heap.size, 2, none⟩ (.bool y2)).frozen? ⟨v11.heap.size, 2, none⟩ = false := by simp only [World.frozen?_setCell]; exact g7_2
          have l7 : v11.heap.size < (((v18.setCell ⟨v11.heap.size, 0, none⟩ (.int .i64 y0)).setCell ⟨v11.heap.size, 1, none⟩ (.int .i64 y1)).setCell ⟨v11.heap.size, 2, none⟩ (.bool y2)).heap.size := by simpa using l7
          obtain ⟨v19, hv_⟩ : ∃ v_, v_ = (((v18.setCell ⟨v11.heap.size, 0, none⟩ (.int .i64 y0)).setCell ⟨v11.heap.size, 1, none⟩ (.int .i64 y1)).setCell ⟨v11.heap.size, 2, none⟩ (.bool y2)) := ⟨_, rfl⟩
          rw [← hv_] at hB z7_0 z7_1 z7_2 z6_0 g6_0 z6_1 g6_1 z6_2 g6_2 l6 g7_0 g7_1 g7_2 l7 ⊢
          clear hv_
          (try go_wp2_with fail); refine hK.out _ _ (hB) (fun hHeld => ?_); clear hK K; (try simp only [Act.put, List.setIfInBounds_toArray, List.set_cons_zero, List.set_cons_succ])
          refine wpAnyH_done (by kernel_rfl) ?_ _
          (go_wp2_with fail; go_meet)
          exact ⟨_, _, rfl, rfl, z6_2, z7_1, z7_2, hB⟩
        refine AllReadyH.cons (o := ?_) ?_ (fun K hK => ?_) AllReadyH.nil; rotate_left 1; (next => simp only [List.getElem?_toArray, List.getElem?_cons_succ, List.getElem?_cons_zero]; rfl)
        go_simp
        have ge7 : u2.heap.size ≤ v1.heap.size := hB.size
        have hb := bl_alloc (bl_refl v1) (.cells #[.int .i64 0, .int .i64 0, .bool false] 134)
        have z7_0 : (v1.alloc (.cells #[.int .i64 0, .int .i64 0, .bool false] 134)).cell? ⟨v1.heap.size, 0, none⟩ = some (.int .i64 0) := by simp [go_sem]
        have z7_1 : (v1.alloc (.cells #[.int .i64 0, .int .i64 0, .bool false] 134)).cell? ⟨v1.heap.size, 1, none⟩ = some (.int .i64 0) := by simp [go_sem]
        have z7_2 : (v1.alloc (.cells #[.int .i64 0, .int .i64 0, .bool false] 134)).cell? ⟨v1.heap.size, 2, none⟩ = some (.bool false) := by simp [go_sem]
        have g7_0 : (v1.alloc (.cells #[.int .i64 0, .int .i64 0, .bool false] 134)).frozen? ⟨v1.heap.size, 0, none⟩ = false := by simp [go_sem]
        have g7_1 : (v1.alloc (.cells #[.int .i64 0, .int .i64 0, .bool false] 134)).frozen? ⟨v1.heap.size, 1, none⟩ = false := by simp [go_sem]
        have g7_2 : (v1.alloc (.cells #[.int .i64 0, .int .i64 0, .bool false] 134)).frozen? ⟨v1.heap.size, 2, none⟩ = false := by simp [go_sem]
        have l7 : v1.heap.size < (v1.alloc (.cells #[.int .i64 0, .int .i64 0, .bool false] 134)).heap.size := by simp
        obtain ⟨v20, hv_⟩ : ∃ v_, v_ = (v1.alloc (.cells #[.int .i64 0, .int .i64 0, .bool false] 134)) := ⟨_, rfl⟩
        rw [← hv_] at hb z7_0 z7_1 z7_2 g7_0 g7_1 g7_2 l7 ⊢
        clear hv_
        have hB : Below u2.heap.size u2 v20 := bl_call hb hB
        clear hb
        (try go_wp2_with fail); refine hK.out _ _ (hB) (fun hHeld => ?_); clear hK K; (try simp only [Act.put, List.setIfInBounds_toArray, List.set_cons_zero, List.set_cons_succ])
        refine wpAnyH_ready (rs := [5, 6]) (by kernel_rfl) (by simp) ?_
        refine AllReadyH.cons (o := ?_) ?_ (fun K hK => ?_) ?_; rotate_left 1; (next => simp only [List.getElem?_toArray, List.getElem?_cons_succ, List.getElem?_cons_zero]; rfl)
        · go_simp
          (go_at_call 114; (with_reducible refine (HPB.out _ (bl_call (by repeat' (first | with_reducible assumption | with_reducible refine bl_alloc ?_ _ | with_reducible refine bl_drew ?_)) HBW) _ _ _).mono ?_); rintro e v21 ⟨rfl, hb⟩)
          have hB : Below u2.heap.size u2 v21 := bl_call hb hB
          have z7_0 := keep_cell hb z7_0
          have z7_1 := keep_cell hb z7_1
          have z7_2 := keep_cell hb z7_2
          have g7_0 := (hb.frozen (p := ⟨v1.heap.size, 0, none⟩) l7).trans g7_0
          have g7_1 := (hb.frozen (p := ⟨v1.heap.size, 1, none⟩) l7).trans g7_1
          have g7_2 := (hb.frozen (p := ⟨v1.heap.size, 2, none⟩) l7).trans g7_2
          have l7 := Nat.lt_of_lt_of_le l7 hb.size
          clear hb
          (try go_wp2_with fail); refine hK.out _ _ (hB) (fun hHeld => ?_); clear hK K; (try simp only [Act.put, List.setIfInBounds_toArray, List.set_cons_zero, List.set_cons_succ])
          refine wpAnyH_ready (rs := [6]) (by kernel_rfl) (by simp) ?_; refine AllReadyH.cons (o := ?_) ?_ (fun K hK => ?_) AllReadyH.nil; rotate_left 1; (next => simp only [List.getElem?_toArray, List.getElem?_cons_succ, List.getElem?_cons_zero]; rfl); go_simp
          have ge6 : u2.heap.size ≤ v21.heap.size := hB.size
          have ne7_6 : v1.heap.size ≠ v21.heap.size := Nat.ne_of_lt l7
          have hb := bl_alloc (bl_refl v21) (.cells #[.int .i64 0, .int .i64 0, .bool false] 134)
          have z7_0 := keep_cell hb z7_0
          have z7_1 := keep_cell hb z7_1
          have z7_2 := keep_cell hb z7_2
          have g7_0 := (hb.frozen (p := ⟨v1.heap.size, 0, none⟩) l7).trans g7_0
          have g7_1 := (hb.frozen (p := ⟨v1.heap.size, 1, none⟩) l7).trans g7_1
          have g7_2 := (hb.frozen (p := ⟨v1.heap.size, 2, none⟩) l7).trans g7_2
          have l7 := Nat.lt_of_lt_of_le l7 hb.size
          have z6_0 : (v21.alloc (.cells #[.int .i64 0, .int .i64 0, .bool false] 134)).cell? ⟨v21.heap.size, 0, none⟩ = some (.int .i64 0) := by simp [go_sem]
          have z6_1 : (v21.alloc (.cells #[.int .i64 0, .int .i64 0, .bool false] 134)).cell? ⟨v21.heap.size, 1, none⟩ = some (.int .i64 0) := by simp [go_sem]
          have z6_2 : (v21.alloc (.cells #[.int .i64 0, .int .i64 0, .bool false] 134)).cell? ⟨v21.heap.size, 2, none⟩ = some (.bool false) := by simp [go_sem]
          have g6_0 : (v21.alloc (.cells #[.int .i64 0, .int .i64 0, .bool false] 134)).frozen? ⟨v21.heap.size, 0, none⟩ = false := by simp [go_sem]
          have g6_1 : (v21.alloc (.cells #[.int .i64 0, .int .i64 0, .bool false] 134)).frozen? ⟨v21.heap.size, 1, none⟩ = false := by simp [go_sem]
          have g6_2 : (v21.alloc (.cells #[.int .i64 0, .int .i64 0, .bool false] 134)).frozen? ⟨v21.heap.size, 2, none⟩ = false := by simp [go_sem]
          have l6 : v21.heap.size < (v21.alloc (.cells #[.int .i64 0, .int .i64 0, .bool false] 134)).heap.size := by simp
          obtain ⟨v22, hv_⟩ : ∃ v_, v_ = (v21.alloc (.cells #[.int .i64 0, .int .i64 0, .bool false] 134)) := ⟨_, rfl⟩
          rw [← hv_] at hb z7_0 g7_0 z7_1 g7_1 z7_2 g7_2 l7 z6_0 z6_1 z6_2 g6_0 g6_1 g6_2 l6 ⊢
          clear hv_
          have hB : Below u2.heap.size u2 v22 := bl_call hb hB
          clear hb
          (try go_wp2_with fail); refine hK.out _ _ (hB) (fun hHeld => ?_); clear hK K; (try simp only [Act.put, List.setIfInBounds_toArray, List.set_cons_zero, List.set_cons_succ])
          refine wpAnyH_ready (rs := [8]) (by kernel_rfl) (by simp) ?_; refine AllReadyH.cons (o := ?_) ?_ (fun K hK => ?_) AllReadyH.nil; rotate_left 1; (next => simp only [List.getElem?_toArray, List.getElem?_cons_succ, List.getElem?_cons_zero]; rfl); go_simp
          have hB : Below u2.heap.size u2 (((v22.setCell ⟨v21.heap.size, 0, none⟩ (.int .i64 x0)).setCell ⟨v21.heap.size, 1, none⟩ (.int .i64 x1)).setCell ⟨v21.heap.size, 2, none⟩ (.bool x2)) := bl_set (bl_set (bl_set hB ge6 _) ge6 _) ge6 _
          have y_0 : (((v22.setCell ⟨v21.heap.size, 0, none⟩ (.int .i64 x0)).setCell ⟨v21.heap.size, 1, none⟩ (.int .i64 x1)).setCell ⟨v21.heap.size, 2, none⟩ (.bool x2)).cell? ⟨v21.heap.size, 0, none⟩ = some (.int .i64 x0) := by simp [go_sem, z6_0, z6_1, z6_2]
          have y_1 : (((v22.setCell ⟨v21.heap.size, 0, none⟩ (.int .i64 x0)).setCell ⟨v21.heap.size, 1, none⟩ (.int .i64 x1)).setCell ⟨v21.heap.size, 2, none⟩ (.bool x2)).cell? ⟨v21.heap.size, 1, none⟩ = some (.int .i64 x1) := by simp [go_sem, z6_0, z6_1, z6_2]
          have y_2 : (((v22.setCell ⟨v21.heap.size, 0, none⟩ (.int .i64 x0)).setCell ⟨v21.heap.size, 1, none⟩ (.int .i64 x1)).setCell ⟨v21.heap.size, 2, none⟩ (.bool x2)).cell? ⟨v21.heap.size, 2, none⟩ = some (.bool x2) := by simp [go_sem, z6_0, z6_1, z6_2]
          have z6_0 := y_0
          have z6_1 := y_1
          have z6_2 := y_2
          clear y_0 y_1 y_2
          have z7_0 := keep_far3 (x := .int .i64 x0) (y := .int .i64 x1) (z := .bool x2) z7_0 ne7_6
          have g7_0 : (((v22.setCell ⟨v21.heap.size, 0, none⟩ (.int .i64 x0)).setCell ⟨v21.heap.size, 1, none⟩ (.int .i64 x1)).setCell ⟨v21.heap.size, 2, none⟩ (.bool x2)).frozen? ⟨v1.heap.size, 0, none⟩ = false := by simp only [World.frozen?_setCell]; exact g7_0
          have z7_1 := keep_far3 (x := .int .i64 x0) (y := .int .i64 x1) (z := .bool x2) z7_1 ne7_6
          have g7_1 : (((v22.setCell ⟨v21.heap.size, 0, none⟩ (.int .i64 x0)).setCell ⟨v21.heap.size, 1, none⟩ (.int .i64 x1)).setCell ⟨v21.heap.size, 2, none⟩ (.bool x2)).frozen? ⟨v1.heap.size, 1, none⟩ = false := by simp only [World.frozen?_setCell]; exact g7_1
          have z7_2 := keep_far3 (x := .int .i64 x0) (y := .int .i64 x1) (z := .bool x2) z7_2 ne7_6
          have g7_2 : (((v22.setCell ⟨v21.heap.size, 0, none⟩ (.int .i64 x0)).setCell ⟨v21.heap.size, 1, none⟩ (.int .i64 x1)).setCell ⟨v21.heap.size, 2, none⟩ (.bool x2)).frozen? ⟨v1.heap.size, 2, none⟩ = false := by simp only [World.frozen?_setCell]; exact g7_2
          have l7 : v1.heap.size < (((v22.setCell ⟨v21.heap.size, 0, none⟩ (.int .i64 x0)).setCell ⟨v21.heap.size, 1, none⟩ (.int .i64 x1)).setCell ⟨v21.heap.size, 2, none⟩ (.bool x2)).heap.size := by simpa using l7
          have g6_0 : (((v22.setCell ⟨v21.heap.size, 0, none⟩ (.int .i64 x0)).setCell ⟨v21.heap.size, 1, none⟩ (.int .i64 x1)).setCell ⟨v21.heap.size, 2, none⟩ (.bool x2)).frozen? ⟨v21.heap.size, 0, none⟩ = false := by simp only [World.frozen?_setCell]; exact g6_0
          have g6_1 : (((v22.setCell ⟨v21.heap.size, 0, none⟩ (.int .i64 x0)).setCell ⟨v21.heap.size, 1, none⟩ (.int .i64 x1)).setCell ⟨v21.heap.size, 2, none⟩ (.bool x2)).frozen? ⟨v21.heap.size, 1, none⟩ = false := by simp only [World.frozen?_setCell]; exact g6_1
          have g6_2 : (((v22.setCell ⟨v21.heap.size, 0, none⟩ (.int .i64 x0)).setCell ⟨v21.heap.size, 1, none⟩ (.int .i64 x1)).setCell ⟨v21.heap.size, 2, none⟩ (.bool x2)).frozen? ⟨v21.heap.size, 2, none⟩ = false := by simp only [World.frozen?_setCell]; exact g6_2
          have l6 : v21.heap.size < (((v22.setCell ⟨v21.heap.size, 0, none⟩ (.int .i64 x0)).setCell ⟨v21.heap.size, 1, none⟩ (.int .i64 x1)).setCell ⟨v21.heap.size, 2, none⟩ (.bool x2)).heap.size := by simpa using l6
          obtain ⟨v23, hv_⟩ : ∃ v_, v_ = (((v22.setCell ⟨v21.heap.size, 0, none⟩ (.int .i64 x0)).setCell ⟨v21.heap.size, 1, none⟩ (.int .i64 x1)).setCell ⟨v21.heap.size, 2, none⟩ (.bool x2)) := ⟨_, rfl⟩
          rw [← hv_] at hB z6_0 z6_1 z6_2 z7_0 g7_0 z7_1 g7_1 z7_2 g7_2 l7 g6_0 g6_1 g6_2 l6 ⊢
          clear hv_
          (try go_wp2_with fail); refine hK.out _ _ (hB) (fun hHeld => ?_); clear hK K; (try simp only [Act.put, List.setIfInBounds_toArray, List.set_cons_zero, List.set_cons_succ])
          refine wpAnyH_ready (rs := [9]) (by kernel_rfl) (by simp) ?_; refine AllReadyH.cons (o := ?_) ?_ (fun K hK => ?_) AllReadyH.nil; rotate_left 1; (next => simp only [List.getElem?_toArray, List.getElem?_cons_succ, List.getElem?_cons_zero]; rfl); go_simp
          have hB : Below u2.heap.size u2 (((v23.setCell ⟨v1.heap.size, 0, none⟩ (.int .i64 y0)).setCell ⟨v1.heap.size, 1, none⟩ (.int .i64 y1)).setCell ⟨v1.heap.size, 2, none⟩ (.bool y2)) := bl_set (bl_set (bl_set hB ge7 _) ge7 _) ge7 _
          have y_0 : (((v23.setCell ⟨v1.heap.size, 0, none⟩ (.int .i64 y0)).setCell ⟨v1.heap.size, 1, none⟩ (.int .i64 y1)).setCell ⟨v1.heap.size, 2, none⟩ (.bool y2)).cell? ⟨v1.heap.size, 0, none⟩ = some (.int .i64 y0) := by simp [go_sem, z7_0, z7_1, z7_2]
          have y_1 : (((v23.setCell ⟨v1.heap.size, 0, none⟩ (.int .i64 y0)).setCell ⟨v1.heap.size, 1, none⟩ (.int .i64 y1)).setCell ⟨v1.heap.size, 2, none⟩ (.bool y2)).cell? ⟨v1.heap.size, 1, none⟩ = some (.int .i64 y1) := by simp [go_sem, z7_0, z7_1, z7_2]
          have y_2 : (((v23.setCell ⟨v1.heap.size, 0, none⟩ (.int .i64 y0)).setCell ⟨v1.heap.size, 1, none⟩ (.int .i64 y1)).setCell ⟨v1.heap.size, 2, none⟩ (.bool y2)).cell? ⟨v1.heap.size, 2, none⟩ = some (.bool y2) := by simp [go_sem, z7_0, z7_1, z7_2]
          have z7_0 := y_0
          have z7_1 := y_1
          have z7_2 := y_2
          clear y_0 y_1 y_2
          have g7_0 : (((v23.setCell ⟨v1.heap.size, 0, none⟩ (.int .i64 y0)).setCell ⟨v1.heap.size, 1, none⟩ (.int .i64 y1)).setCell ⟨v1.heap.size, 2, none⟩ (.bool y2)).frozen? ⟨v1.heap.size, 0, none⟩ = false := by simp only [World.frozen?_setCell]; exact g7_0
          have g7_1 : (((v23.setCell ⟨v1.heap.size, 0, none⟩ (.int .i64 y0)).setCell ⟨v1.heap.size, 1, none⟩ (.int .i64 y1)).setCell ⟨v1.heap.size, 2, none⟩ (.bool y2)).frozen? ⟨v1.heap.size, 1, none⟩ = false := by simp only [World.frozen?_setCell]; exact g7_1
          have g7_2 : (((v23.setCell ⟨v1.heap.size, 0, none⟩ (.int .i64 y0)).setCell ⟨v1.heap.size, 1, none⟩ (.int .i64 y1)).setCell ⟨v1.heap.size, 2, none⟩ (.bool y2)).frozen? ⟨v1.heap.size, 2, none⟩ = false := by simp only [World.frozen?_setCell]; exact g7_2
          have l7 : v1.heap.size < (((v23.setCell ⟨v1.heap.size, 0, none⟩ (.int .i64 y0)).setCell ⟨v1.heap.size, 1, none⟩ (.int .i64 y1)).setCell ⟨v1.heap.size, 2, none⟩ (.bool y2)).heap.size := by simpa using l7
          have z6_0 := keep_far3 (x := .int .i64 y0) (y := .int .i64 y1) (z := .bool y2) z6_0 ne7_6.symm
          have g6_0 : (((v23.setCell ⟨v1.heap.size, 0, none⟩ (.int .i64 y0)).setCell ⟨v1.heap.size, 1, none⟩ (.int .i64 y1)).setCell ⟨v1.heap.size, 2, none⟩ (.bool y2)).frozen? ⟨v21.heap.size, 0, none⟩ = false := by simp only [World.frozen?_setCell]; exact g6_0
          have z6_1 := keep_far3 (x := .int .i64 y0) (y := .int .i64 y1) (z := .bool y2) z6_1 ne7_6.symm
          have g6_1 : (((v23.setCell ⟨v1.heap.size, 0, none⟩ (.int .i64 y0)).setCell ⟨v1.heap.size, 1, none⟩ (.int .i64 y1)).setCell ⟨v1.heap.size, 2, none⟩ (.bool y2)).frozen? ⟨v21.heap.size, 1, none⟩ = false := by simp only [World.frozen?_setCell]; exact g6_1
          have z6_2 := keep_far3 (x := .int .i64 y0) (y := .int .i64 y1) (z := .bool y2) z6_2 ne7_6.symm
          have g6_2 : (((v23.setCell ⟨v1.heap.size, 0, none⟩ (.int .i64 y0)).setCell ⟨v1.heap.size, 1, none⟩ (.int .i64 y1)).setCell ⟨v1.heap.size, 2, none⟩ (.bool y2)).frozen? ⟨v21.heap.size, 2, none⟩ = false := by simp only [World.frozen?_setCell]; exact g6_2
          have l6 : v21.heap.size < (((v23.setCell ⟨v1.heap.size, 0, none⟩ (.int .i64 y0)).setCell ⟨v1.heap.size, 1, none⟩ (.int .i64 y1)).setCell ⟨v1.heap.size, 2, none⟩ (.bool y2)).heap.size := by simpa using l6
          obtain ⟨v24, hv_⟩ : ∃ v_, v_ = (((v23.setCell ⟨v1.heap.size, 0, none⟩ (.int .i64 y0)).setCell ⟨v1.heap.size, 1, none⟩ (.int .i64 y1)).setCell ⟨v1.heap.size, 2, none⟩ (.bool y2)) := ⟨_, rfl⟩
          rw [← hv_] at hB z7_0 z7_1 z7_2 g7_0 g7_1 g7_2 l7 z6_0 g6_0 z6_1 g6_1 z6_2 g6_2 l6 ⊢
          clear hv_
          (try go_wp2_with fail); refine hK.out _ _ (hB) (fun hHeld => ?_); clear hK K; (try simp only [Act.put, List.setIfInBounds_toArray, List.set_cons_zero, List.set_cons_succ])
          refine wpAnyH_done (by kernel_rfl) ?_ _
          (go_wp2_with fail; go_meet)
          exact ⟨_, _, rfl, rfl, z6_2, z7_1, z7_2, hB⟩
        refine AllReadyH.cons (o := ?_) ?_ (fun K hK => ?_) AllReadyH.nil; rotate_left 1; (next => simp only [List.getElem?_toArray, List.getElem?_cons_succ, List.getElem?_cons_zero]; rfl)
        go_simp
        have ge6 : u2.heap.size ≤ v20.heap.size := hB.size
        have ne7_6 : v1.heap.size ≠ v20.heap.size := Nat.ne_of_lt l7
        have hb := bl_alloc (bl_refl v20) (.cells #[.int .i64 0, .int .i64 0, .bool false] 134)
        have z7_0 := keep_cell hb z7_0
        have z7_1 := keep_cell hb z7_1
        have z7_2 := keep_cell hb z7_2
        have g7_0 := (hb.frozen (p := ⟨v1.heap.size, 0, none⟩) l7).trans g7_0
        have g7_1 := (hb.frozen (p := ⟨v1.heap.size, 1, none⟩) l7).trans g7_1
        have g7_2 := (hb.frozen (p := ⟨v1.heap.size, 2, none⟩) l7).trans g7_2
        have l7 := Nat.lt_of_lt_of_le l7 hb.size
        have z6_0 : (v20.alloc (.cells #[.int .i64 0, .int .i64 0, .bool false] 134)).cell? ⟨v20.heap.size, 0, none⟩ = some (.int .i64 0) := by simp [go_sem]
        have z6_1 : (v20.alloc (.cells #[.int .i64 0, .int .i64 0, .bool false] 134)).cell? ⟨v20.heap.size, 1, none⟩ = some (.int .i64 0) := by simp [go_sem]
        have z6_2 : (v20.alloc (.cells #[.int .i64 0, .int .i64 0, .bool false] 134)).cell? ⟨v20.heap.size, 2, none⟩ = some (.bool false) := by simp [go_sem]
        have g6_0 : (v20.alloc (.cells #[.int .i64 0, .int .i64 0, .bool false] 134)).frozen? ⟨v20.heap.size, 0, none⟩ = false := by simp [go_sem]
        have g6_1 : (v20.alloc (.cells #[.int .i64 0, .int .i64 0, .bool false] 134)).frozen? ⟨v20.heap.size, 1, none⟩ = false := by simp [go_sem]
        have g6_2 : (v20.alloc (.cells #[.int .i64 0, .int .i64 0, .bool false] 134)).frozen? ⟨v20.heap.size, 2, none⟩ = false := by simp [go_sem]
        have l6 : v20.heap.size < (v20.alloc (.cells #[.int .i64 0, .int .i64 0, .bool false] 134)).heap.size := by simp
        obtain ⟨v25, hv_⟩ : ∃ v_, v_ = (v20.alloc (.cells #[.int .i64 0, .int .i64 0, .bool false] 134)) := ⟨_, rfl⟩
        rw [← hv_] at hb z7_0 g7_0 z7_1 g7_1 z7_2 g7_2 l7 z6_0 z6_1 z6_2 g6_0 g6_1 g6_2 l6 ⊢
        clear hv_
        have hB : Below u2.heap.size u2 v25 := bl_call hb hB
        clear hb
        (try go_wp2_with fail); refine hK.out _ _ (hB) (fun hHeld => ?_); clear hK K; (try simp only [Act.put, List.setIfInBounds_toArray, List.set_cons_zero, List.set_cons_succ])
        refine wpAnyH_ready (rs := [5]) (by kernel_rfl) (by simp) ?_; refine AllReadyH.cons (o := ?_) ?_ (fun K hK => ?_) AllReadyH.nil; rotate_left 1; (next => simp only [List.getElem?_toArray, List.getElem?_cons_succ, List.getElem?_cons_zero]; rfl); go_simp
        (go_at_call 114; (with_reducible refine (HPB.out _ (bl_call (by repeat' (first | with_reducible assumption | with_reducible refine bl_alloc ?_ _ | with_reducible refine bl_drew ?_)) HBW) _ _ _).mono ?_); rintro e v26 ⟨rfl, hb⟩)
        have hB : Below u2.heap.size u2 v26 := bl_call hb hB
        have z7_0 := keep_cell hb z7_0
        have z7_1 := keep_cell hb z7_1
        have z7_2 := keep_cell hb z7_2
        have g7_0 := (hb.frozen (p := ⟨v1.heap.size, 0, none⟩) l7).trans g7_0
        have g7_1 := (hb.frozen (p := ⟨v1.heap.size, 1, none⟩) l7).trans g7_1
        have g7_2 := (hb.frozen (p := ⟨v1.heap.size, 2, none⟩) l7).trans g7_2
        have l7 := Nat.lt_of_lt_of_le l7 hb.size
        have z6_0 := keep_cell hb z6_0
        have z6_1 := keep_cell hb z6_1
        have z6_2 := keep_cell hb z6_2
        have g6_0 := (hb.frozen (p := ⟨v20.heap.size, 0, none⟩) l6).trans g6_0
        have g6_1 := (hb.frozen (p := ⟨v20.heap.size, 1, none⟩) l6).trans g6_1
        have g6_2 := (hb.frozen (p := ⟨v20.heap.size, 2, none⟩) l6).trans g6_2
        have l6 := Nat.lt_of_lt_of_le l6 hb.size
        clear hb
        (try go_wp2_with fail); refine hK.out _ _ (hB) (fun hHeld => ?_); clear hK K; (try simp only [Act.put, List.setIfInBounds_toArray, List.set_cons_zero, List.set_cons_succ])
        refine wpAnyH_ready (rs := [8]) (by kernel_rfl) (by simp) ?_; refine AllReadyH.cons (o := ?_) ?_ (fun K hK => ?_) AllReadyH.nil; rotate_left 1; (next => simp only [List.getElem?_toArray, List.getElem?_cons_succ, List.getElem?_cons_zero]; rfl); go_simp
        have hB : Below u2.heap.size u2 (((v26.setCell ⟨v20.heap.size, 0, none⟩ (.int .i64 x0)).setCell ⟨v20.heap.size, 1, none⟩ (.int .i64 x1)).setCell ⟨v20.heap.size, 2, none⟩ (.bool x2)) := bl_set (bl_set (bl_set hB ge6 _) ge6 _) ge6 _
        have y_0 : (((v26.setCell ⟨v20.heap.size, 0, none⟩ (.int .i64 x0)).setCell ⟨v20.heap.size, 1, none⟩ (.int .i64 x1)).setCell ⟨v20.heap.size, 2, none⟩ (.bool x2)).cell? ⟨v20.heap.size, 0, none⟩ = some (.int .i64 x0) := by simp [go_sem, z6_0, z6_1, z6_2]
        have y_1 : (((v26.setCell ⟨v20.heap.size, 0, none⟩ (.int .i64 x0)).setCell ⟨v20.heap.size, 1, none⟩ (.int .i64 x1)).setCell ⟨v20.heap.size, 2, none⟩ (.bool x2)).cell? ⟨v20.heap.size, 1, none⟩ = some (.int .i64 x1) := by simp [go_sem, z6_0, z6_1, z6_2]
        have y_2 : (((v26.setCell ⟨v20.heap.size, 0, none⟩ (.int .i64 x0)).setCell ⟨v20.heap.size, 1, none⟩ (.int .i64 x1)).setCell ⟨v20.heap.size, 2, none⟩ (.bool x2)).cell? ⟨v20.heap.size, 2, none⟩ = some (.bool x2) := by simp [go_sem, z6_0, z6_1, z6_2]
        have z6_0 := y_0
        have z6_1 := y_1
        have z6_2 := y_2
        clear y_0 y_1 y_2
        have z7_0 := keep_far3 (x := .int .i64 x0) (y := .int .i64 x1) (z := .bool x2) z7_0 ne7_6
        have g7_0 : (((v26.setCell ⟨v20.heap.size, 0, none⟩ (.int .i64 x0)).setCell ⟨v20.heap.size, 1, none⟩ (.int .i64 x1)).setCell ⟨v20.heap.size, 2, none⟩ (.bool x2)).frozen? ⟨v1.heap.size, 0, none⟩ = false := by simp only [World.frozen?_setCell]; exact g7_0
        have z7_1 := keep_far3 (x := .int .i64 x0) (y := .int .i64 x1) (z := .bool x2) z7_1 ne7_6
        have g7_1 : (((v26.setCell ⟨v20.heap.size, 0, none⟩ (.int .i64 x0)).setCell ⟨v20.heap.size, 1, none⟩ (.int .i64 x1)).setCell ⟨v20.heap.size, 2, none⟩ (.bool x2)).frozen? ⟨v1.heap.size, 1, none⟩ = false := by simp only [World.frozen?_setCell]; exact g7_1
        have z7_2 := keep_far3 (x := .int .i64 x0) (y := .int .i64 x1) (z := .bool x2) z7_2 ne7_6
        have g7_2 : (((v26.setCell ⟨v20.heap.size, 0, none⟩ (.int .i64 x0)).setCell ⟨v20.heap.size, 1, none⟩ (.int .i64 x1)).setCell ⟨v20.heap.size, 2, none⟩ (.bool x2)).frozen? ⟨v1.heap.size, 2, none⟩ = false := by simp only [World.frozen?_setCell]; exact g7_2
        have l7 : v1.heap.size < (((v26.setCell ⟨v20.heap.size, 0, none⟩ (.int .i64 x0)).setCell ⟨v20.heap.size, 1, none⟩ (.int .i64 x1)).setCell ⟨v20.heap.size, 2, none⟩ (.bool x2)).heap.size := by simpa using l7
        have g6_0 : (((v26.setCell ⟨v20.heap.size, 0, none⟩ (.int .i64 x0)).setCell ⟨v20.heap.size, 1, none⟩ (.int .i64 x1)).setCell ⟨v20.heap.size, 2, none⟩ (.bool x2)).frozen? ⟨v20.heap.size, 0, none⟩ = false := by simp only [World.frozen?_setCell]; exact g6_0
        have g6_1 : (((v26.setCell ⟨v20.heap.size, 0, none⟩ (.int .i64 x0)).setCell ⟨v20.heap.size, 1, none⟩ (.int .i64 x1)).setCell ⟨v20.heap.size, 2, none⟩ (.bool x2)).frozen? ⟨v20.heap.size, 1, none⟩ = false := by simp only [World.frozen?_setCell]; exact g6_1
        have g6_2 : (((v26.setCell ⟨v20.heap.size, 0, none⟩ (.int .i64 x0)).setCell ⟨v20.heap.size, 1, none⟩ (.int .i64 x1)).setCell ⟨v20.heap.size, 2, none⟩ (.bool x2)).frozen? ⟨v20.heap.size, 2, none⟩ = false := by simp only [World.frozen?_setCell]; exact g6_2
        have l6 : v20.heap.size < (((v26.setCell ⟨v20.heap.size, 0, none⟩ (.int .i64 x0)).setCell ⟨v20.heap.size, 1, none⟩ (.int .i64 x1)).setCell ⟨v20.heap.size, 2, none⟩ (.bool x2)).heap.size := by simpa using l6
        obtain ⟨v27, hv_⟩ : ∃ v_, v_ = (((v26.setCell ⟨v20.heap.size, 0, none⟩ (.int .i64 x0)).setCell ⟨v20.heap.size, 1, none⟩ (.int .i64 x1)).setCell ⟨v20.heap.size, 2, none⟩ (.bool x2)) := ⟨_, rfl⟩
        rw [← hv_] at hB z6_0 z6_1 z6_2 z7_0 g7_0 z7_1 g7_1 z7_2 g7_2 l7 g6_0 g6_1 g6_2 l6 ⊢
        clear hv_
        (try go_wp2_with fail); refine hK.out _ _ (hB) (fun hHeld => ?_); clear hK K; (try simp only [Act.put, List.setIfInBounds_toArray, List.set_cons_zero, List.set_cons_succ])
        refine wpAnyH_ready (rs := [9]) (by kernel_rfl) (by simp) ?_; refine AllReadyH.cons (o := ?_) ?_ (fun K hK => ?_) AllReadyH.nil; rotate_left 1; (next => simp only [List.getElem?_toArray, List.getElem?_cons_succ, List.getElem?_cons_zero]; rfl); go_simp
        have hB : Below u2.heap.size u2 (((v27.setCell ⟨v1.heap.size, 0, none⟩ (.int .i64 y0)).setCell ⟨v1.heap.size, 1, none⟩ (.int .i64 y1)).setCell ⟨v1.heap.size, 2, none⟩ (.bool y2)) := bl_set (bl_set (bl_set hB ge7 _) ge7 _) ge7 _
        have y_0 : (((v27.setCell ⟨v1.heap.size, 0, none⟩ (.int .i64 y0)).setCell ⟨v1.heap.size, 1, none⟩ (.int .i64 y1)).setCell ⟨v1.heap.size, 2, none⟩ (.bool y2)).cell? ⟨v1.heap.size, 0, none⟩ = some (.int .i64 y0) := by simp [go_sem, z7_0, z7_1, z7_2]
        have y_1 : (((v27.setCell ⟨v1.heap.size, 0, none⟩ (.int .i64 y0)).setCell ⟨v1.heap.size, 1, none⟩ (.int .i64 y1)).setCell ⟨v1.heap.size, 2, none⟩ (.bool y2)).cell? ⟨v1.heap.size, 1, none⟩ = some (.int .i64 y1) := by simp [go_sem, z7_0, z7_1, z7_2]
        have y_2 : (((v27.setCell ⟨v1.heap.size, 0, none⟩ (.int .i64 y0)).setCell ⟨v1.heap.size, 1, none⟩ (.int .i64 y1)).setCell ⟨v1.heap.size, 2, none⟩ (.bool y2)).cell? ⟨v1.heap.size, 2, none⟩ = some (.bool y2) := by simp [go_sem, z7_0, z7_1, z7_2]
        have z7_0 := y_0
        have z7_1 := y_1
        have z7_2 := y_2
        clear y_0 y_1 y_2
        have g7_0 : (((v27.setCell ⟨v1.heap.size, 0, none⟩ (.int .i64 y0)).setCell ⟨v1.heap.size, 1, none⟩ (.int .i64 y1)).setCell ⟨v1.heap.size, 2, none⟩ (.bool y2)).frozen? ⟨v1.heap.size, 0, none⟩ = false := by simp only [World.frozen?_setCell]; exact g7_0
        have g7_1 : (((v27.setCell ⟨v1.heap.size, 0, none⟩ (.int .i64 y0)).setCell ⟨v1.heap.size, 1, none⟩ (.int .i64 y1)).setCell ⟨v1.heap.size, 2, none⟩ (.bool y2)).frozen? ⟨v1.heap.size, 1, none⟩ = false := by simp only [World.frozen?_setCell]; exact g7_1
        have g7_2 : (((v27.setCell ⟨v1.heap.size, 0, none⟩ (.int .i64 y0)).setCell ⟨v1.heap.size, 1, none⟩ (.int .i64 y1)).setCell ⟨v1.heap.size, 2, none⟩ (.bool y2)).frozen? ⟨v1.heap.size, 2, none⟩ = false := by simp only [World.frozen?_setCell]; exact g7_2
        have l7 : v1.heap.size < (((v27.setCell ⟨v1.heap.size, 0, none⟩ (.int .i64 y0)).setCell ⟨v1.heap.size, 1, none⟩ (.int .i64 y1)).setCell ⟨v1.heap.size, 2, none⟩ (.bool y2)).heap.size := by simpa using l7
        have z6_0 := keep_far3 (x := .int .i64 y0) (y := .int .i64 y1) (z := .bool y2) z6_0 ne7_6.symm
        have g6_0 : (((v27.setCell ⟨v1.heap.size, 0, none⟩ (.int .i64 y0)).setCell ⟨v1.heap.size, 1, none⟩ (.int .i64 y1)).setCell ⟨v1.heap.size, 2, none⟩ (.bool y2)).frozen? ⟨v20.heap.size, 0, none⟩ = false := by simp only [World.frozen?_setCell]; exact g6_0
        have z6_1 := keep_far3 (x := .int .i64 y0) (y := .int .i64 y1) (z := .bool y2) z6_1 ne7_6.symm
        have g6_1 : (((v27.setCell ⟨v1.heap.size, 0, none⟩ (.int .i64 y0)).setCell ⟨v1.heap.size, 1, none⟩ (.int .i64 y1)).setCell ⟨v1.heap.size, 2, none⟩ (.bool y2)).frozen? ⟨v20.heap.size, 1, none⟩ = false := by simp only [World.frozen?_setCell]; exact g6_1
        have z6_2 := keep_far3 (x := .int .i64 y0) (y := .int .i64 y1) (z := .bool y2) z6_2 ne7_6.symm
        have g6_2 : (((v27.setCell ⟨v1.heap.size, 0, none⟩ (.int .i64 y0)).setCell ⟨v1.heap.size, 1, none⟩ (.int .i64 y1)).setCell ⟨v1.heap.size, 2, none⟩ (.bool y2)).frozen? ⟨v20.heap.size, 2, none⟩ = false := by simp only [World.frozen?_setCell]; exact g6_2
        have l6 : v20.heap.size < (((v27.setCell ⟨v1.heap.size, 0, none⟩ (.int .i64 y0)).setCell ⟨v1.heap.size, 1, none⟩ (.int .i64 y1)).setCell ⟨v1.heap.size, 2, none⟩ (.bool y2)).heap.size := by simpa using l6
        obtain ⟨v28, hv_⟩ : ∃ v_, v_ = (((v27.setCell ⟨v1.heap.size, 0, none⟩ (.int .i64 y0)).setCell ⟨v1.heap.size, 1, none⟩ (.int .i64 y1)).setCell ⟨v1.heap.size, 2, none⟩ (.bool y2)) := ⟨_, rfl⟩
        rw [← hv_] at hB z7_0 z7_1 z7_2 g7_0 g7_1 g7_2 l7 z6_0 g6_0 z6_1 g6_1 z6_2 g6_2 l6 ⊢
        clear hv_
        (try go_wp2_with fail); refine hK.out _ _ (hB) (fun hHeld => ?_); clear hK K; (try simp only [Act.put, List.setIfInBounds_toArray, List.set_cons_zero, List.set_cons_succ])
        refine wpAnyH_done (by kernel_rfl) ?_ _
        (go_wp2_with fail; go_meet)
        exact ⟨_, _, rfl, rfl, z6_2, z7_1, z7_2, hB⟩
      refine AllReadyH.cons (o := ?_) ?_ (fun K hK => ?_) ?_; rotate_left 1; (next => simp only [List.getElem?_toArray, List.getElem?_cons_succ, List.getElem?_cons_zero]; rfl)
      · go_simp
        have ge6 : u2.heap.size ≤ u2.heap.size := Nat.le_refl _
        have hb := bl_drew (bl_alloc (bl_refl u2) (.cells #[.int .i64 0, .int .i64 0, .bool false] 134))
        have z6_0 : (u2.alloc (.cells #[.int .i64 0, .int .i64 0, .bool false] 134)).drew.cell? ⟨u2.heap.size, 0, none⟩ = some (.int .i64 0) := by simp [go_sem]
        have z6_1 : (u2.alloc (.cells #[.int .i64 0, .int .i64 0, .bool false] 134)).drew.cell? ⟨u2.heap.size, 1, none⟩ = some (.int .i64 0) := by simp [go_sem]
        have z6_2 : (u2.alloc (.cells #[.int .i64 0, .int .i64 0, .bool false] 134)).drew.cell? ⟨u2.heap.size, 2, none⟩ = some (.bool false) := by simp [go_sem]
        have g6_0 : (u2.alloc (.cells #[.int .i64 0, .int .i64 0, .bool false] 134)).drew.frozen? ⟨u2.heap.size, 0, none⟩ = false := by simp [go_sem]
        have g6_1 : (u2.alloc (.cells #[.int .i64 0, .int .i64 0, .bool false] 134)).drew.frozen? ⟨u2.heap.size, 1, none⟩ = false := by simp [go_sem]
        have g6_2 : (u2.alloc (.cells #[.int .i64 0, .int .i64 0, .bool false] 134)).drew.frozen? ⟨u2.heap.size, 2, none⟩ = false := by simp [go_sem]
        have l6 : u2.heap.size < (u2.alloc (.cells #[.int .i64 0, .int .i64 0, .bool false] 134)).drew.heap.size := by simp
        obtain ⟨v29, hv_⟩ : ∃ v_, v_ = (u2.alloc (.cells #[.int .i64 0, .int .i64 0, .bool false] 134)).drew := ⟨_, rfl⟩
        rw [← hv_] at hb z6_0 z6_1 z6_2 g6_0 g6_1 g6_2 l6 ⊢
        clear hv_
        have hB : Below u2.heap.size u2 v29 := hb
        clear hb
        (try go_wp2_with fail); refine hK.out _ _ (hB) (fun hHeld => ?_); clear hK K; (try simp only [Act.put, List.setIfInBounds_toArray, List.set_cons_zero, List.set_cons_succ])
        refine wpAnyH_ready (rs := [2, 7]) (by kernel_rfl) (by simp) ?_
        refine AllReadyH.cons (o := ?_) ?_ (fun K hK => ?_) ?_; rotate_left 1; (next => simp only [List.getElem?_toArray, List.getElem?_cons_succ, List.getElem?_cons_zero]; rfl)
        · go_simp
          (go_at_call 114; (with_reducible refine (HPA.out _ (bl_call (by repeat' (first | with_reducible assumption | with_reducible refine bl_alloc ?_ _ | with_reducible refine bl_drew ?_)) HBW) _ _ _).mono ?_); rintro e v30 ⟨rfl, hb⟩)
          have hB : Below u2.heap.size u2 v30 := bl_call hb hB
          have z6_0 := keep_cell hb z6_0
          have z6_1 := keep_cell hb z6_1
          have z6_2 := keep_cell hb z6_2
          have g6_0 := (hb.frozen (p := ⟨u2.heap.size, 0, none⟩) l6).trans g6_0
          have g6_1 := (hb.frozen (p := ⟨u2.heap.size, 1, none⟩) l6).trans g6_1
          have g6_2 := (hb.frozen (p := ⟨u2.heap.size, 2, none⟩) l6).trans g6_2
          have l6 := Nat.lt_of_lt_of_le l6 hb.size
          clear hb
          (try go_wp2_with fail); refine hK.out _ _ (hB) (fun hHeld => ?_); clear hK K; (try simp only [Act.put, List.setIfInBounds_toArray, List.set_cons_zero, List.set_cons_succ])
          refine wpAnyH_ready (rs := [5, 7]) (by kernel_rfl) (by simp) ?_
          refine AllReadyH.cons (o := ?_) ?_ (fun K hK => ?_) ?_; rotate_left 1; (next => simp only [List.getElem?_toArray, List.getElem?_cons_succ, List.getElem?_cons_zero]; rfl)
          · go_simp
            (go_at_call 114; (with_reducible refine (HPB.out _ (bl_call (by repeat' (first | with_reducible assumption | with_reducible refine bl_alloc ?_ _ | with_reducible refine bl_drew ?_)) HBW) _ _ _).mono ?_); rintro e v31 ⟨rfl, hb⟩)
            have hB : Below u2.heap.size u2 v31 := bl_call hb hB
            have z6_0 := keep_cell hb z6_0
            have z6_1 := keep_cell hb z6_1
            have z6_2 := keep_cell hb z6_2
            have g6_0 := (hb.frozen (p := ⟨u2.heap.size, 0, none⟩) l6).trans g6_0
            have g6_1 := (hb.frozen (p := ⟨u2.heap.size, 1, none⟩) l6).trans g6_1
            have g6_2 := (hb.frozen (p := ⟨u2.heap.size, 2, none⟩) l6).trans g6_2
            have l6 := Nat.lt_of_lt_of_le l6 hb.size
            clear hb
            (try go_wp2_with fail); refine hK.out _ _ (hB) (fun hHeld => ?_); clear hK K; (try simp only [Act.put, List.setIfInBounds_toArray, List.set_cons_zero, List.set_cons_succ])
            refine wpAnyH_ready (rs := [7]) (by kernel_rfl) (by simp) ?_; refine AllReadyH.cons (o := ?_) ?_ (fun K hK => ?_) AllReadyH.nil; rotate_left 1; (next => simp only [List.getElem?_toArray, List.getElem?_cons_succ, List.getElem?_cons_zero]; rfl); go_simp
            have ge7 : u2.heap.size ≤ v31.heap.size := hB.size
            have ne6_7 : u2.heap.size ≠ v31.heap.size := Nat.ne_of_lt l6
            have hb := bl_alloc (bl_refl v31) (.cells #[.int .i64 0, .int .i64 0, .bool false] 134)
            have z6_0 := keep_cell hb z6_0
            have z6_1 := keep_cell hb z6_1
            have z6_2 := keep_cell hb z6_2
            have g6_0 := (hb.frozen (p := ⟨u2.heap.size, 0, none⟩) l6).trans g6_0
            have g6_1 := (hb.frozen (p := ⟨u2.heap.size, 1, none⟩) l6).trans g6_1
            have g6_2 := (hb.frozen (p := ⟨u2.heap.size, 2, none⟩) l6).trans g6_2
            have l6 := Nat.lt_of_lt_of_le l6 hb.size
            have z7_0 : (v31.alloc (.cells #[.int .i64 0, .int .i64 0, .bool false] 134)).cell? ⟨v31.heap.size, 0, none⟩ = some (.int .i64 0) := by simp [go_sem]
            have z7_1 : (v31.alloc (.cells #[.int .i64 0, .int .i64 0, .bool false] 134)).cell? ⟨v31.heap.size, 1, none⟩ = some (.int .i64 0) := by simp [go_sem]
            have z7_2 : (v31.alloc (.cells #[.int .i64 0, .int .i64 0, .bool false] 134)).cell? ⟨v31.heap.size, 2, none⟩ = some (.bool false) := by simp [go_sem]
            have g7_0 : (v31.alloc (.cells #[.int .i64 0, .int .i64 0, .bool false] 134)).frozen? ⟨v31.heap.size, 0, none⟩ = false := by simp [go_sem]
            have g7_1 : (v31.alloc (.cells #[.int .i64 0, .int .i64 0, .bool false] 134)).frozen? ⟨v31.heap.size, 1, none⟩ = false := by simp [go_sem]
            have g7_2 : (v31.alloc (.cells #[.int .i64 0, .int .i64 0, .bool false] 134)).frozen? ⟨v31.heap.size, 2, none⟩ = false := by simp [go_sem]
            have l7 : v31.heap.size < (v31.alloc (.cells #[.int .i64 0, .int .i64 0, .bool false] 134)).heap.size := by simp
            obtain ⟨v32, hv_⟩ : ∃ v_, v_ = (v31.alloc (.cells #[.int .i64 0, .int .i64 0, .bool false] 134)) := ⟨_, rfl⟩
            rw [← hv_] at hb z6_0 g6_0 z6_1 g6_1 z6_2 g6_2 l6 z7_0 z7_1 z7_2 g7_0 g7_1 g7_2 l7 ⊢
            clear hv_
            have hB : Below u2.heap.size u2 v32 := bl_call hb hB
            clear hb
            (try go_wp2_with fail); refine hK.out _ _ (hB) (fun hHeld => ?_); clear hK K; (try simp only [Act.put, List.setIfInBounds_toArray, List.set_cons_zero, List.set_cons_succ])
            refine wpAnyH_ready (rs := [8]) (by kernel_rfl) (by simp) ?_; refine AllReadyH.cons (o := ?_) ?_ (fun K hK => ?_) AllReadyH.nil; rotate_left 1; (next => simp only [List.getElem?_toArray, List.getElem?_cons_succ, List.getElem?_cons_zero]; rfl); go_simp
            have hB : Below u2.heap.size u2 (((v32.setCell ⟨u2.heap.size, 0, none⟩ (.int .i64 x0)).setCell ⟨u2.heap.size, 1, none⟩ (.int .i64 x1)).setCell ⟨u2.heap.size, 2, none⟩ (.bool x2)) := bl_set (bl_set (bl_set hB ge6 _) ge6 _) ge6 _
            have y_0 : (((v32.setCell ⟨u2.heap.size, 0, none⟩ (.int .i64 x0)).setCell ⟨u2.heap.size, 1, none⟩ (.int .i64 x1)).setCell ⟨u2.heap.size, 2, none⟩ (.bool x2)).cell? ⟨u2.heap.size, 0, none⟩ = some (.int .i64 x0) := by simp [go_sem, z6_0, z6_1, z6_2]
            have y_1 : (((v32.setCell ⟨u2.heap.size, 0, none⟩ (.int .i64 x0)).setCell ⟨u2.heap.size, 1, none⟩ (.int .i64 x1)).setCell ⟨u2.heap.size, 2, none⟩ (.bool x2)).cell? ⟨u2.heap.size, 1, none⟩ = some (.int .i64 x1) := by simp [go_sem, z6_0, z6_1, z6_2]
            have y_2 : (((v32.setCell ⟨u2.heap.size, 0, none⟩ (.int .i64 x0)).setCell ⟨u2.heap.size, 1, none⟩ (.int .i64 x1)).setCell ⟨u2.heap.size, 2, none⟩ (.bool x2)).cell? ⟨u2.heap.size, 2, none⟩ = some (.bool x2) := by simp [go_sem, z6_0, z6_1, z6_2]
            have z6_0 := y_0
            have z6_1 := y_1
            have z6_2 := y_2
            clear y_0 y_1 y_2
            have g6_0 : (((v32.setCell ⟨u2.heap.size, 0, none⟩ (.int .i64 x0)).setCell ⟨u2.heap.size, 1, none⟩ (.int .i64 x1)).setCell ⟨u2.heap.size, 2, none⟩ (.bool x2)).frozen? ⟨u2.heap.size, 0, none⟩ = false := by simp only [World.frozen?_setCell]; exact g6_0
            have g6_1 : (((v32.setCell ⟨u2.heap.size, 0, none⟩ (.int .i64 x0)).setCell ⟨u2.heap.size, 1, none⟩ (.int .i64 x1)).setCell ⟨u2.heap.size, 2, none⟩ (.bool x2)).frozen? ⟨u2.heap.size, 1, none⟩ = false := by simp only [World.frozen?_setCell]; exact g6_1
            have g6_2 : (((v32.setCell ⟨u2.heap.size, 0, none⟩ (.int .i64 x0)).setCell ⟨u2.heap.size, 1, none⟩ (.int .i64 x1)).setCell ⟨u2.heap.size, 2, none⟩ (.bool x2)).frozen? ⟨u2.heap.size, 2, none⟩ = false := by simp only [World.frozen?_setCell]; exact g6_2
            have l6 : u2.heap.size < (((v32.setCell ⟨u2.heap.size, 0, none⟩ (.int .i64 x0)).setCell ⟨u2.heap.size, 1, none⟩ (.int .i64 x1)).setCell ⟨u2.heap.size, 2, none⟩ (.bool x2)).heap.size := by simpa using l6
            have z7_0 := keep_far3 (x := .int .i64 x0) (y := .int .i64 x1) (z := .bool x2) z7_0 ne6_7.symm
            have g7_0 : (((v32.setCell ⟨u2.heap.size, 0, none⟩ (.int .i64 x0)).setCell ⟨u2.heap.size, 1, none⟩ (.int .i64 x1)).setCell ⟨u2.heap.size, 2, none⟩ (.bool x2)).frozen? ⟨v31.heap.size, 0, none⟩ = false := by simp only [World.frozen?_setCell]; exact g7_0
            have z7_1 := keep_far3 (x := .int .i64 x0) (y := .int .i64 x1) (z := .bool x2) z7_1 ne6_7.symm
            have g7_1 : (((v32.setCell ⟨u2.heap.size, 0, none⟩ (.int .i64 x0)).setCell ⟨u2.heap.size, 1, none⟩ (.int .i64 x1)).setCell ⟨u2.heap.size, 2, none⟩ (.bool x2)).frozen? ⟨v31.heap.size, 1, none⟩ = false := by simp only [World.frozen?_setCell]; exact g7_1
            have z7_2 := keep_far3 (x := .int .i64 x0) (y := .int .i64 x1) (z := .bool x2) z7_2 ne6_7.symm
            have g7_2 : (((v32.setCell ⟨u2.heap.size, 0, none⟩ (.int .i64 x0)).setCell ⟨u2.heap.size, 1, none⟩ (.int .i64 x1)).setCell ⟨u2.heap.size, 2, none⟩ (.bool x2)).frozen? ⟨v31.heap.size, 2, none⟩ = false := by simp only [World.frozen?_setCell]; exact g7_2
            have l7 : v31.heap.size < (((v32.setCell ⟨u2.heap.size, 0, none⟩ (.int .i64 x0)).setCell ⟨u2.heap.size, 1, none⟩ (.int .i64 x1)).setCell ⟨u2.heap.size, 2, none⟩ (.bool x2)).heap.size := by simpa using l7
            obtain ⟨v33, hv_⟩ : ∃ v_, v_ = (((v32.setCell ⟨u2.heap.size, 0, none⟩ (.int .i64 x0)).setCell ⟨u2.heap.size, 1, none⟩ (.int .i64 x1)).setCell ⟨u2.heap.size, 2, none⟩ (.bool x2)) := ⟨_, rfl⟩
            rw [← hv_] at hB z6_0 z6_1 z6_2 g6_0 g6_1 g6_2 l6 z7_0 g7_0 z7_1 g7_1 z7_2 g7_2 l7 ⊢
            clear hv_
            (try go_wp2_with fail); refine hK.out _ _ (hB) (fun hHeld => ?_); clear hK K; (try simp only [Act.put, List.setIfInBounds_toArray, List.set_cons_zero, List.set_cons_succ])
            refine wpAnyH_ready (rs := [9]) (by kernel_rfl) (by simp) ?_; refine AllReadyH.cons (o := ?_) ?_ (fun K hK => ?_) AllReadyH.nil; rotate_left 1; (next => simp only [List.getElem?_toArray, List.getElem?_cons_succ, List.getElem?_cons_zero]; rfl); go_simp
            have hB : Below u2.heap.size u2 (((v33.setCell ⟨v31.heap.size, 0, none⟩ (.int .i64 y0)).setCell ⟨v31.heap.size, 1, none⟩ (.int .i64 y1)).setCell ⟨v31.heap.size, 2, none⟩ (.bool y2)) := bl_set (bl_set (bl_set hB ge7 _) ge7 _) ge7 _
            have y_0 : (((v33.setCell ⟨v31.heap.size, 0, none⟩ (.int .i64 y0)).setCell ⟨v31.heap.size, 1, none⟩ (.int .i64 y1)).setCell ⟨v31.heap.size, 2, none⟩ (.bool y2)).cell? ⟨v31.heap.size, 0, none⟩ = some (.int .i64 y0) := by simp [go_sem, z7_0, z7_1, z7_2]
            have y_1 : (((v33.setCell ⟨v31.heap.size, 0, none⟩ (.int .i64 y0)).setCell ⟨v31.heap.size, 1, none⟩ (.int .i64 y1)).setCell ⟨v31.heap.size, 2, none⟩ (.bool y2)).cell? ⟨v31.heap.size, 1, none⟩ = some (.int .i64 y1) := by simp [go_sem, z7_0, z7_1, z7_2]
            have y_2 : (((v33.setCell ⟨v31.heap.size, 0, none⟩ (.int .i64 y0)).setCell ⟨v31.heap.size, 1, none⟩ (.int .i64 y1)).setCell ⟨v31.heap.size, 2, none⟩ (.bool y2)).cell? ⟨v31.heap.size, 2, none⟩ = some (.bool y2) := by simp [go_sem, z7_0, z7_1, z7_2]
            have z7_0 := y_0
            have z7_1 := y_1
            have z7_2 := y_2
            clear y_0 y_1 y_2
            have z6_0 := keep_far3 (x := .int .i64 y0) (y := .int .i64 y1) (z := .bool y2) z6_0 ne6_7
            have g6_0 : (((v33.setCell ⟨v31.heap.size, 0, none⟩ (.int .i64 y0)).setCell ⟨v31.heap.size, 1, none⟩ (.int .i64 y1)).setCell ⟨v31.heap.size, 2, none⟩ (.bool y2)).frozen? ⟨u2.heap.size, 0, none⟩ = false := by simp only [World.frozen?_setCell]; exact g6_0
            have z6_1 := keep_far3 (x := .int .i64 y0) (y := .int .i64 y1) (z := .bool y2) z6_1 ne6_7
            have g6_1 : (((v33.setCell ⟨v31.heap.size, 0, none⟩ (.int .i64 y0)).setCell ⟨v31.heap.size, 1, none⟩ (.int .i64 y1)).setCell ⟨v31.heap.size, 2, none⟩ (.bool y2)).frozen? ⟨u2.heap.size, 1, none⟩ = false := by simp only [World.frozen?_setCell]; exact g6_1
            have z6_2 := keep_far3 (x := .int .i64 y0) (y := .int .i64 y1) (z := .bool y2) z6_2 ne6_7
            have g6_2 : (((v33.setCell ⟨v31.heap.size, 0, none⟩ (.int .i64 y0)).setCell ⟨v31.heap.size, 1, none⟩ (.int .i64 y1)).setCell ⟨v31.heap.size, 2, none⟩ (.bool y2)).frozen? ⟨u2.heap.size, 2, none⟩ = false := by simp only [World.frozen?_setCell]; exact g6_2
            have l6 : u2.heap.size < (((v33.setCell ⟨v31.heap.size, 0, none⟩ (.int .i64 y0)).setCell ⟨v31.heap.size, 1, none⟩ (.int .i64 y1)).setCell ⟨v31.heap.size, 2, none⟩ (.bool y2)).heap.size := by simpa using l6
            have g7_0 : (((v33.setCell ⟨v31.heap.size, 0, none⟩ (.int .i64 y0)).setCell ⟨v31.heap.size, 1, none⟩ (.int .i64 y1)).setCell ⟨v31.heap.size, 2, none⟩ (.bool y2)).frozen? ⟨v31.heap.size, 0, none⟩ = false := by simp only [World.frozen?_setCell]; exact g7_0
            have g7_1 : (((v33.setCell ⟨v31.heap.size, 0, none⟩ (.int .i64 y0)).setCell ⟨v31.heap.size, 1, none⟩ (.int .i64 y1)).setCell ⟨v31.heap.size, 2, none⟩ (.bool y2)).frozen? ⟨v31.heap.size, 1, none⟩ = false := by simp only [World.frozen?_setCell]; exact g7_1
            have g7_2 : (((v33.setCell ⟨v31.heap.size, 0, none⟩ (.int .i64 y0)).setCell ⟨v31.heap.size, 1, none⟩ (.int .i64 y1)).setCell ⟨v31.heap.size, 2, none⟩ (.bool y2)).frozen? ⟨v31.heap.size, 2, none⟩ = false := by simp only [World.frozen?_setCell]; exact g7_2
            have l7 : v31.heap.size < (((v33.setCell ⟨v31.heap.size, 0, none⟩ (.int .i64 y0)).setCell ⟨v31.heap.size, 1, none⟩ (.int .i64 y1)).setCell ⟨v31.heap.size, 2, none⟩ (.bool y2)).heap.size := by simpa using l7
            obtain ⟨v34, hv_⟩ : ∃ v_, v_ = (((v33.setCell ⟨v31.heap.size, 0, none⟩ (.int .i64 y0)).setCell ⟨v31.heap.size, 1, none⟩ (.int .i64 y1)).setCell ⟨v31.heap.size, 2, none⟩ (.bool y2)) := ⟨_, rfl⟩
            rw [← hv_] at hB z7_0 z7_1 z7_2 z6_0 g6_0 z6_1 g6_1 z6_2 g6_2 l6 g7_0 g7_1 g7_2 l7 ⊢
            clear hv_
            (try go_wp2_with fail); refine hK.out _ _ (hB) (fun hHeld => ?_); clear hK K; (try simp only [Act.put, List.setIfInBounds_toArray, List.set_cons_zero, List.set_cons_succ])
            refine wpAnyH_done (by kernel_rfl) ?_ _
            (go_wp2_with fail; go_meet)
            exact ⟨_, _, rfl, rfl, z6_2, z7_1, z7_2, hB⟩
          refine AllReadyH.cons (o := ?_) ?_ (fun K hK => ?_) AllReadyH.nil; rotate_left 1; (next => simp only [List.getElem?_toArray, List.getElem?_cons_succ, List.getElem?_cons_zero]; rfl)
          go_simp
          have ge7 : u2.heap.size ≤ v30.heap.size := hB.size
          have ne6_7 : u2.heap.size ≠ v30.heap.size := Nat.ne_of_lt l6
          have hb := bl_alloc (bl_refl v30) (.cells #[.int .i64 0, .int .i64 0, .bool false] 134)
          have z6_0 := keep_cell hb z6_0
          have z6_1 := keep_cell hb z6_1
          have z6_2 := keep_cell hb z6_2
          have g6_0 := (hb.frozen (p := ⟨u2.heap.size, 0, none⟩) l6).trans g6_0
          have g6_1 := (hb.frozen (p := ⟨u2.heap.size, 1, none⟩) l6).trans g6_1
          have g6_2 := (hb.frozen (p := ⟨u2.heap.size, 2, none⟩) l6).trans g6_2
          have l6 := Nat.lt_of_lt_of_le l6 hb.size
          have z7_0 : (v30.alloc (.cells #[.int .i64 0, .int .i64 0, .bool false] 134)).cell? ⟨v30.heap.size, 0, none⟩ = some (.int .i64 0) := by simp [go_sem]
          have z7_1 : (v30.alloc (.cells #[.int .i64 0, .int .i64 0, .bool false] 134)).cell? ⟨v30.heap.size, 1, none⟩ = some (.int .i64 0) := by simp [go_sem]
          have z7_2 : (v30.alloc (.cells #[.int .i64 0, .int .i64 0, .bool false] 134)).cell? ⟨v30.heap.size, 2, none⟩ = some (.bool false) := by simp [go_sem]
          have g7_0 : (v30.alloc (.cells #[.int .i64 0, .int .i64 0, .bool false] 134)).frozen? ⟨v30.heap.size, 0, none⟩ = false := by simp [go_sem]
          have g7_1 : (v30.alloc (.cells #[.int .i64 0, .int .i64 0, .bool false] 134)).frozen? ⟨v30.heap.size, 1, none⟩ = false := by simp [go_sem]
          have g7_2 : (v30.alloc (.cells #[.int .i64 0, .int .i64 0, .bool false] 134)).frozen? ⟨v30.heap.size, 2, none⟩ = false := by simp [go_sem]
          have l7 : v30.heap.size < (v30.alloc (.cells #[.int .i64 0, .int .i64 0, .bool false] 134)).heap.size := by simp
          obtain ⟨v35, hv_⟩ : ∃ v_, v_ = (v30.alloc (.cells #[.int .i64 0, .int .i64 0, .bool false] 134)) := ⟨_, rfl⟩
          rw [← hv_] at hb z6_0 g6_0 z6_1 g6_1 z6_2 g6_2 l6 z7_0 z7_1 z7_2 g7_0 g7_1 g7_2 l7 ⊢
          clear hv_
          have hB : Below u2.heap.size u2 v35 := bl_call hb hB
          clear hb
          (try go_wp2_with fail); refine hK.out _ _ (hB) (fun hHeld => ?_); clear hK K; (try simp only [Act.put, List.setIfInBounds_toArray, List.set_cons_zero, List.set_cons_succ])
          refine wpAnyH_ready (rs := [5]) (by kernel_rfl) (by simp) ?_; refine AllReadyH.cons (o := ?_) ?_ (fun K hK => ?_) AllReadyH.nil; rotate_left 1; (next => simp only [List.getElem?_toArray, List.getElem?_cons_succ, List.getElem?_cons_zero]; rfl); go_simp
          (go_at_call 114; (with_reducible refine (HPB.out _ (bl_call (by repeat' (first | with_reducible assumption | with_reducible refine bl_alloc ?_ _ | with_reducible refine bl_drew ?_)) HBW) _ _ _).mono ?_); rintro e v36 ⟨rfl, hb⟩)
          have hB : Below u2.heap.size u2 v36 := bl_call hb hB
          have z6_0 := keep_cell hb z6_0
          have z6_1 := keep_cell hb z6_1
          have z6_2 := keep_cell hb z6_2
          have g6_0 := (hb.frozen (p := ⟨u2.heap.size, 0, none⟩) l6).trans g6_0
          have g6_1 := (hb.frozen (p := ⟨u2.heap.size, 1, none⟩) l6).trans g6_1
          have g6_2 := (hb.frozen (p := ⟨u2.heap.size, 2, none⟩) l6).trans g6_2
          have l6 := Nat.lt_of_lt_of_le l6 hb.size
          have z7_0 := keep_cell hb z7_0
          have z7_1 := keep_cell hb z7_1
          have z7_2 := keep_cell hb z7_2
          have g7_0 := (hb.frozen (p := ⟨v30.heap.size, 0, none⟩) l7).trans g7_0
          have g7_1 := (hb.frozen (p := ⟨v30.heap.size, 1, none⟩) l7).trans g7_1
          have g7_2 := (hb.frozen (p := ⟨v30.heap.size, 2, none⟩) l7).trans g7_2
          have l7 := Nat.lt_of_lt_of_le l7 hb.size
          clear hb
          (try go_wp2_with fail); refine hK.out _ _ (hB) (fun hHeld => ?_); clear hK K; (try simp only [Act.put, List.setIfInBounds_toArray, List.set_cons_zero, List.set_cons_succ])
          refine wpAnyH_ready (rs := [8]) (by kernel_rfl) (by simp) ?_; refine AllReadyH.cons (o := ?_) ?_ (fun K hK => ?_) AllReadyH.nil; rotate_left 1; (next => simp only [List.getElem?_toArray, List.getElem?_cons_succ, List.getElem?_cons_zero]; rfl); go_simp
          have hB : Below u2.heap.size u2 (((v36.setCell ⟨u2.heap.size, 0, none⟩ (.int .i64 x0)).setCell ⟨u2.heap.size, 1, none⟩ (.int .i64 x1)).setCell ⟨u2.heap.size, 2, none⟩ (.bool x2)) := bl_set (bl_set (bl_set hB ge6 _) ge6 _) ge6 _
          have y_0 : (((v36.setCell ⟨u2.heap.size, 0, none⟩ (.int .i64 x0)).setCell ⟨u2.heap.size, 1, none⟩ (.int .i64 x1)).setCell ⟨u2.heap.size, 2, none⟩ (.bool x2)).cell? ⟨u2.heap.size, 0, none⟩ = some (.int .i64 x0) := by simp [go_sem, z6_0, z6_1, z6_2]
          have y_1 : (((v36.setCell ⟨u2.heap.size, 0, none⟩ (.int .i64 x0)).setCell ⟨u2.heap.size, 1, none⟩ (.int .i64 x1)).setCell ⟨u2.heap.size, 2, none⟩ (.bool x2)).cell? ⟨u2.heap.size, 1, none⟩ = some (.int .i64 x1) := by simp [go_sem, z6_0, z6_1, z6_2]
          have y_2 : (((v36.setCell ⟨u2.heap.size, 0, none⟩ (.int .i64 x0)).setCell ⟨u2.heap.size, 1, none⟩ (.int .i64 x1)).setCell ⟨u2.heap.size, 2, none⟩ (.bool x2)).cell? ⟨u2.heap.size, 2, none⟩ = some (.bool x2) := by simp [go_sem, z6_0, z6_1, z6_2]
          have z6_0 := y_0
          have z6_1 := y_1
          have z6_2 := y_2
          clear y_0 y_1 y_2
          have g6_0 : (((v36.setCell ⟨u2.heap.size, 0, none⟩ (.int .i64 x0)).setCell ⟨u2.heap.size, 1, none⟩ (.int .i64 x1)).setCell ⟨u2.heap.size, 2, none⟩ (.bool x2)).frozen? ⟨u2.heap.size, 0, none⟩ = false := by simp only [World.frozen?_setCell]; exact g6_0
          have g6_1 : (((v36.setCell ⟨u2.heap.size, 0, none⟩ (.int .i64 x0)).setCell ⟨u2.heap.size, 1, none⟩ (.int .i64 x1)).setCell ⟨u2.heap.size, 2, none⟩ (.bool x2)).frozen? ⟨u2.heap.size, 1, none⟩ = false := by simp only [World.frozen?_setCell]; exact g6_1
          have g6_2 : (((v36.setCell ⟨u2.heap.size, 0, none⟩ (.int .i64 x0)).setCell ⟨u2.heap.size, 1, none⟩ (.int .i64 x1)).setCell ⟨u2.heap.size, 2, none⟩ (.bool x2)).frozen? ⟨u2.heap.size, 2, none⟩ = false := by simp only [World.frozen?_setCell]; exact g6_2
          have l6 : u2.heap.size < (((v36.setCell ⟨u2.heap.size, 0, none⟩ (.int .i64 x0)).setCell ⟨u2.heap.size, 1, none⟩ (.int .i64 x1)).setCell ⟨u2.heap.size, 2, none⟩ (.bool x2)).heap.size := by simpa using l6
          have z7_0 := keep_far3 (x := .int .i64 x0) (y := .int .i64 x1) (z := .bool x2) z7_0 ne6_7.symm
          have g7_0 : (((v36.setCell ⟨u2.heap.size, 0, none⟩ (.int .i64 x0)).setCell ⟨u2.heap.size, 1, none⟩ (.int .i64 x1)).setCell ⟨u2.heap.size, 2, none⟩ (.bool x2)).frozen? ⟨v30.heap.size, 0, none⟩ = false := by simp only [World.frozen?_setCell]; exact g7_0
          have z7_1 := keep_far3 (x := .int .i64 x0) (y := .int .i64 x1) (z := .bool x2) z7_1 ne6_7.symm
          have g7_1 : (((v36.setCell ⟨u2.heap.size, 0, none⟩ (.int .i64 x0)).setCell ⟨u2.heap.size, 1, none⟩ (.int .i64 x1)).setCell ⟨u2.heap.size, 2, none⟩ (.bool x2)).frozen? ⟨v30.heap.size, 1, none⟩ = false := by simp only [World.frozen?_setCell]; exact g7_1
          have z7_2 := keep_far3 (x := .int .i64 x0) (y := .int .i64 x1) (z := .bool x2) z7_2 ne6_7.symm
          have g7_2 : (((v36.setCell ⟨u2.heap.size, 0, none⟩ (.int .i64 x0)).setCell ⟨u2.heap.size, 1, none⟩ (.int .i64 x1)).setCell ⟨u2.heap.size, 2, none⟩ (.bool x2)).frozen? ⟨v30.heap.size, 2, none⟩ = false := by simp only [World.frozen?_setCell]; exact g7_2
          have l7 : v30.heap.size < (((v36.setCell ⟨u2.heap.size, 0, none⟩ (.int .i64 x0)).setCell ⟨u2.heap.size, 1, none⟩ (.int .i64 x1)).setCell ⟨u2.heap.size, 2, none⟩ (.bool x2)).heap.size := by simpa using l7
          obtain ⟨v37, hv_⟩ : ∃ v_, v_ = (((v36.setCell ⟨u2.heap.size, 0, none⟩ (.int .i64 x0)).setCell ⟨u2.heap.size, 1, none⟩ (.int .i64 x1)).setCell ⟨u2.heap.size, 2, none⟩ (.bool x2)) := ⟨_, rfl⟩
          rw [← hv_] at hB z6_0 z6_1 z6_2 g6_0 g6_1 g6_2 l6 z7_0 g7_0 z7_1 g7_1 z7_2 g7_2 l7 ⊢
          clear hv_
          (try go_wp2_with fail); refine hK.out _ _ (hB) (fun hHeld => ?_); clear hK K; (try simp only [Act.put, List.setIfInBounds_toArray, List.set_cons_zero, List.set_cons_succ])
          refine wpAnyH_ready (rs := [9]) (by kernel_rfl) (by simp) ?_; refine AllReadyH.cons (o := ?_) ?_ (fun K hK => ?_) AllReadyH.nil; rotate_left 1; (next => simp only [List.getElem?_toArray, List.getElem?_cons_succ, List.getElem?_cons_zero]; rfl); go_simp
          have hB : Below u2.heap.size u2 (((v37.setCell ⟨v30.heap.size, 0, none⟩ (.int .i64 y0)).setCell ⟨v30.heap.size, 1, none⟩ (.int .i64 y1)).setCell ⟨v30.heap.size, 2, none⟩ (.bool y2)) := bl_set (bl_set (bl_set hB ge7 _) ge7 _) ge7 _
          have y_0 : (((v37.setCell ⟨v30.heap.size, 0, none⟩ (.int .i64 y0)).setCell ⟨v30.heap.size, 1, none⟩ (.int .i64 y1)).setCell ⟨v30.heap.size, 2, none⟩ (.bool y2)).cell? ⟨v30.heap.size, 0, none⟩ = some (.int .i64 y0) := by simp [go_sem, z7_0, z7_1, z7_2]
          have y_1 : (((v37.setCell ⟨v30.heap.size, 0, none⟩ (.int .i64 y0)).setCell ⟨v30.heap.size, 1, none⟩ (.int .i64 y1)).setCell ⟨v30.heap.size, 2, none⟩ (.bool y2)).cell? ⟨v30.heap.size, 1, none⟩ = some (.int .i64 y1) := by simp [go_sem, z7_0, z7_1, z7_2]
          have y_2 : (((v37.setCell ⟨v30.heap.size, 0, none⟩ (.int .i64 y0)).setCell ⟨v30.heap.size, 1, none⟩ (.int .i64 y1)).setCell ⟨v30.heap.size, 2, none⟩ (.bool y2)).cell? ⟨v30.heap.size, 2, none⟩ = some (.bool y2) := by simp [go_sem, z7_0, z7_1, z7_2]
          have z7_0 := y_0
          have z7_1 := y_1
          have z7_2 := y_2
          clear y_0 y_1 y_2
          have z6_0 := keep_far3 (x := .int .i64 y0) (y := .int .i64 y1) (z := .bool y2) z6_0 ne6_7
          have g6_0 : (((v37.setCell ⟨v30.heap.size, 0, none⟩ (.int .i64 y0)).setCell ⟨v30.heap.size, 1, none⟩ (.int .i64 y1)).setCell ⟨v30.heap.size, 2, none⟩ (.bool y2)).frozen? ⟨u2.heap.size, 0, none⟩ = false := by simp only [World.frozen?_setCell]; exact g6_0
          have z6_1 := keep_far3 (x := .int .i64 y0) (y := .int .i64 y1) (z := .bool y2) z6_1 ne6_7
          have g6_1 : (((v37.setCell ⟨v30.heap.size, 0, none⟩ (.int .i64 y0)).setCell ⟨v30.heap.size, 1, none⟩ (.int .i64 y1)).setCell ⟨v30.heap.size, 2, none⟩ (.bool y2)).frozen? ⟨u2.heap.size, 1, none⟩ = false := by simp only [World.frozen?_setCell]; exact g6_1
          have z6_2 := keep_far3 (x := .int .i64 y0) (y := .int .i64 y1) (z := .bool y2) z6_2 ne6_7
          have g6_2 : (((v37.setCell ⟨v30.heap.size, 0, none⟩ (.int .i64 y0)).setCell ⟨v30.heap.size, 1, none⟩ (.int .i64 y1)).setCell ⟨v30.heap.size, 2, none⟩ (.bool y2)).frozen? ⟨u2.heap.size, 2, none⟩ = false := by simp only [World.frozen?_setCell]; exact g6_2
          have l6 : u2.heap.size < (((v37.setCell ⟨v30.heap.size, 0, none⟩ (.int .i64 y0)).setCell ⟨v30.heap.size, 1, none⟩ (.int .i64 y1)).setCell ⟨v30.heap.size, 2, none⟩ (.bool y2)).heap.size := by simpa using l6
          have g7_0 : (((v37.setCell ⟨v30.heap.size, 0, none⟩ (.int .i64 y0)).setCell ⟨v30.heap.size, 1, none⟩ (.int .i64 y1)).setCell ⟨v30.heap.size, 2, none⟩ (.bool y2)).frozen? ⟨v30.heap.size, 0, none⟩ = false := by simp only [World.frozen?_setCell]; exact g7_0
          have g7_1 : (((v37.setCell ⟨v30.heap.size, 0, none⟩ (.int .i64 y0)).setCell ⟨v30.heap.size, 1, none⟩ (.int .i64 y1)).setCell ⟨v30.heap.size, 2, none⟩ (.bool y2)).frozen? ⟨v30.heap.size, 1, none⟩ = false := by simp only [World.frozen?_setCell]; exact g7_1
          have g7_2 : (((v37.setCell ⟨v30.heap.size, 0, none⟩ (.int .i64 y0)).setCell ⟨v30.heap.size, 1, none⟩ (.int .i64 y1)).setCell ⟨v30.heap.size, 2, none⟩ (.bool y2)).frozen? ⟨v30.heap.size, 2, none⟩ = false := by simp only [World.frozen?_setCell]; exact g7_2
          have l7 : v30.heap.size < (((v37.setCell ⟨v30.heap.size, 0, none⟩ (.int .i64 y0)).setCell ⟨v30.heap.size, 1, none⟩ (.int .i64 y1)).setCell ⟨v30.heap.size, 2, none⟩ (.bool y2)).heap.size := by simpa using l7
          obtain ⟨v38, hv_⟩ : ∃ v_, v_ = (((v37.setCell ⟨v30.heap.size, 0, none⟩ (.int .i64 y0)).setCell ⟨v30.heap.size, 1, none⟩ (.int .i64 y1)).setCell ⟨v30.heap.size, 2, none⟩ (.bool y2)) := ⟨_, rfl⟩
          rw [← hv_] at hB z7_0 z7_1 z7_2 z6_0 g6_0 z6_1 g6_1 z6_2 g6_2 l6 g7_0 g7_1 g7_2 l7 ⊢
          clear hv_
          (try go_wp2_with fail); refine hK.out _ _ (hB) (fun hHeld => ?_); clear hK K; (try simp only [Act.put, List.setIfInBounds_toArray, List.set_cons_zero, List.set_cons_succ])
          refine wpAnyH_done (by kernel_rfl) ?_ _
          (go_wp2_with fail; go_meet)
          exact ⟨_, _, rfl, rfl, z6_2, z7_1, z7_2, hB⟩
        refine AllReadyH.cons (o := ?_) ?_ (fun K hK => ?_) AllReadyH.nil; rotate_left 1; (next => simp only [List.getElem?_toArray, List.getElem?_cons_succ, List.getElem?_cons_zero]; rfl)
        go_simp
        have ge7 : u2.heap.size ≤ v29.heap.size := hB.size
        have ne6_7 : u2.heap.size ≠ v29.heap.size := Nat.ne_of_lt l6
        have hb := bl_alloc (bl_refl v29) (.cells #[.int .i64 0, .int .i64 0, .bool false] 134)
        have z6_0 := keep_cell hb z6_0
        have z6_1 := keep_cell hb z6_1
        have z6_2 := keep_cell hb z6_2
        have g6_0 := (hb.frozen (p := ⟨u2.heap.size, 0, none⟩) l6).trans g6_0
        have g6_1 := (hb.frozen (p := ⟨u2.heap.size, 1, none⟩) l6).trans g6_1
        have g6_2 := (hb.frozen (p := ⟨u2.heap.size, 2, none⟩) l6).trans g6_2
        have l6 := Nat.lt_of_lt_of_le l6 hb.size
        have z7_0 : (v29.alloc (.cells #[.int .i64 0, .int .i64 0, .bool false] 134)).cell? ⟨v29.heap.size, 0, none⟩ = some (.int .i64 0) := by simp [go_sem]
        have z7_1 : (v29.alloc (.cells #[.int .i64 0, .int .i64 0, .bool false] 134)).cell? ⟨v29.heap.size, 1, none⟩ = some (.int .i64 0) := by simp [go_sem]
        have z7_2 : (v29.alloc (.cells #[.int .i64 0, .int .i64 0, .bool false] 134)).cell? ⟨v29.heap.size, 2, none⟩ = some (.bool false) := by simp [go_sem]
        have g7_0 : (v29.alloc (.cells #[.int .i64 0, .int .i64 0, .bool false] 134)).frozen? ⟨v29.heap.size, 0, none⟩ = false := by simp [go_sem]
        have g7_1 : (v29.alloc (.cells #[.int .i64 0, .int .i64 0, .bool false] 134)).frozen? ⟨v29.heap.size, 1, none⟩ = false := by simp [go_sem]
        have g7_2 : (v29.alloc (.cells #[.int .i64 0, .int .i64 0, .bool false] 134)).frozen? ⟨v29.heap.size, 2, none⟩ = false := by simp [go_sem]
        have l7 : v29.heap.size < (v29.alloc (.cells #[.int .i64 0, .int .i64 0, .bool false] 134)).heap.size := by simp
        obtain ⟨v39, hv_⟩ : ∃ v_, v_ = (v29.alloc (.cells #[.int .i64 0, .int .i64 0, .bool false] 134)) := ⟨_, rfl⟩
        rw [← hv_] at hb z6_0 g6_0 z6_1 g6_1 z6_2 g6_2 l6 z7_0 z7_1 z7_2 g7_0 g7_1 g7_2 l7 ⊢
        clear hv_
        have hB : Below u2.heap.size u2 v39 := bl_call hb hB
        clear hb
        (try go_wp2_with fail); refine hK.out _ _ (hB) (fun hHeld => ?_); clear hK K; (try simp only [Act.put, List.setIfInBounds_toArray, List.set_cons_zero, List.set_cons_succ])
        refine wpAnyH_ready (rs := [2]) (by kernel_rfl) (by simp) ?_; refine AllReadyH.cons (o := ?_) ?_ (fun K hK => ?_) AllReadyH.nil; rotate_left 1; (next => simp only [List.getElem?_toArray, List.getElem?_cons_succ, List.getElem?_cons_zero]; rfl); go_simp
        (go_at_call 114; (with_reducible refine (HPA.out _ (bl_call (by repeat' (first | with_reducible assumption | with_reducible refine bl_alloc ?_ _ | with_reducible refine bl_drew ?_)) HBW) _ _ _).mono ?_); rintro e v40 ⟨rfl, hb⟩)
        have hB : Below u2.heap.size u2 v40 := bl_call hb hB
        have z6_0 := keep_cell hb z6_0
        have z6_1 := keep_cell hb z6_1
        have z6_2 := keep_cell hb z6_2
        have g6_0 := (hb.frozen (p := ⟨u2.heap.size, 0, none⟩) l6).trans g6_0
        have g6_1 := (hb.frozen (p := ⟨u2.heap.size, 1, none⟩) l6).trans g6_1
        have g6_2 := (hb.frozen (p := ⟨u2.heap.size, 2, none⟩) l6).trans g6_2
        have l6 := Nat.lt_of_lt_of_le l6 hb.size
        have z7_0 := keep_cell hb z7_0
        have z7_1 := keep_cell hb z7_1
        have z7_2 := keep_cell hb z7_2
        have g7_0 := (hb.frozen (p := ⟨v29.heap.size, 0, none⟩) l7).trans g7_0
        have g7_1 := (hb.frozen (p := ⟨v29.heap.size, 1, none⟩) l7).trans g7_1
        have g7_2 := (hb.frozen (p := ⟨v29.heap.size, 2, none⟩) l7).trans g7_2
        have l7 := Nat.lt_of_lt_of_le l7 hb.size
        clear hb
        (try go_wp2_with fail); refine hK.out _ _ (hB) (fun hHeld => ?_); clear hK K; (try simp only [Act.put, List.setIfInBounds_toArray, List.set_cons_zero, List.set_cons_succ])
        refine wpAnyH_ready (rs := [5]) (by kernel_rfl) (by simp) ?_; refine AllReadyH.cons (o := ?_) ?_ (fun K hK => ?_) AllReadyH.nil; rotate_left 1; (next => simp only [List.getElem?_toArray, List.getElem?_cons_succ, List.getElem?_cons_zero]; rfl); go_simp
        (go_at_call 114; (with_reducible refine (HPB.out _ (bl_call (by repeat' (first | with_reducible assumption | with_reducible refine bl_alloc ?_ _ | with_reducible refine bl_drew ?_)) HBW) _ _ _).mono ?_); rintro e v41 ⟨rfl, hb⟩)
        have hB : Below u2.heap.size u2 v41 := bl_call hb hB
        have z6_0 := keep_cell hb z6_0
        have z6_1 := keep_cell hb z6_1
        have z6_2 := keep_cell hb z6_2
        have g6_0 := (hb.frozen (p := ⟨u2.heap.size, 0, none⟩) l6).trans g6_0
        have g6_1 := (hb.frozen (p := ⟨u2.heap.size, 1, none⟩) l6).trans g6_1
        have g6_2 := (hb.frozen (p := ⟨u2.heap.size, 2, none⟩) l6).trans g6_2
        have l6 := Nat.lt_of_lt_of_le l6 hb.size
        have z7_0 := keep_cell hb z7_0
        have z7_1 := keep_cell hb z7_1
        have z7_2 := keep_cell hb z7_2
        have g7_0 := (hb.frozen (p := ⟨v29.heap.size, 0, none⟩) l7).trans g7_0
        have g7_1 := (hb.frozen (p := ⟨v29.heap.size, 1, none⟩) l7).trans g7_1
        have g7_2 := (hb.frozen (p := ⟨v29.heap.size, 2, none⟩) l7).trans g7_2
        have l7 := Nat.lt_of_lt_of_le l7 hb.size
        clear hb
        (try go_wp2_with fail); refine hK.out _ _ (hB) (fun hHeld => ?_); clear hK K; (try simp only [Act.put, List.setIfInBounds_toArray, List.set_cons_zero, List.set_cons_succ])
        refine wpAnyH_ready (rs := [8]) (by kernel_rfl) (by simp) ?_; refine AllReadyH.cons (o := ?_) ?_ (fun K hK => ?_) AllReadyH.nil; rotate_left 1; (next => simp only [List.getElem?_toArray, List.getElem?_cons_succ, List.getElem?_cons_zero]; rfl); go_simp
        have hB : Below u2.heap.size u2 (((v41.setCell ⟨u2.heap.size, 0, none⟩ (.int .i64 x0)).setCell ⟨u2.heap.size, 1, none⟩ (.int .i64 x1)).setCell ⟨u2.heap.size, 2, none⟩ (.bool x2)) := bl_set (bl_set (bl_set hB ge6 _) ge6 _) ge6 _
        have y_0 : (((v41.setCell ⟨u2.heap.size, 0, none⟩ (.int .i64 x0)).setCell ⟨u2.heap.size, 1, none⟩ (.int .i64 x1)).setCell ⟨u2.heap.size, 2, none⟩ (.bool x2)).cell? ⟨u2.heap.size, 0, none⟩ = some (.int .i64 x0) := by simp [go_sem, z6_0, z6_1, z6_2]
        have y_1 : (((v41.setCell ⟨u2.heap.size, 0, none⟩ (.int .i64 x0)).setCell ⟨u2.heap.size, 1, none⟩ (.int .i64 x1)).setCell ⟨u2.heap.size, 2, none⟩ (.bool x2)).cell? ⟨u2.heap.size, 1, none⟩ = some (.int .i64 x1) := by simp [go_sem, z6_0, z6_1, z6_2]
        have y_2 : (((v41.setCell ⟨u2.heap.size, 0, none⟩ (.int .i64 x0)).setCell ⟨u2.heap.size, 1, none⟩ (.int .i64 x1)).setCell ⟨u2.heap.size, 2, none⟩ (.bool x2)).cell? ⟨u2.heap.size, 2, none⟩ = some (.bool x2) := by simp [go_sem, z6_0, z6_1, z6_2]
        have z6_0 := y_0
        have z6_1 := y_1
        have z6_2 := y_2
        clear y_0 y_1 y_2
        have g6_0 : (((v41.setCell ⟨u2.heap.size, 0, none⟩ (.int .i64 x0)).setCell ⟨u2.heap.size, 1, none⟩ (.int .i64 x1)).setCell ⟨u2.heap.size, 2, none⟩ (.bool x2)).frozen? ⟨u2.heap.size, 0, none⟩ = false := by simp only [World.frozen?_setCell]; exact g6_0
        have g6_1 : (((v41.setCell ⟨u2.heap.size, 0, none⟩ (.int .i64 x0)).setCell ⟨u2.heap.size, 1, none⟩ (.int .i64 x1)).setCell ⟨u2.heap.size, 2, none⟩ (.bool x2)).frozen? ⟨u2.heap.size, 1, none⟩ = false := by simp only [World.frozen?_setCell]; exact g6_1
        have g6_2 : (((v41.setCell ⟨u2.heap.size, 0, none⟩ (.int .i64 x0)).setCell ⟨u2.heap.size, 1, none⟩ (.int .i64 x1)).setCell ⟨u2.heap.size, 2, none⟩ (.bool x2)).frozen? ⟨u2.heap.size, 2, none⟩ = false := by simp only [World.frozen?_setCell]; exact g6_2
        have l6 : u2.heap.size < (((v41.setCell ⟨u2.heap.size, 0, none⟩ (.int .i64 x0)).setCell ⟨u2.heap.size, 1, none⟩ (.int .i64 x1)).setCell ⟨u2.heap.size, 2, none⟩ (.bool x2)).heap.size := by simpa using l6
        have z7_0 := keep_far3 (x := .int .i64 x0) (y := .int .i64 x1) (z := .bool x2) z7_0 ne6_7.symm
        have g7_0 : (((v41.setCell ⟨u2.heap.size, 0, none⟩ (.int .i64 x0)).setCell ⟨u2.heap.size, 1, none⟩ (.int .i64 x1)).setCell ⟨u2.heap.size, 2, none⟩ (.bool x2)).frozen? ⟨v29.heap.size, 0, none⟩ = false := by simp only [World.frozen?_setCell]; exact g7_0
        have z7_1 := keep_far3 (x := .int .i64 x0) (y := .int .i64 x1) (z := .bool x2) z7_1 ne6_7.symm
        have g7_1 : (((v41.setCell ⟨u2.heap.size, 0, none⟩ (.int .i64 x0)).setCell ⟨u2.heap.size, 1, none⟩ (.int .i64 x1)).setCell ⟨u2.heap.size, 2, none⟩ (.bool x2)).frozen? ⟨v29.heap.size, 1, none⟩ = false := by simp only [World.frozen?_setCell]; exact g7_1
        have z7_2 := keep_far3 (x := .int .i64 x0) (y := .int .i64 x1) (z := .bool x2) z7_2 ne6_7.symm
        have g7_2 : (((v41.setCell ⟨u2.heap.size, 0, none⟩ (.int .i64 x0)).setCell ⟨u2.heap.size, 1, none⟩ (.int .i64 x1)).setCell ⟨u2.heap.size, 2, none⟩ (.bool x2)).frozen? ⟨v29.heap.size, 2, none⟩ = false := by simp only [World.frozen?_setCell]; exact g7_2
        have l7 : v29.heap.size < (((v41.setCell ⟨u2.heap.size, 0, none⟩ (.int .i64 x0)).setCell ⟨u2.heap.size, 1, none⟩ (.int .i64 x1)).setCell ⟨u2.heap.size, 2, none⟩ (.bool x2)).heap.size := by simpa using l7
        obtain ⟨v42, hv_⟩ : ∃ v_, v_ = (((v41.setCell ⟨u2.heap.size, 0, none⟩ (.int .i64 x0)).setCell ⟨u2.heap.size, 1, none⟩ (.int .i64 x1)).setCell ⟨u2.heap.size, 2, none⟩ (.bool x2)) := ⟨_, rfl⟩
        rw [← hv_] at hB z6_0 z6_1 z6_2 g6_0 g6_1 g6_2 l6 z7_0 g7_0 z7_1 g7_1 z7_2 g7_2 l7 ⊢
        clear hv_
        (try go_wp2_with fail); refine hK.out _ _ (hB) (fun hHeld => ?_); clear hK K; (try simp only [Act.put, List.setIfInBounds_toArray, List.set_cons_zero, List.set_cons_succ])
        refine wpAnyH_ready (rs := [9]) (by kernel_rfl) (by simp) ?_; refine AllReadyH.cons (o := ?_) ?_ (fun K hK => ?_) AllReadyH.nil; rotate_left 1; (next => simp only [List.getElem?_toArray, List.getElem?_cons_succ, List.getElem?_cons_zero]; rfl); go_simp
        have hB : Below u2.heap.size u2 (((v42.setCell ⟨v29.heap.size, 0, none⟩ (.int .i64 y0)).setCell ⟨v29.heap.size, 1, none⟩ (.int .i64 y1)).setCell ⟨v29.heap.size, 2, none⟩ (.bool y2)) := bl_set (bl_set (bl_set hB ge7 _) ge7 _) ge7 _
        have y_0 : (((v42.setCell ⟨v29.heap.size, 0, none⟩ (.int .i64 y0)).setCell ⟨v29.heap.size, 1, none⟩ (.int .i64 y1)).setCell ⟨v29.heap.size, 2, none⟩ (.bool y2)).cell? ⟨v29.heap.size, 0, none⟩ = some (.int .i64 y0) := by simp [go_sem, z7_0, z7_1, z7_2]
        have y_1 : (((v42.setCell ⟨v29.heap.size, 0, none⟩ (.int .i64 y0)).setCell ⟨v29.heap.size, 1, none⟩ (.int .i64 y1)).setCell ⟨v29.heap.size, 2, none⟩ (.bool y2)).cell? ⟨v29.heap.size, 1, none⟩ = some (.int .i64 y1) := by simp [go_sem, z7_0, z7_1, z7_2]
        have y_2 : (((v42.setCell ⟨v29.heap.size, 0, none⟩ (.int .i64 y0)).setCell ⟨v29.heap.size, 1, none⟩ (.int .i64 y1)).setCell ⟨v29.heap.size, 2, none⟩ (.bool y2)).cell? ⟨v29.heap.size, 2, none⟩ = some (.bool y2) := by simp [go_sem, z7_0, z7_1, z7_2]
        have z7_0 := y_0
        have z7_1 := y_1
        have z7_2 := y_2
        clear y_0 y_1 y_2
        have z6_0 := keep_far3 (x := .int .i64 y0) (y := .int .i64 y1) (z := .bool y2) z6_0 ne6_7
        have g6_0 : (((v42.setCell ⟨v29.heap.size, 0, none⟩ (.int .i64 y0)).setCell ⟨v29.heap.size, 1, none⟩ (.int .i64 y1)).setCell ⟨v29.heap.size, 2, none⟩ (.bool y2)).frozen? ⟨u2.heap.size, 0, none⟩ = false := by simp only [World.frozen?_setCell]; exact g6_0
        have z6_1 := keep_far3 (x := .int .i64 y0) (y := .int .i64 y1) (z := .bool y2) z6_1 ne6_7
        have g6_1 : (((v42.setCell ⟨v29.heap.size, 0, none⟩ (.int .i64 y0)).setCell ⟨v29.heap.size, 1, none⟩ (.int .i64 y1)).setCell ⟨v29.heap.size, 2, none⟩ (.bool y2)).frozen? ⟨u2.heap.size, 1, none⟩ = false := by simp only [World.frozen?_setCell]; exact g6_1
        have z6_2 := keep_far3 (x := .int .i64 y0) (y := .int .i64 y1) (z := .bool y2) z6_2 ne6_7
        have g6_2 : (((v42.setCell ⟨v29.heap.size, 0, none⟩ (.int .i64 y0)).setCell ⟨v29.heap.size, 1, none⟩ (.int .i64 y1)).setCell ⟨v29.heap.size, 2, none⟩ (.bool y2)).frozen? ⟨u2.heap.size, 2, none⟩ = false := by simp only [World.frozen?_setCell]; exact g6_2
        have l6 : u2.heap.size < (((v42.setCell ⟨v29.heap.size, 0, none⟩ (.int .i64 y0)).setCell ⟨v29.heap.size, 1, none⟩ (.int .i64 y1)).setCell ⟨v29.heap.size, 2, none⟩ (.bool y2)).heap.size := by simpa using l6
        have g7_0 : (((v42.setCell ⟨v29.heap.size, 0, none⟩ (.int .i64 y0)).setCell ⟨v29.heap.size, 1, none⟩ (.int .i64 y1)).setCell ⟨v29.heap.size, 2, none⟩ (.bool y2)).frozen? ⟨v29.heap.size, 0, none⟩ = false := by simp only [World.frozen?_setCell]; exact g7_0
        have g7_1 : (((v42.setCell ⟨v29.heap.size, 0, none⟩ (.int .i64 y0)).setCell ⟨v29.heap.size, 1, none⟩ (.int .i64 y1)).setCell ⟨v29.heap.size, 2, none⟩ (.bool y2)).frozen? ⟨v29.heap.size, 1, none⟩ = false := by simp only [World.frozen?_setCell]; exact g7_1
        have g7_2 : (((v42.setCell ⟨v29.heap.size, 0, none⟩ (.int .i64 y0)).setCell ⟨v29.heap.size, 1, none⟩ (.int .i64 y1)).setCell ⟨v29.heap.size, 2, none⟩ (.bool y2)).frozen? ⟨v29.heap.size, 2, none⟩ = false := by simp only [World.frozen?_setCell]; exact g7_2
        have l7 : v29.heap.size < (((v42.setCell ⟨v29.heap.size, 0, none⟩ (.int .i64 y0)).setCell ⟨v29.heap.size, 1, none⟩ (.int .i64 y1)).setCell ⟨v29.heap.size, 2, none⟩ (.bool y2)).heap.size := by simpa using l7
        obtain ⟨v43, hv_⟩ : ∃ v_, v_ = (((v42.setCell ⟨v29.heap.size, 0, none⟩ (.int .i64 y0)).setCell ⟨v29.heap.size, 1, none⟩ (.int .i64 y1)).setCell ⟨v29.heap.size, 2, none⟩ (.bool y2)) := ⟨_, rfl⟩
        rw [← hv_] at hB z7_0 z7_1 z7_2 z6_0 g6_0 z6_1 g6_1 z6_2 g6_2 l6 g7_0 g7_1 g7_2 l7 ⊢
        clear hv_
        (try go_wp2_with fail); refine hK.out _ _ (hB) (fun hHeld => ?_); clear hK K; (try simp only [Act.put, List.setIfInBounds_toArray, List.set_cons_zero, List.set_cons_succ])
        refine wpAnyH_done (by kernel_rfl) ?_ _
        (go_wp2_with fail; go_meet)
        exact ⟨_, _, rfl, rfl, z6_2, z7_1, z7_2, hB⟩
      refine AllReadyH.cons (o := ?_) ?_ (fun K hK => ?_) AllReadyH.nil; rotate_left 1; (next => simp only [List.getElem?_toArray, List.getElem?_cons_succ, List.getElem?_cons_zero]; rfl)
      go_simp
      have ge7 : u2.heap.size ≤ u2.heap.size := Nat.le_refl _
      have hb := bl_drew (bl_alloc (bl_refl u2) (.cells #[.int .i64 0, .int .i64 0, .bool false] 134))
      have z7_0 : (u2.alloc (.cells #[.int .i64 0, .int .i64 0, .bool false] 134)).drew.cell? ⟨u2.heap.size, 0, none⟩ = some (.int .i64 0) := by simp [go_sem]
      have z7_1 : (u2.alloc (.cells #[.int .i64 0, .int .i64 0, .bool false] 134)).drew.cell? ⟨u2.heap.size, 1, none⟩ = some (.int .i64 0) := by simp [go_sem]
      have z7_2 : (u2.alloc (.cells #[.int .i64 0, .int .i64 0, .bool false] 134)).drew.cell? ⟨u2.heap.size, 2, none⟩ = some (.bool false) := by simp [go_sem]
      have g7_0 : (u2.alloc (.cells #[.int .i64 0, .int .i64 0, .bool false] 134)).drew.frozen? ⟨u2.heap.size, 0, none⟩ = false := by simp [go_sem]
      have g7_1 : (u2.alloc (.cells #[.int .i64 0, .int .i64 0, .bool false] 134)).drew.frozen? ⟨u2.heap.size, 1, none⟩ = false := by simp [go_sem]
      have g7_2 : (u2.alloc (.cells #[.int .i64 0, .int .i64 0, .bool false] 134)).drew.frozen? ⟨u2.heap.size, 2, none⟩ = false := by simp [go_sem]
      have l7 : u2.heap.size < (u2.alloc (.cells #[.int .i64 0, .int .i64 0, .bool false] 134)).drew.heap.size := by simp
      obtain ⟨v44, hv_⟩ : ∃ v_, v_ = (u2.alloc (.cells #[.int .i64 0, .int .i64 0, .bool false] 134)).drew := ⟨_, rfl⟩
      rw [← hv_] at hb z7_0 z7_1 z7_2 g7_0 g7_1 g7_2 l7 ⊢
      clear hv_
      have hB : Below u2.heap.size u2 v44 := hb
      clear hb
      (try go_wp2_with fail); refine hK.out _ _ (hB) (fun hHeld => ?_); clear hK K; (try simp only [Act.put, List.setIfInBounds_toArray, List.set_cons_zero, List.set_cons_succ])
      refine wpAnyH_ready (rs := [2, 6]) (by kernel_rfl) (by simp) ?_
      refine AllReadyH.cons (o := ?_) ?_ (fun K hK => ?_) ?_; rotate_left 1; (next => simp only [List.getElem?_toArray, List.getElem?_cons_succ, List.getElem?_cons_zero]; rfl)
      · go_simp
        (go_at_call 114; (with_reducible refine (HPA.out _ (bl_call (by repeat' (first | with_reducible assumption | with_reducible refine bl_alloc ?_ _ | with_reducible refine bl_drew ?_)) HBW) _ _ _).mono ?_); rintro e v45 ⟨rfl, hb⟩)
        have hB : Below u2.heap.size u2 v45 := bl_call hb hB
        have z7_0 := keep_cell hb z7_0
        have z7_1 := keep_cell hb z7_1
        have z7_2 := keep_cell hb z7_2
        have g7_0 := (hb.frozen (p := ⟨u2.heap.size, 0, none⟩) l7).trans g7_0
        have g7_1 := (hb.frozen (p := ⟨u2.heap.size, 1, none⟩) l7).trans g7_1
        have g7_2 := (hb.frozen (p := ⟨u2.heap.size, 2, none⟩) l7).trans g7_2
        have l7 := Nat.lt_of_lt_of_le l7 hb.size
        clear hb
        (try go_wp2_with fail); refine hK.out _ _ (hB) (fun hHeld => ?_); clear hK K; (try simp only [Act.put, List.setIfInBounds_toArray, List.set_cons_zero, List.set_cons_succ])
        refine wpAnyH_ready (rs := [5, 6]) (by kernel_rfl) (by simp) ?_
        refine AllReadyH.cons (o := ?_) ?_ (fun K hK => ?_) ?_; rotate_left 1; (next => simp only [List.getElem?_toArray, List.getElem?_cons_succ, List.getElem?_cons_zero]; rfl)
        · go_simp
          (go_at_call 114; (with_reducible refine (HPB.out _ (bl_call (by repeat' (first | with_reducible assumption | with_reducible refine bl_alloc ?_ _ | with_reducible refine bl_drew ?_)) HBW) _ _ _).mono ?_); rintro e v46 ⟨rfl, hb⟩)
          have hB : Below u2.heap.size u2 v46 := bl_call hb hB
          have z7_0 := keep_cell hb z7_0
          have z7_1 := keep_cell hb z7_1
          have z7_2 := keep_cell hb z7_2
          have g7_0 := (hb.frozen (p := ⟨u2.heap.size, 0, none⟩) l7).trans g7_0
          have g7_1 := (hb.frozen (p := ⟨u2.heap.size, 1, none⟩) l7).trans g7_1
          have g7_2 := (hb.frozen (p := ⟨u2.heap.size, 2, none⟩) l7).trans g7_2
          have l7 := Nat.lt_of_lt_of_le l7 hb.size
          clear hb
          (try go_wp2_with fail); refine hK.out _ _ (hB) (fun hHeld => ?_); clear hK K; (try simp only [Act.put, List.setIfInBounds_toArray, List.set_cons_zero, List.set_cons_succ])
          refine wpAnyH_ready (rs := [6]) (by kernel_rfl) (by simp) ?_; refine AllReadyH.cons (o := ?_) ?_ (fun K hK => ?_) AllReadyH.nil; rotate_left 1; (next => simp only [List.getElem?_toArray, List.getElem?_cons_succ, List.getElem?_cons_zero]; rfl); go_simp
          have ge6 : u2.heap.size ≤ v46.heap.size := hB.size
          have ne7_6 : u2.heap.size ≠ v46.heap.size := Nat.ne_of_lt l7
          have hb := bl_alloc (bl_refl v46) (.cells #[.int .i64 0, .int .i64 0, .bool false] 134)
          have z7_0 := keep_cell hb z7_0
          have z7_1 := keep_cell hb z7_1
          have z7_2 := keep_cell hb z7_2
          have g7_0 := (hb.frozen (p := ⟨u2.heap.size, 0, none⟩) l7).trans g7_0
          have g7_1 := (hb.frozen (p := ⟨u2.heap.size, 1, none⟩) l7).trans g7_1
          have g7_2 := (hb.frozen (p := ⟨u2.heap.size, 2, none⟩) l7).trans g7_2
          have l7 := Nat.lt_of_lt_of_le l7 hb.size
          have z6_0 : (v46.alloc (.cells #[.int .i64 0, .int .i64 0, .bool false] 134)).cell? ⟨v46.heap.size, 0, none⟩ = some (.int .i64 0) := by simp [go_sem]
          have z6_1 : (v46.alloc (.cells #[.int .i64 0, .int .i64 0, .bool false] 134)).cell? ⟨v46.heap.size, 1, none⟩ = some (.int .i64 0) := by simp [go_sem]
          have z6_2 : (v46.alloc (.cells #[.int .i64 0, .int .i64 0, .bool false] 134)).cell? ⟨v46.heap.size, 2, none⟩ = some (.bool false) := by simp [go_sem]
          have g6_0 : (v46.alloc (.cells #[.int .i64 0, .int .i64 0, .bool false] 134)).frozen? ⟨v46.heap.size, 0, none⟩ = false := by simp [go_sem]
          have g6_1 : (v46.alloc (.cells #[.int .i64 0, .int .i64 0, .bool false] 134)).frozen? ⟨v46.heap.size, 1, none⟩ = false := by simp [go_sem]
          have g6_2 : (v46.alloc (.cells #[.int .i64 0, .int .i64 0, .bool false] 134)).frozen? ⟨v46.heap.size, 2, none⟩ = false := by simp [go_sem]
          have l6 : v46.heap.size < (v46.alloc (.cells #[.int .i64 0, .int .i64 0, .bool false] 134)).heap.size := by simp
          obtain ⟨v47, hv_⟩ : ∃ v_, v_ = (v46.alloc (.cells #[.int .i64 0, .int .i64 0, .bool false] 134)) := ⟨_, rfl⟩
          rw [← hv_] at hb z7_0 g7_0 z7_1 g7_1 z7_2 g7_2 l7 z6_0 z6_1 z6_2 g6_0 g6_1 g6_2 l6 ⊢
          clear hv_
          have hB : Below u2.heap.size u2 v47 := bl_call hb hB
          clear hb
          (try go_wp2_with fail); refine hK.out _ _ (hB) (fun hHeld => ?_); clear hK K; (try simp only [Act.put, List.setIfInBounds_toArray, List.set_cons_zero, List.set_cons_succ])
          refine wpAnyH_ready (rs := [8]) (by kernel_rfl) (by simp) ?_; refine AllReadyH.cons (o := ?_) ?_ (fun K hK => ?_) AllReadyH.nil; rotate_left 1; (next => simp only [List.getElem?_toArray, List.getElem?_cons_succ, List.getElem?_cons_zero]; rfl); go_simp
          have hB : Below u2.heap.size u2 (((v47.setCell ⟨v46.heap.size, 0, none⟩ (.int .i64 x0)).setCell ⟨v46.heap.size, 1, none⟩ (.int .i64 x1)).setCell ⟨v46.heap.size, 2, none⟩ (.bool x2)) := bl_set (bl_set (bl_set hB ge6 _) ge6 _) ge6 _
          have y_0 : (((v47.setCell ⟨v46.heap.size, 0, none⟩ (.int .i64 x0)).setCell ⟨v46.heap.size, 1, none⟩ (.int .i64 x1)).setCell ⟨v46.heap.size, 2, none⟩ (.bool x2)).cell? ⟨v46.heap.size, 0, none⟩ = some (.int .i64 x0) := by simp [go_sem, z6_0, z6_1, z6_2]
          have y_1 : (((v47.setCell ⟨v46.heap.size, 0, none⟩ (.int .i64 x0)).setCell ⟨v46.heap.size, 1, none⟩ (.int .i64 x1)).setCell ⟨v46.heap.size, 2, none⟩ (.bool x2)).cell? ⟨v46.heap.size, 1, none⟩ = some (.int .i64 x1) := by simp [go_sem, z6_0, z6_1, z6_2]
          have y_2 : (((v47.setCell ⟨v46.heap.size, 0, none⟩ (.int .i64 x0)).setCell ⟨v46.heap.size, 1, none⟩ (.int .i64 x1)).setCell ⟨v46.heap.size, 2, none⟩ (.bool x2)).cell? ⟨v46.heap.size, 2, none⟩ = some (.bool x2) := by simp [go_sem, z6_0, z6_1, z6_2]
          have z6_0 := y_0
          have z6_1 := y_1
          have z6_2 := y_2
          clear y_0 y_1 y_2
          have z7_0 := keep_far3 (x := .int .i64 x0) (y := .int .i64 x1) (z := .bool x2) z7_0 ne7_6
          have g7_0 : (((v47.setCell ⟨v46.heap.size, 0, none⟩ (.int .i64 x0)).setCell ⟨v46.heap.size, 1, none⟩ (.int .i64 x1)).setCell ⟨v46.heap.size, 2, none⟩ (.bool x2)).frozen? ⟨u2.heap.size, 0, none⟩ = false := by simp only [World.frozen?_setCell]; exact g7_0
          have z7_1 := keep_far3 (x := .int .i64 x0) (y := .int .i64 x1) (z := .bool x2) z7_1 ne7_6
          have g7_1 : (((v47.setCell ⟨v46.heap.size, 0, none⟩ (.int .i64 x0)).setCell ⟨v46.heap.size, 1, none⟩ (.int .i64 x1)).setCell ⟨v46.heap.size, 2, none⟩ (.bool x2)).frozen? ⟨u2.heap.size, 1, none⟩ = false := by simp only [World.frozen?_setCell]; exact g7_1
          have z7_2 := keep_far3 (x := .int .i64 x0) (y := .int .i64 x1) (z := .bool x2) z7_2 ne7_6
          have g7_2 : (((v47.setCell ⟨v46.heap.size, 0, none⟩ (.int .i64 x0)).setCell ⟨v46.heap.size, 1, none⟩ (.int .i64 x1)).setCell ⟨v46.heap.size, 2, none⟩ (.bool x2)).frozen? ⟨u2.heap.size, 2, none⟩ = false := by simp only [World.frozen?_setCell]; exact g7_2
          have l7 : u2.heap.size < (((v47.setCell ⟨v46.heap.size, 0, none⟩ (.int .i64 x0)).setCell ⟨v46.heap.size, 1, none⟩ (.int .i64 x1)).setCell ⟨v46.heap.size, 2, none⟩ (.bool x2)).heap.size := by simpa using l7
          have g6_0 : (((v47.setCell ⟨v46.heap.size, 0, none⟩ (.int .i64 x0)).setCell ⟨v46.heap.size, 1, none⟩ (.int .i64 x1)).setCell ⟨v46.heap.size, 2, none⟩ (.bool x2)).frozen? ⟨v46.heap.size, 0, none⟩ = false := by simp only [World.frozen?_setCell]; exact g6_0
          have g6_1 : (((v47.setCell ⟨v46.heap.size, 0, none⟩ (.int .i64 x0)).setCell ⟨v46.heap.size, 1, none⟩ (.int .i64 x1)).setCell ⟨v46.heap.size, 2, none⟩ (.bool x2)).frozen? ⟨v46.heap.size, 1, none⟩ = false := by simp only [World.frozen?_setCell]; exact g6_1
          have g6_2 : (((v47.setCell ⟨v46.heap.size, 0, none⟩ (.int .i64 x0)).setCell ⟨v46.heap.size, 1, none⟩ (.int .i64 x1)).setCell ⟨v46.heap.size, 2, none⟩ (.bool x2)).frozen? ⟨v46.heap.size, 2, none⟩ = false := by simp only [World.frozen?_setCell]; exact g6_2
          have l6 : v46.heap.size < (((v47.setCell ⟨v46.heap.size, 0, none⟩ (.int .i64 x0)).setCell ⟨v46.heap.size, 1, none⟩ (.int .i64 x1)).setCell ⟨v46.heap.size, 2, none⟩ (.bool x2)).heap.size := by simpa using l6
          obtain ⟨v48, hv_⟩ : ∃ v_, v_ = (((v47.setCell ⟨v46.heap.size, 0, none⟩ (.int .i64 x0)).setCell ⟨v46.heap.size, 1, none⟩ (.int .i64 x1)).setCell ⟨v46.heap.size, 2, none⟩ (.bool x2)) := ⟨_, rfl⟩
          rw [← hv_] at hB z6_0 z6_1 z6_2 z7_0 g7_0 z7_1 g7_1 z7_2 g7_2 l7 g6_0 g6_1 g6_2 l6 ⊢
          clear hv_
          (try go_wp2_with fail); refine hK.out _ _ (hB) (fun hHeld => ?_); clear hK K; (try simp only [Act.put, List.setIfInBounds_toArray, List.set_cons_zero, List.set_cons_succ])
          refine wpAnyH_ready (rs := [9]) (by kernel_rfl) (by simp) ?_; refine AllReadyH.cons (o := ?_) ?_ (fun K hK => ?_) AllReadyH.nil; rotate_left 1; (next => simp only [List.getElem?_toArray, List.getElem?_cons_succ, List.getElem?_cons_zero]; rfl); go_simp
          have hB : Below u2.heap.size u2 (((v48.setCell ⟨u2.heap.size, 0, none⟩ (.int .i64 y0)).setCell ⟨u2.heap.size, 1, none⟩ (.int .i64 y1)).setCell ⟨u2.heap.size, 2, none⟩ (.bool y2)) := bl_set (bl_set (bl_set hB ge7 _) ge7 _) ge7 _
          have y_0 : (((v48.setCell ⟨u2.heap.size, 0, none⟩ (.int .i64 y0)).setCell ⟨u2.heap.size, 1, none⟩ (.int .i64 y1)).setCell ⟨u2.heap.size, 2, none⟩ (.bool y2)).cell? ⟨u2.heap.size, 0, none⟩ = some (.int .i64 y0) := by simp [go_sem, z7_0, z7_1, z7_2]
          have y_1 : (((v48.setCell ⟨u2.heap.size, 0, none⟩ (.int .i64 y0)).setCell ⟨u2.heap.size, 1, none⟩ (.int .i64 y1)).setCell ⟨u2.heap.size, 2, none⟩ (.bool y2)).cell? ⟨u2.heap.size, 1, none⟩ = some (.int .i64 y1) := by simp [go_sem, z7_0, z7_1, z7_2]
          have y_2 : (((v48.setCell ⟨u2.heap.size, 0, none⟩ (.int .i64 y0)).setCell ⟨u2.heap.size, 1, none⟩ (.int .i64 y1)).setCell ⟨u2.heap.size, 2, none⟩ (.bool y2)).cell? ⟨u2.heap.size, 2, none⟩ = some (.bool y2) := by simp [go_sem, z7_0, z7_1, z7_2]
          have z7_0 := y_0
          have z7_1 := y_1
          have z7_2 := y_2
          clear y_0 y_1 y_2
          have g7_0 : (((v48.setCell ⟨u2.heap.size, 0, none⟩ (.int .i64 y0)).setCell ⟨u2.heap.size, 1, none⟩ (.int .i64 y1)).setCell ⟨u2.heap.size, 2, none⟩ (.bool y2)).frozen? ⟨u2.heap.size, 0, none⟩ = false := by simp only [World.frozen?_setCell]; exact g7_0
          have g7_1 : (((v48.setCell ⟨u2.heap.size, 0, none⟩ (.int .i64 y0)).setCell ⟨u2.heap.size, 1, none⟩ (.int .i64 y1)).setCell ⟨u2.heap.size, 2, none⟩ (.bool y2)).frozen? ⟨u2.heap.size, 1, none⟩ = false := by simp only [World.frozen?_setCell]; exact g7_1
          have g7_2 : (((v48.setCell ⟨u2.heap.size, 0, none⟩ (.int .i64 y0)).setCell ⟨u2.heap.size, 1, none⟩ (.int .i64 y1)).setCell ⟨u2.heap.size, 2, none⟩ (.bool y2)).frozen? ⟨u2.heap.size, 2, none⟩ = false := by simp only [World.frozen?_setCell]; exact g7_2
          have l7 : u2.heap.size < (((v48.setCell ⟨u2.heap.size, 0, none⟩ (.int .i64 y0)).setCell ⟨u2.heap.size, 1, none⟩ (.int .i64 y1)).setCell ⟨u2.heap.size, 2, none⟩ (.bool y2)).heap.size := by simpa using l7
          have z6_0 := keep_far3 (x := .int .i64 y0) (y := .int .i64 y1) (z := .bool y2) z6_0 ne7_6.symm
          have g6_0 : (((v48.setCell ⟨u2.heap.size, 0, none⟩ (.int .i64 y0)).setCell ⟨u2.heap.size, 1, none⟩ (.int .i64 y1)).setCell ⟨u2.heap.size, 2, none⟩ (.bool y2)).frozen? ⟨v46.heap.size, 0, none⟩ = false := by simp only [World.frozen?_setCell]; exact g6_0
          have z6_1 := keep_far3 (x := .int .i64 y0) (y := .int .i64 y1) (z := .bool y2) z6_1 ne7_6.symm
          have g6_1 : (((v48.setCell ⟨u2.heap.size, 0, none⟩ (.int .i64 y0)).setCell ⟨u2.heap.size, 1, none⟩ (.int .i64 y1)).setCell ⟨u2.heap.size, 2, none⟩ (.bool y2)).frozen? ⟨v46.heap.size, 1, none⟩ = false := by simp only [World.frozen?_setCell]; exact g6_1
          have z6_2 := keep_far3 (x := .int .i64 y0) (y := .int .i64 y1) (z := .bool y2) z6_2 ne7_6.symm
          have g6_2 : (((v48.setCell ⟨u2.heap.size, 0, none⟩ (.int .i64 y0)).setCell ⟨u2.heap.size, 1, none⟩ (.int .i64 y1)).setCell ⟨u2.heap.size, 2, none⟩ (.bool y2)).frozen? ⟨v46.heap.size, 2, none⟩ = false := by simp only [World.frozen?_setCell]; exact g6_2
          have l6 : v46.heap.size < (((v48.setCell ⟨u2.heap.size, 0, none⟩ (.int .i64 y0)).setCell ⟨u2.heap.size, 1, none⟩ (.int .i64 y1)).setCell ⟨u2.heap.size, 2, none⟩ (.bool y2)).heap.size := by simpa using l6
          obtain ⟨v49, hv_⟩ : ∃ v_, v_ = (((v48.setCell ⟨u2.heap.size, 0, none⟩ (.int .i64 y0)).setCell ⟨u2.heap.size, 1, none⟩ (.int .i64 y1)).setCell ⟨u2.heap.size, 2, none⟩ (.bool y2)) := ⟨_, rfl⟩
          rw [← hv_] at hB z7_0 z7_1 z7_2 g7_0 g7_1 g7_2 l7 z6_0 g6_0 z6_1 g6_1 z6_2 g6_2 l6 ⊢
          clear hv_
          (try go_wp2_with fail); refine hK.out _ _ (hB) (fun hHeld => ?_); clear hK K; (try simp only [Act.put, List.setIfInBounds_toArray, List.set_cons_zero, List.set_cons_succ])
          refine wpAnyH_done (by kernel_rfl) ?_ _
          (go_wp2_with fail; go_meet)
          exact ⟨_, _, rfl, rfl, z6_2, z7_1, z7_2, hB⟩
        refine AllReadyH.cons (o := ?_) ?_ (fun K hK => ?_) AllReadyH.nil; rotate_left 1; (next => simp only [List.getElem?_toArray, List.getElem?_cons_succ, List.getElem?_cons_zero]; rfl)
        go_simp
        have ge6 : u2.heap.size ≤ v45.heap.size := hB.size
        have ne7_6 : u2.heap.size ≠ v45.heap.size := Nat.ne_of_lt l7
        have hb := bl_alloc (bl_refl v45) (.cells #[.int .i64 0, .int .i64 0, .bool false] 134)
        have z7_0 := keep_cell hb z7_0
        have z7_1 := keep_cell hb z7_1
        have z7_2 := keep_cell hb z7_2
        have g7_0 := (hb.frozen (p := ⟨u2.heap.size, 0, none⟩) l7).trans g7_0
        have g7_1 := (hb.frozen (p := ⟨u2.heap.size, 1, none⟩) l7).trans g7_1
        have g7_2 := (hb.frozen (p := ⟨u2.heap.size, 2, none⟩) l7).trans g7_2
        have l7 := Nat.lt_of_lt_of_le l7 hb.size
        have z6_0 : (v45.alloc (.cells #[.int .i64 0, .int .i64 0, .bool false] 134)).cell? ⟨v45.heap.size, 0, none⟩ = some (.int .i64 0) := by simp [go_sem]
        have z6_1 : (v45.alloc (.cells #[.int .i64 0, .int .i64 0, .bool false] 134)).cell? ⟨v45.heap.size, 1, none⟩ = some (.int .i64 0) := by simp [go_sem]
        have z6_2 : (v45.alloc (.cells #[.int .i64 0, .int .i64 0, .bool false] 134)).cell? ⟨v45.heap.size, 2, none⟩ = some (.bool false) := by simp [go_sem]
        have g6_0 : (v45.alloc (.cells #[.int .i64 0, .int .i64 0, .bool false] 134)).frozen? ⟨v45.heap.size, 0, none⟩ = false := by simp [go_sem]
        have g6_1 : (v45.alloc (.cells #[.int .i64 0, .int .i64 0, .bool false] 134)).frozen? ⟨v45.heap.size, 1, none⟩ = false := by simp [go_sem]
        have g6_2 : (v45.alloc (.cells #[.int .i64 0, .int .i64 0, .bool false] 134)).frozen? ⟨v45.heap.size, 2, none⟩ = false := by simp [go_sem]
        have l6 : v45.heap.size < (v45.alloc (.cells #[.int .i64 0, .int .i64 0, .bool false] 134)).heap.size := by simp
        obtain ⟨v50, hv_⟩ : ∃ v_, v_ = (v45.alloc (.cells #[.int .i64 0, .int .i64 0, .bool false] 134)) := ⟨_, rfl⟩
        rw [← hv_] at hb z7_0 g7_0 z7_1 g7_1 z7_2 g7_2 l7 z6_0 z6_1 z6_2 g6_0 g6_1 g6_2 l6 ⊢
        clear hv_
        have hB : Below u2.heap.size u2 v50 := bl_call hb hB
        clear hb
        (try go_wp2_with fail); refine hK.out _ _ (hB) (fun hHeld => ?_); clear hK K; (try simp only [Act.put, List.setIfInBounds_toArray, List.set_cons_zero, List.set_cons_succ])
        refine wpAnyH_ready (rs := [5]) (by kernel_rfl) (by simp) ?_; refine AllReadyH.cons (o := ?_) ?_ (fun K hK => ?_) AllReadyH.nil; rotate_left 1; (next => simp only [List.getElem?_toArray, List.getElem?_cons_succ, List.getElem?_cons_zero]; rfl); go_simp
        (go_at_call 114; (with_reducible refine (HPB.out _ (bl_call (by repeat' (first | with_reducible assumption | with_reducible refine bl_alloc ?_ _ | with_reducible refine bl_drew ?_)) HBW) _ _ _).mono ?_); rintro e v51 ⟨rfl, hb⟩)
        have hB : Below u2.heap.size u2 v51 := bl_call hb hB
        have z7_0 := keep_cell hb z7_0
        have z7_1 := keep_cell hb z7_1
        have z7_2 := keep_cell hb z7_2
        have g7_0 := (hb.frozen (p := ⟨u2.heap.size, 0, none⟩) l7).trans g7_0
        have g7_1 := (hb.frozen (p := ⟨u2.heap.size, 1, none⟩) l7).trans g7_1
        have g7_2 := (hb.frozen (p := ⟨u2.heap.size, 2, none⟩) l7).trans g7_2
        have l7 := Nat.lt_of_lt_of_le l7 hb.size
        have z6_0 := keep_cell hb z6_0
        have z6_1 := keep_cell hb z6_1
        have z6_2 := keep_cell hb z6_2
        have g6_0 := (hb.frozen (p := ⟨v45.heap.size, 0, none⟩) l6).trans g6_0
        have g6_1 := (hb.frozen (p := ⟨v45.heap.size, 1, none⟩) l6).trans g6_1
        have g6_2 := (hb.frozen (p := ⟨v45.heap.size, 2, none⟩) l6).trans g6_2
        have l6 := Nat.lt_of_lt_of_le l6 hb.size
        clear hb
        (try go_wp2_with fail); refine hK.out _ _ (hB) (fun hHeld => ?_); clear hK K; (try simp only [Act.put, List.setIfInBounds_toArray, List.set_cons_zero, List.set_cons_succ])
        refine wpAnyH_ready (rs := [8]) (by kernel_rfl) (by simp) ?_; refine AllReadyH.cons (o := ?_) ?_ (fun K hK => ?_) AllReadyH.nil; rotate_left 1; (next => simp only [List.getElem?_toArray, List.getElem?_cons_succ, List.getElem?_cons_zero]; rfl); go_simp
        have hB : Below u2.heap.size u2 (((v51.setCell ⟨v45.heap.size, 0, none⟩ (.int .i64 x0)).setCell ⟨v45.heap.size, 1, none⟩ (.int .i64 x1)).setCell ⟨v45.heap.size, 2, none⟩ (.bool x2)) := bl_set (bl_set (bl_set hB ge6 _) ge6 _) ge6 _
        have y_0 : (((v51.setCell ⟨v45.heap.size, 0, none⟩ (.int .i64 x0)).setCell ⟨v45.heap.size, 1, none⟩ (.int .i64 x1)).setCell ⟨v45.heap.size, 2, none⟩ (.bool x2)).cell? ⟨v45.heap.size, 0, none⟩ = some (.int .i64 x0) := by simp [go_sem, z6_0, z6_1, z6_2]
        have y_1 : (((v51.setCell ⟨v45.heap.size, 0, none⟩ (.int .i64 x0)).setCell ⟨v45.heap.size, 1, none⟩ (.int .i64 x1)).setCell ⟨v45.heap.size, 2, none⟩ (.bool x2)).cell? ⟨v45.heap.size, 1, none⟩ = some (.int .i64 x1) := by simp [go_sem, z6_0, z6_1, z6_2]
        have y_2 : (((v51.setCell ⟨v45.heap.size, 0, none⟩ (.int .i64 x0)).setCell ⟨v45.heap.size, 1, none⟩ (.int .i64 x1)).setCell ⟨v45.heap.size, 2, none⟩ (.bool x2)).cell? ⟨v45.heap.size, 2, none⟩ = some (.bool x2) := by simp [go_sem, z6_0, z6_1, z6_2]
        have z6_0 := y_0
        have z6_1 := y_1
        have z6_2 := y_2
        clear y_0 y_1 y_2
        have z7_0 := keep_far3 (x := .int .i64 x0) (y := .int .i64 x1) (z := .bool x2) z7_0 ne7_6
        have g7_0 : (((v51.setCell ⟨v45.heap.size, 0, none⟩ (.int .i64 x0)).setCell ⟨v45.heap.size, 1, none⟩ (.int .i64 x1)).setCell ⟨v45.heap.size, 2, none⟩ (.bool x2)).frozen? ⟨u2.heap.size, 0, none⟩ = false := by simp only [World.frozen?_setCell]; exact g7_0
        have z7_1 := keep_far3 (x := .int .i64 x0) (y := .int .i64 x1) (z := .bool x2) z7_1 ne7_6
        have g7_1 : (((v51.setCell ⟨v45.heap.size, 0, none⟩ (.int .i64 x0)).setCell ⟨v45.heap.size, 1, none⟩ (.int .i64 x1)).setCell ⟨v45.heap.size, 2, none⟩ (.bool x2)).frozen? ⟨u2.heap.size, 1, none⟩ = false := by simp only [World.frozen?_setCell]; exact g7_1
        have z7_2 := keep_far3 (x := .int .i64 x0) (y := .int .i64 x1) (z := .bool x2) z7_2 ne7_6
        have g7_2 : (((v51.setCell ⟨v45.heap.size, 0, none⟩ (.int .i64 x0)).setCell ⟨v45.heap.size, 1, none⟩ (.int .i64 x1)).setCell ⟨v45.heap.size, 2, none⟩ (.bool x2)).frozen? ⟨u2.heap.size, 2, none⟩ = false := by simp only [World.frozen?_setCell]; exact g7_2
        have l7 : u2.heap.size < (((v51.setCell ⟨v45.heap.size, 0, none⟩ (.int .i64 x0)).setCell ⟨v45.heap.size, 1, none⟩ (.int .i64 x1)).setCell ⟨v45.heap.size, 2, none⟩ (.bool x2)).heap.size := by simpa using l7
        have g6_0 : (((v51.setCell ⟨v45.heap.size, 0, none⟩ (.int .i64 x0)).setCell ⟨v45.heap.size, 1, none⟩ (.int .i64 x1)).setCell ⟨v45.heap.size, 2, none⟩ (.bool x2)).frozen? ⟨v45.heap.size, 0, none⟩ = false := by simp only [World.frozen?_setCell]; exact g6_0
        have g6_1 : (((v51.setCell ⟨v45.heap.size, 0, none⟩ (.int .i64 x0)).setCell ⟨v45.heap.size, 1, none⟩ (.int .i64 x1)).setCell ⟨v45.heap.size, 2, none⟩ (.bool x2)).frozen? ⟨v45.heap.size, 1, none⟩ = false := by simp only [World.frozen?_setCell]; exact g6_1
        have g6_2 : (((v51.setCell ⟨v45.heap.size, 0, none⟩ (.int .i64 x0)).setCell ⟨v45.heap.size, 1, none⟩ (.int .i64 x1)).setCell ⟨v45.heap.size, 2, none⟩ (.bool x2)).frozen? ⟨v45.heap.size, 2, none⟩ = false := by simp only [World.frozen?_setCell]; exact g6_2
        have l6 : v45.heap.size < (((v51.setCell ⟨v45.heap.size, 0, none⟩ (.int .i64 x0)).setCell ⟨v45.heap.size, 1, none⟩ (.int .i64 x1)).setCell ⟨v45.heap.size, 2, none⟩ (.bool x2)).heap.size := by simpa using l6
        obtain ⟨v52, hv_⟩ : ∃ v_, v_ = (((v51.setCell ⟨v45.heap.size, 0, none⟩ (.int .i64 x0)).setCell ⟨v45.heap.size, 1, none⟩ (.int .i64 x1)).setCell ⟨v45.heap.size, 2, none⟩ (.bool x2)) := ⟨_, rfl⟩
        rw [← hv_] at hB z6_0 z6_1 z6_2 z7_0 g7_0 z7_1 g7_1 z7_2 g7_2 l7 g6_0 g6_1 g6_2 l6 ⊢
        clear hv_
        (try go_wp2_with fail); refine hK.out _ _ (hB) (fun hHeld => ?_); clear hK K; (try simp only [Act.put, List.setIfInBounds_toArray, List.set_cons_zero, List.set_cons_succ])
        refine wpAnyH_ready (rs := [9]) (by kernel_rfl) (by simp) ?_; refine AllReadyH.cons (o := ?_) ?_ (fun K hK => ?_) AllReadyH.nil; rotate_left 1; (next => simp only [List.getElem?_toArray, List.getElem?_cons_succ, List.getElem?_cons_zero]; rfl); go_simp
        have hB : Below u2.heap.size u2 (((v52.setCell ⟨u2.heap.size, 0, none⟩ (.int .i64 y0)).setCell ⟨u2.heap.size, 1, none⟩ (.int .i64 y1)).setCell ⟨u2.heap.size, 2, none⟩ (.bool y2)) := bl_set (bl_set (bl_set hB ge7 _) ge7 _) ge7 _
        have y_0 : (((v52.setCell ⟨u2.heap.size, 0, none⟩ (.int .i64 y0)).setCell ⟨u2.heap.size, 1, none⟩ (.int .i64 y1)).setCell ⟨u2.heap.size, 2, none⟩ (.bool y2)).cell? ⟨u2.heap.size, 0, none⟩ = some (.int .i64 y0) := by simp [go_sem, z7_0, z7_1, z7_2]
        have y_1 : (((v52.setCell ⟨u2.heap.size, 0, none⟩ (.int .i64 y0)).setCell ⟨u2.heap.size, 1, none⟩ (.int .i64 y1)).setCell ⟨u2.heap.size, 2, none⟩ (.bool y2)).cell? ⟨u2.heap.size, 1, none⟩ = some (.int .i64 y1) := by simp [go_sem, z7_0, z7_1, z7_2]
        have y_2 : (((v52.setCell ⟨u2.heap.size, 0, none⟩ (.int .i64 y0)).setCell ⟨u2.heap.size, 1, none⟩ (.int .i64 y1)).setCell ⟨u2.heap.size, 2, none⟩ (.bool y2)).cell? ⟨u2.heap.size, 2, none⟩ = some (.bool y2) := by simp [go_sem, z7_0, z7_1, z7_2]
        have z7_0 := y_0
        have z7_1 := y_1
        have z7_2 := y_2
        clear y_0 y_1 y_2
        have g7_0 : (((v52.setCell ⟨u2.heap.size, 0, none⟩ (.int .i64 y0)).setCell ⟨u2.heap.size, 1, none⟩ (.int .i64 y1)).setCell ⟨u2.heap.size, 2, none⟩ (.bool y2)).frozen? ⟨u2.heap.size, 0, none⟩ = false := by simp only [World.frozen?_setCell]; exact g7_0
        have g7_1 : (((v52.setCell ⟨u2.heap.size, 0, none⟩ (.int .i64 y0)).setCell ⟨u2.heap.size, 1, none⟩ (.int .i64 y1)).setCell ⟨u2.heap.size, 2, none⟩ (.bool y2)).frozen? ⟨u2.heap.size, 1, none⟩ = false := by simp only [World.frozen?_setCell]; exact g7_1
        have g7_2 : (((v52.setCell ⟨u2.heap.size, 0, none⟩ (.int .i64 y0)).setCell ⟨u2.heap.size, 1, none⟩ (.int .i64 y1)).setCell ⟨u2.heap.size, 2, none⟩ (.bool y2)).frozen? ⟨u2.heap.size, 2, none⟩ = false := by simp only [World.frozen?_setCell]; exact g7_2
        have l7 : u2.heap.size < (((v52.setCell ⟨u2.heap.size, 0, none⟩ (.int .i64 y0)).setCell ⟨u2.heap.size, 1, none⟩ (.int .i64 y1)).setCell ⟨u2.heap.size, 2, none⟩ (.bool y2)).heap.size := by simpa using l7
        have z6_0 := keep_far3 (x := .int .i64 y0) (y := .int .i64 y1) (z := .bool y2) z6_0 ne7_6.symm
        have g6_0 : (((v52.setCell ⟨u2.heap.size, 0, none⟩ (.int .i64 y0)).setCell ⟨u2.heap.size, 1, none⟩ (.int .i64 y1)).setCell ⟨u2.heap.size, 2, none⟩ (.bool y2)).frozen? ⟨v45.heap.size, 0, none⟩ = false := by simp only [World.frozen?_setCell]; exact g6_0
        have z6_1 := keep_far3 (x := .int .i64 y0) (y := .int .i64 y1) (z := .bool y2) z6_1 ne7_6.symm
        have g6_1 : (((v52.setCell ⟨u2.heap.size, 0, none⟩ (.int .i64 y0)).setCell ⟨u2.heap.size, 1, none⟩ (.int .i64 y1)).setCell ⟨u2.heap.size, 2, none⟩ (.bool y2)).frozen? ⟨v45.heap.size, 1, none⟩ = false := by simp only [World.frozen?_setCell]; exact g6_1
        have z6_2 := keep_far3 (x := .int .i64 y0) (y := .int .i64 y1) (z := .bool y2) z6_2 ne7_6.symm
        have g6_2 : (((v52.setCell ⟨u2.heap.size, 0, none⟩ (.int .i64 y0)).setCell ⟨u2.heap.size, 1, none⟩ (.int .i64 y1)).setCell ⟨u2.heap.size, 2, none⟩ (.bool y2)).frozen? ⟨v45.heap.size, 2, none⟩ = false := by simp only [World.frozen?_setCell]; exact g6_2
        have l6 : v45.heap.size < (((v52.setCell ⟨u2.heap.size, 0, none⟩ (.int .i64 y0)).setCell ⟨u2.heap.size, 1, none⟩ (.int .i64 y1)).setCell ⟨u2.heap.size, 2, none⟩ (.bool y2)).heap.size := by simpa using l6
        obtain ⟨v53, hv_⟩ : ∃ v_, v_ = (((v52.setCell ⟨u2.heap.size, 0, none⟩ (.int .i64 y0)).setCell ⟨u2.heap.size, 1, none⟩ (.int .i64 y1)).setCell ⟨u2.heap.size, 2, none⟩ (.bool y2)) := ⟨_, rfl⟩
        rw [← hv_] at hB z7_0 z7_1 z7_2 g7_0 g7_1 g7_2 l7 z6_0 g6_0 z6_1 g6_1 z6_2 g6_2 l6 ⊢
        clear hv_
        (try go_wp2_with fail); refine hK.out _ _ (hB) (fun hHeld => ?_); clear hK K; (try simp only [Act.put, List.setIfInBounds_toArray, List.set_cons_zero, List.set_cons_succ])
        refine wpAnyH_done (by kernel_rfl) ?_ _
        (go_wp2_with fail; go_meet)
        exact ⟨_, _, rfl, rfl, z6_2, z7_1, z7_2, hB⟩
      refine AllReadyH.cons (o := ?_) ?_ (fun K hK => ?_) AllReadyH.nil; rotate_left 1; (next => simp only [List.getElem?_toArray, List.getElem?_cons_succ, List.getElem?_cons_zero]; rfl)
      go_simp
      have ge6 : u2.heap.size ≤ v44.heap.size := hB.size
      have ne7_6 : u2.heap.size ≠ v44.heap.size := Nat.ne_of_lt l7
      have hb := bl_alloc (bl_refl v44) (.cells #[.int .i64 0, .int .i64 0, .bool false] 134)
      have z7_0 := keep_cell hb z7_0
      have z7_1 := keep_cell hb z7_1
      have z7_2 := keep_cell hb z7_2
      have g7_0 := (hb.frozen (p := ⟨u2.heap.size, 0, none⟩) l7).trans g7_0
      have g7_1 := (hb.frozen (p := ⟨u2.heap.size, 1, none⟩) l7).trans g7_1
      have g7_2 := (hb.frozen (p := ⟨u2.heap.size, 2, none⟩) l7).trans g7_2
      have l7 := Nat.lt_of_lt_of_le l7 hb.size
      have z6_0 : (v44.alloc (.cells #[.int .i64 0, .int .i64 0, .bool false] 134)).cell? ⟨v44.heap.size, 0, none⟩ = some (.int .i64 0) := by simp [go_sem]
      have z6_1 : (v44.alloc (.cells #[.int .i64 0, .int .i64 0, .bool false] 134)).cell? ⟨v44.heap.size, 1, none⟩ = some (.int .i64 0) := by simp [go_sem]
      have z6_2 : (v44.alloc (.cells #[.int .i64 0, .int .i64 0, .bool false] 134)).cell? ⟨v44.heap.size, 2, none⟩ = some (.bool false) := by simp [go_sem]
      have g6_0 : (v44.alloc (.cells #[.int .i64 0, .int .i64 0, .bool false] 134)).frozen? ⟨v44.heap.size, 0, none⟩ = false := by simp [go_sem]
      have g6_1 : (v44.alloc (.cells #[.int .i64 0, .int .i64 0, .bool false] 134)).frozen? ⟨v44.heap.size, 1, none⟩ = false := by simp [go_sem]
      have g6_2 : (v44.alloc (.cells #[.int .i64 0, .int .i64 0, .bool false] 134)).frozen? ⟨v44.heap.size, 2, none⟩ = false := by simp [go_sem]
      have l6 : v44.heap.size < (v44.alloc (.cells #[.int .i64 0, .int .i64 0, .bool false] 134)).heap.size := by simp
      obtain ⟨v54, hv_⟩ : ∃ v_, v_ = (v44.alloc (.cells #[.int .i64 0, .int .i64 0, .bool false] 134)) := ⟨_, rfl⟩
      rw [← hv_] at hb z7_0 g7_0 z7_1 g7_1 z7_2 g7_2 l7 z6_0 z6_1 z6_2 g6_0 g6_1 g6_2 l6 ⊢
      clear hv_
      have hB : Below u2.heap.size u2 v54 := bl_call hb hB
      clear hb
      (try go_wp2_with fail); refine hK.out _ _ (hB) (fun hHeld => ?_); clear hK K; (try simp only [Act.put, List.setIfInBounds_toArray, List.set_cons_zero, List.set_cons_succ])
      refine wpAnyH_ready (rs := [2]) (by kernel_rfl) (by simp) ?_; refine AllReadyH.cons (o := ?_) ?_ (fun K hK => ?_) AllReadyH.nil; rotate_left 1; (next => simp only [List.getElem?_toArray, List.getElem?_cons_succ, List.getElem?_cons_zero]; rfl); go_simp
      (go_at_call 114; (with_reducible refine (HPA.out _ (bl_call (by repeat' (first | with_reducible assumption | with_reducible refine bl_alloc ?_ _ | with_reducible refine bl_drew ?_)) HBW) _ _ _).mono ?_); rintro e v55 ⟨rfl, hb⟩)
      have hB : Below u2.heap.size u2 v55 := bl_call hb hB
      have z7_0 := keep_cell hb z7_0
      have z7_1 := keep_cell hb z7_1
      have z7_2 := keep_cell hb z7_2
      have g7_0 := (hb.frozen (p := ⟨u2.heap.size, 0, none⟩) l7).trans g7_0
      have g7_1 := (hb.frozen (p := ⟨u2.heap.size, 1, none⟩) l7).trans g7_1
      have g7_2 := (hb.frozen (p := ⟨u2.heap.size, 2, none⟩) l7).trans g7_2
      have l7 := Nat.lt_of_lt_of_le l7 hb.size
      have z6_0 := keep_cell hb z6_0
      have z6_1 := keep_cell hb z6_1
      have z6_2 := keep_cell hb z6_2
      have g6_0 := (hb.frozen (p := ⟨v44.heap.size, 0, none⟩) l6).trans g6_0
      have g6_1 := (hb.frozen (p := ⟨v44.heap.size, 1, none⟩) l6).trans g6_1
      have g6_2 := (hb.frozen (p := ⟨v44.heap.size, 2, none⟩) l6).trans g6_2
      have l6 := Nat.lt_of_lt_of_le l6 hb.size
      clear hb
      (try go_wp2_with fail); refine hK.out _ _ (hB) (fun hHeld => ?_); clear hK K; (try simp only [Act.put, List.setIfInBounds_toArray, List.set_cons_zero, List.set_cons_succ])
      refine wpAnyH_ready (rs := [5]) (by kernel_rfl) (by simp) ?_; refine AllReadyH.cons (o := ?_) ?_ (fun K hK => ?_) AllReadyH.nil; rotate_left 1; (next => simp only [List.getElem?_toArray, List.getElem?_cons_succ, List.getElem?_cons_zero]; rfl); go_simp
      (go_at_call 114; (with_reducible refine (HPB.out _ (bl_call (by repeat' (first | with_reducible assumption | with_reducible refine bl_alloc ?_ _ | with_reducible refine bl_drew ?_)) HBW) _ _ _).mono ?_); rintro e v56 ⟨rfl, hb⟩)
      have hB : Below u2.heap.size u2 v56 := bl_call hb hB
      have z7_0 := keep_cell hb z7_0
      have z7_1 := keep_cell hb z7_1
      have z7_2 := keep_cell hb z7_2
      have g7_0 := (hb.frozen (p := ⟨u2.heap.size, 0, none⟩) l7).trans g7_0
      have g7_1 := (hb.frozen (p := ⟨u2.heap.size, 1, none⟩) l7).trans g7_1
      have g7_2 := (hb.frozen (p := ⟨u2.heap.size, 2, none⟩) l7).trans g7_2
      have l7 := Nat.lt_of_lt_of_le l7 hb.size
      have z6_0 := keep_cell hb z6_0
      have z6_1 := keep_cell hb z6_1
      have z6_2 := keep_cell hb z6_2
      have g6_0 := (hb.frozen (p := ⟨v44.heap.size, 0, none⟩) l6).trans g6_0
      have g6_1 := (hb.frozen (p := ⟨v44.heap.size, 1, none⟩) l6).trans g6_1
      have g6_2 := (hb.frozen (p := ⟨v44.heap.size, 2, none⟩) l6).trans g6_2
      have l6 := Nat.lt_of_lt_of_le l6 hb.size
      clear hb
      (try go_wp2_with fail); refine hK.out _ _ (hB) (fun hHeld => ?_); clear hK K; (try simp only [Act.put, List.setIfInBounds_toArray, List.set_cons_zero, List.set_cons_succ])
      refine wpAnyH_ready (rs := [8]) (by kernel_rfl) (by simp) ?_; refine AllReadyH.cons (o := ?_) ?_ (fun K hK => ?_) AllReadyH.nil; rotate_left 1; (next => simp only [List.getElem?_toArray, List.getElem?_cons_succ, List.getElem?_cons_zero]; rfl); go_simp
      have hB : Below u2.heap.size u2 (((v56.setCell ⟨v44.heap.size, 0, none⟩ (.int .i64 x0)).setCell ⟨v44.heap.size, 1, none⟩ (.int .i64 x1)).setCell ⟨v44.heap.size, 2, none⟩ (.bool x2)) := bl_set (bl_set (bl_set hB ge6 _) ge6 _) ge6 _
      have y_0 : (((v56.setCell ⟨v44.heap.size, 0, none⟩ (.int .i64 x0)).setCell ⟨v44.heap.size, 1, none⟩ (.int .i64 x1)).setCell ⟨v44.heap.size, 2, none⟩ (.bool x2)).cell? ⟨v44.heap.size, 0, none⟩ = some (.int .i64 x0) := by simp [go_sem, z6_0, z6_1, z6_2]
      have y_1 : (((v56.setCell ⟨v44.heap.size, 0, none⟩ (.int .i64 x0)).setCell ⟨v44.heap.size, 1, none⟩ (.int .i64 x1)).setCell ⟨v44.heap.size, 2, none⟩ (.bool x2)).cell? ⟨v44.heap.size, 1, none⟩ = some (.int .i64 x1) := by simp [go_sem, z6_0, z6_1, z6_2]
      have y_2 : (((v56.setCell ⟨v44.heap.size, 0, none⟩ (.int .i64 x0)).setCell ⟨v44.heap.size, 1, none⟩ (.int .i64 x1)).setCell ⟨v44.heap.size, 2, none⟩ (.bool x2)).cell? ⟨v44.heap.size, 2, none⟩ = some (.bool x2) := by simp [go_sem, z6_0, z6_1, z6_2]
      have z6_0 := y_0
      have z6_1 := y_1
      have z6_2 := y_2
      clear y_0 y_1 y_2
      have z7_0 := keep_far3 (x := .int .i64 x0) (y := .int .i64 x1) (z := .bool x2) z7_0 ne7_6
      have g7_0 : (((v56.setCell ⟨v44.heap.size, 0, none⟩ (.int .i64 x0)).setCell ⟨v44.heap.size, 1, none⟩ (.int .i64 x1)).setCell ⟨v44.heap.size, 2, none⟩ (.bool x2)).frozen? ⟨u2.heap.size, 0, none⟩ = false := by simp only [World.frozen?_setCell]; exact g7_0
      have z7_1 := keep_far3 (x := .int .i64 x0) (y := .int .i64 x1) (z := .bool x2) z7_1 ne7_6
      have g7_1 : (((v56.setCell ⟨v44.heap.size, 0, none⟩ (.int .i64 x0)).setCell ⟨v44.heap.size, 1, none⟩ (.int .i64 x1)).setCell ⟨v44.heap.size, 2, none⟩ (.bool x2)).frozen? ⟨u2.heap.size, 1, none⟩ = false := by simp only [World.frozen?_setCell]; exact g7_1
      have z7_2 := keep_far3 (x := .int .i64 x0) (y := .int .i64 x1) (z := .bool x2) z7_2 ne7_6
      have g7_2 : (((v56.setCell ⟨v44.heap.size, 0, none⟩ (.int .i64 x0)).setCell ⟨v44.heap.size, 1, none⟩ (.int .i64 x1)).setCell ⟨v44.heap.size, 2, none⟩ (.bool x2)).frozen? ⟨u2.heap.size, 2, none⟩ = false := by simp only [World.frozen?_setCell]; exact g7_2
      have l7 : u2.heap.size < (((v56.setCell ⟨v44.heap.size, 0, none⟩ (.int .i64 x0)).setCell ⟨v44.heap.size, 1, none⟩ (.int .i64 x1)).setCell ⟨v44.heap.size, 2, none⟩ (.bool x2)).heap.size := by simpa using l7
      have g6_0 : (((v56.setCell ⟨v44.heap.size, 0, none⟩ (.int .i64 x0)).setCell ⟨v44.heap.size, 1, none⟩ (.int .i64 x1)).setCell ⟨v44.heap.size, 2, none⟩ (.bool x2)).frozen? ⟨v44.heap.size, 0, none⟩ = false := by simp only [World.frozen?_setCell]; exact g6_0
      have g6_1 : (((v56.setCell ⟨v44.heap.size, 0, none⟩ (.int .i64 x0)).setCell ⟨v44.heap.size, 1, none⟩ (.int .i64 x1)).setCell ⟨v44.heap.size, 2, none⟩ (.bool x2)).frozen? ⟨v44.heap.size, 1, none⟩ = false := by simp only [World.frozen?_setCell]; exact g6_1
      have g6_2 : (((v56.setCell ⟨v44.heap.size, 0, none⟩ (.int .i64 x0)).setCell ⟨v44.heap.size, 1, none⟩ (.int .i64 x1)).setCell ⟨v44.heap.size, 2, none⟩ (.bool x2)).frozen? ⟨v44.heap.size, 2, none⟩ = false := by simp only [World.frozen?_setCell]; exact g6_2
      have l6 : v44.heap.size < (((v56.setCell ⟨v44.heap.size, 0, none⟩ (.int .i64 x0)).setCell ⟨v44.heap.size, 1, none⟩ (.int .i64 x1)).setCell ⟨v44.heap.size, 2, none⟩ (.bool x2)).heap.size := by simpa using l6
      obtain ⟨v57, hv_⟩ : ∃ v_, v_ = (((v56.setCell ⟨v44.heap.size, 0, none⟩ (.int .i64 x0)).setCell ⟨v44.heap.size, 1, none⟩ (.int .i64 x1)).setCell ⟨v44.heap.size, 2, none⟩ (.bool x2)) := ⟨_, rfl⟩
      rw [← hv_] at hB z6_0 z6_1 z6_2 z7_0 g7_0 z7_1 g7_1 z7_2 g7_2 l7 g6_0 g6_1 g6_2 l6 ⊢
      clear hv_
      (try go_wp2_with fail); refine hK.out _ _ (hB) (fun hHeld => ?_); clear hK K; (try simp only [Act.put, List.setIfInBounds_toArray, List.set_cons_zero, List.set_cons_succ])
      refine wpAnyH_ready (rs := [9]) (by kernel_rfl) (by simp) ?_; refine AllReadyH.cons (o := ?_) ?_ (fun K hK => ?_) AllReadyH.nil; rotate_left 1; (next => simp only [List.getElem?_toArray, List.getElem?_cons_succ, List.getElem?_cons_zero]; rfl); go_simp
      have hB : Below u2.heap.size u2 (((v57.setCell ⟨u2.heap.size, 0, none⟩ (.int .i64 y0)).setCell ⟨u2.heap.size, 1, none⟩ (.int .i64 y1)).setCell ⟨u2.heap.size, 2, none⟩ (.bool y2)) := bl_set (bl_set (bl_set hB ge7 _) ge7 _) ge7 _
      have y_0 : (((v57.setCell ⟨u2.heap.size, 0, none⟩ (.int .i64 y0)).setCell ⟨u2.heap.size, 1, none⟩ (.int .i64 y1)).setCell ⟨u2.heap.size, 2, none⟩ (.bool y2)).cell? ⟨u2.heap.size, 0, none⟩ = some (.int .i64 y0) := by simp [go_sem, z7_0, z7_1, z7_2]
      have y_1 : (((v57.setCell ⟨u2.heap.size, 0, none⟩ (.int .i64 y0)).setCell ⟨u2.heap.size, 1, none⟩ (.int .i64 y1)).setCell ⟨u2.heap.size, 2, none⟩ (.bool y2)).cell? ⟨u2.heap.size, 1, none⟩ = some (.int .i64 y1) := by simp [go_sem, z7_0, z7_1, z7_2]
      have y_2 : (((v57.setCell ⟨u2.heap.size, 0, none⟩ (.int .i64 y0)).setCell ⟨u2.heap.size, 1, none⟩ (.int .i64 y1)).setCell ⟨u2.heap.size, 2, none⟩ (.bool y2)).cell? ⟨u2.heap.size, 2, none⟩ = some (.bool y2) := by simp [go_sem, z7_0, z7_1, z7_2]
      have z7_0 := y_0
      have z7_1 := y_1
      have z7_2 := y_2
      clear y_0 y_1 y_2
      have g7_0 : (((v57.setCell ⟨u2.heap.size, 0, none⟩ (.int .i64 y0)).setCell ⟨u2.heap.size, 1, none⟩ (.int .i64 y1)).setCell ⟨u2.heap.size, 2, none⟩ (.bool y2)).frozen? ⟨u2.heap.size, 0, none⟩ = false := by simp only [World.frozen?_setCell]; exact g7_0
      have g7_1 : (((v57.setCell ⟨u2.heap.size, 0, none⟩ (.int .i64 y0)).setCell ⟨u2.heap.size, 1, none⟩ (.int .i64 y1)).setCell ⟨u2.heap.size, 2, none⟩ (.bool y2)).frozen? ⟨u2.heap.size, 1, none⟩ = false := by simp only [World.frozen?_setCell]; exact g7_1
      have g7_2 : (((v57.setCell ⟨u2.heap.size, 0, none⟩ (.int .i64 y0)).setCell ⟨u2.heap.size, 1, none⟩ (.int .i64 y1)).setCell ⟨u2.heap.size, 2, none⟩ (.bool y2)).frozen? ⟨u2.heap.size, 2, none⟩ = false := by simp only [World.frozen?_setCell]; exact g7_2
      have l7 : u2.heap.size < (((v57.setCell ⟨u2.heap.size, 0, none⟩ (.int .i64 y0)).setCell ⟨u2.heap.size, 1, none⟩ (.int .i64 y1)).setCell ⟨u2.heap.size, 2, none⟩ (.bool y2)).heap.size := by simpa using l7
      have z6_0 := keep_far3 (x := .int .i64 y0) (y := .int .i64 y1) (z := .bool y2) z6_0 ne7_6.symm
      have g6_0 : (((v57.setCell ⟨u2.heap.size, 0, none⟩ (.int .i64 y0)).setCell ⟨u2.heap.size, 1, none⟩ (.int .i64 y1)).setCell ⟨u2.heap.size, 2, none⟩ (.bool y2)).frozen? ⟨v44.heap.size, 0, none⟩ = false := by simp only [World.frozen?_setCell]; exact g6_0
      have z6_1 := keep_far3 (x := .int .i64 y0) (y := .int .i64 y1) (z := .bool y2) z6_1 ne7_6.symm
      have g6_1 : (((v57.setCell ⟨u2.heap.size, 0, none⟩ (.int .i64 y0)).setCell ⟨u2.heap.size, 1, none⟩ (.int .i64 y1)).setCell ⟨u2.heap.size, 2, none⟩ (.bool y2)).frozen? ⟨v44.heap.size, 1, none⟩ = false := by simp only [World.frozen?_setCell]; exact g6_1
      have z6_2 := keep_far3 (x := .int .i64 y0) (y := .int .i64 y1) (z := .bool y2) z6_2 ne7_6.symm
      have g6_2 : (((v57.setCell ⟨u2.heap.size, 0, none⟩ (.int .i64 y0)).setCell ⟨u2.heap.size, 1, none⟩ (.int .i64 y1)).setCell ⟨u2.heap.size, 2, none⟩ (.bool y2)).frozen? ⟨v44.heap.size, 2, none⟩ = false := by simp only [World.frozen?_setCell]; exact g6_2
      have l6 : v44.heap.size < (((v57.setCell ⟨u2.heap.size, 0, none⟩ (.int .i64 y0)).setCell ⟨u2.heap.size, 1, none⟩ (.int .i64 y1)).setCell ⟨u2.heap.size, 2, none⟩ (.bool y2)).heap.size := by simpa using l6
      obtain ⟨v58, hv_⟩ : ∃ v_, v_ = (((v57.setCell ⟨u2.heap.size, 0, none⟩ (.int .i64 y0)).setCell ⟨u2.heap.size, 1, none⟩ (.int .i64 y1)).setCell ⟨u2.heap.size, 2, none⟩ (.bool y2)) := ⟨_, rfl⟩
      rw [← hv_] at hB z7_0 z7_1 z7_2 g7_0 g7_1 g7_2 l7 z6_0 g6_0 z6_1 g6_1 z6_2 g6_2 l6 ⊢
      clear hv_
      (try go_wp2_with fail); refine hK.out _ _ (hB) (fun hHeld => ?_); clear hK K; (try simp only [Act.put, List.setIfInBounds_toArray, List.set_cons_zero, List.set_cons_succ])
      refine wpAnyH_done (by kernel_rfl) ?_ _
      (go_wp2_with fail; go_meet)
      exact ⟨_, _, rfl, rfl, z6_2, z7_1, z7_2, hB⟩
    case rest =>
      obtain ⟨r1, r2, rfl, rfl, c0, c1', c2, hbw⟩ := hcut
      have HB3 := hide (bl_call hbw HBW)
      clear hbw HBW k0 k1 k2 k3
      cases x2
      · go_wp2_with (go_at_call 115; (with_reducible refine (HD.out false _).mono ?_); rintro e w' ⟨rfl, rfl⟩)
        go_ret2
        exact ⟨by rw [HE.out, HV.out]; first | done | rfl, HB3.out⟩
      · go_wp2_with (go_at_call 115; (with_reducible refine (HD.out y2 _).mono ?_); rintro e w' ⟨rfl, rfl⟩)
        go_ret2
        exact ⟨by rw [HE.out, HV.out]; simp, HB3.out⟩
end Go.Proofs.Ytmncdpiojhgcdaa

/- Best breaks, pure maths: breaks in their order, costs of lines as a table takes them, what the best ones cost. -/
namespace Go.Proofs.Ytmncdpiojhgcdaa
open Go.ChangeShapes Go.WideShapes Go.ChangeAt Go.RowKit
set_option linter.unusedVariables false

theorem coL_has {L : List It} {a b d t : Int} (h : (coL L a b d t).2 = true) : hasL L a b = true ∧ inB d 1 10000 = true ∧ inB t 0 10000 = true := by
  cases q : (hasL L a b && inB d 1 10000 && inB t 0 10000 && decide ((ftL L a b d).1 ≠ 4) && decide ((ftL L a b d).2 ≤ t))
  · rw [coL_no q] at h; cases h
  · simp only [Bool.and_eq_true] at q
    exact ⟨q.1.1.1.1, q.1.1.1.2, q.1.1.2⟩
theorem dem_bd {b p : Int} (f : Bool) (h0 : 0 ≤ b) (h : b ≤ 10000) (k : -1000 ≤ p ∧ p ≤ 999) : -200000000 ≤ dem b p f ∧ dem b p f ≤ 200000000 := by
  have s1 : (1 + b) * (1 + b) ≤ 10001 * 10001 := sq_mono (by omega) (by omega)
  have s2 := sq_nn (1 + b)
  have s3 : p * p ≤ 1000 * 1000 := by
    rcases (by omega : 0 ≤ p ∨ p < 0) with g | g
    · exact sq_mono g (by omega)
    · rw [← Int.neg_mul_neg]; exact sq_mono (by omega) (by omega)
  have s4 := sq_nn p
  have s5 : 0 ≤ p → (1 + b + p) * (1 + b + p) ≤ 11000 * 11000 := fun g => sq_mono (by omega) (by omega)
  have s6 := sq_nn (1 + b + p)
  unfold dem
  split
  · next g => have := s5 g; split <;> omega
  · split <;> split <;> omega
theorem coL_bd {L : List It} (hall : ∀ i, i < L.length → itOk (tg L i) = true) (a b d t : Int) : -200000000 ≤ (coL L a b d t).1 ∧ (coL L a b d t).1 ≤ 200000000 := by
  cases q : (hasL L a b && inB d 1 10000 && inB t 0 10000 && decide ((ftL L a b d).1 ≠ 4) && decide ((ftL L a b d).2 ≤ t))
  · rw [coL_no q]; simp
  · rw [coL_yes q]
    simp only [Bool.and_eq_true, decide_eq_true_eq] at q
    obtain ⟨⟨⟨⟨h1, h2⟩, h3⟩, _⟩, h5⟩ := q
    obtain ⟨p, q', hp, rfl, hpq, hq, _, hme, _⟩ := hasL_of h1
    exact dem_bd _ (ftL_bad hall (by rw [h1, h2]; rfl)) (by have := inB_iff.1 h3; omega) (mayE_p hall hq hme)
theorem ng_appB {E : List Int} {x : Int} {i : Nat} (h : i < E.length) : ng (E ++ [x]) i = ng E i := by
  unfold ng
  simp [List.getD, List.getElem?_append_left h]
theorem ng_lastB {E : List Int} {x : Int} : ng (E ++ [x]) E.length = x := by
  unfold ng
  simp [List.getD]
theorem frm_appB {s : Int} {E : List Int} {x : Int} {i : Nat} (h : i ≤ E.length) : frm s (E ++ [x]) i = frm s E i := by
  cases i with
  | zero => rfl
  | succ i =>
    rw [frm_succ, frm_succ]
    exact ng_appB (by omega)
/-! Breaks in their order. -/
theorem brTo_yes {L : List It} {k : Nat} (h : mayE L k = true) : brTo L (k + 1) = brTo L k ++ [(k : Int)] := by
  show (if _ then _ else _) = _
  rw [if_pos h]
theorem brTo_no {L : List It} {k : Nat} (h : mayE L k = false) : brTo L (k + 1) = brTo L k := by
  show (if _ then _ else _) = _
  rw [if_neg (by rw [h]; simp)]
theorem brTo_pre {L : List It} {i : Nat} : ∀ {m : Nat}, i ≤ m → (brTo L i).length ≤ (brTo L m).length ∧ ∀ k, k < (brTo L i).length → ng (brTo L m) k = ng (brTo L i) k
  | 0, h => by
    obtain rfl : i = 0 := by omega
    exact ⟨Nat.le_refl _, fun _ _ => rfl⟩
  | m + 1, h => by
    rcases (by omega : i = m + 1 ∨ i ≤ m) with e | e
    · subst e; exact ⟨Nat.le_refl _, fun _ _ => rfl⟩
    · obtain ⟨a, b⟩ := brTo_pre (L := L) e
      cases q : mayE L m
      · rw [brTo_no q]; exact ⟨a, b⟩
      · rw [brTo_yes q]
        refine ⟨by simp; omega, fun k hk => ?_⟩
        rw [ng_appB (by omega)]
        exact b k hk
theorem brTo_at {L : List It} {i m : Nat} (h : i < m) (hm : mayE L i = true) : (brTo L i).length < (brTo L m).length ∧ ng (brTo L m) (brTo L i).length = i := by
  obtain ⟨a, b⟩ := brTo_pre (L := L) (show i + 1 ≤ m from h)
  rw [brTo_yes hm] at a b
  have hl : (brTo L i ++ [(i : Int)]).length = (brTo L i).length + 1 := by simp
  rw [hl] at a b
  exact ⟨by omega, (b _ (by omega)).trans ng_lastB⟩
theorem brTo_get {L : List It} : ∀ {m k : Nat}, k < (brTo L m).length → ∃ i, i < m ∧ ng (brTo L m) k = (i : Int) ∧ mayE L i = true ∧ (brTo L i).length = k
  | 0, k, h => by simp [brTo] at h
  | m + 1, k, h => by
    cases q : mayE L m
    · rw [brTo_no q] at h ⊢
      obtain ⟨i, a, b, c, e⟩ := brTo_get h
      exact ⟨i, by omega, b, c, e⟩
    · rw [brTo_yes q] at h ⊢
      rw [List.length_append] at h
      simp at h
      rcases (by omega : k < (brTo L m).length ∨ k = (brTo L m).length) with e | e
      · obtain ⟨i, a, b, c, e'⟩ := brTo_get e
        exact ⟨i, by omega, by rw [ng_appB e]; exact b, c, e'⟩
      · subst e
        exact ⟨m, by omega, ng_lastB, q, rfl⟩
/-! Nodes: the beginning, and behind each item. -/
def nbB (L : List It) : Nat := (brTo L L.length).length
def piB (L : List It) : Nat → Nat
  | 0 => 0
  | k + 1 => (ng (brTo L L.length) k).toNat + 1
abbrev ndB (j : Nat) : Int := (j : Int) - 1
def plB (L : List It) (k : Nat) : Int × Bool := (ng (brTo L L.length) k, isF (tg L (ng (brTo L L.length) k).toNat))
theorem piB_at {L : List It} {k : Nat} (hk : k < nbB L) : ∃ i, i < L.length ∧ mayE L i = true ∧ (brTo L i).length = k ∧ piB L (k + 1) = i + 1 ∧ plB L k = ((i : Int), isF (tg L i)) := by
  obtain ⟨i, a, b, c, e⟩ := brTo_get hk
  refine ⟨i, a, c, e, ?_, ?_⟩
  · show (ng _ k).toNat + 1 = _
    rw [b]; rfl
  · unfold plB
    rw [b]; rfl
theorem brTo_lt {L : List It} {i j : Nat} (h : (brTo L i).length < (brTo L j).length) : i < j := by
  rcases (by omega : i < j ∨ j ≤ i) with e | e
  · exact e
  · have := (brTo_pre (L := L) e).1; omega
theorem piB_inc {L : List It} {k : Nat} (hk : k < nbB L) : piB L k < piB L (k + 1) := by
  obtain ⟨i, a, b, c, e, _⟩ := piB_at hk
  rw [e]
  cases k with
  | zero => show 0 < i + 1; omega
  | succ k =>
    obtain ⟨i', a', b', c', e', _⟩ := piB_at (L := L) (k := k) (by omega)
    rw [e']
    have := brTo_lt (L := L) (i := i') (j := i) (by omega)
    omega
theorem piB_gap {L : List It} {k m : Nat} (hk : k < nbB L) (h1 : piB L k < m) (h2 : m < piB L (k + 1)) : mayE L (m - 1) = false := by
  obtain ⟨i, a, b, c, e, _⟩ := piB_at hk
  rw [e] at h2
  cases q : mayE L (m - 1)
  · rfl
  · exfalso
    have h3 := (brTo_at (L := L) (i := m - 1) (m := i) (by omega) q).1
    cases k with
    | zero => omega
    | succ k =>
      obtain ⟨i', a', b', c', e', _⟩ := piB_at (L := L) (k := k) (by omega)
      rw [e'] at h1
      have h4 := (brTo_at (L := L) (i := i') (m := m - 1) (by omega) b').1
      omega
/-! The costs. -/
def gB (C : Int → Int → Int × Bool) (i j : Nat) : Option Int := if (C ((i : Int) - 1) ((j : Int) - 1)).2 = true then some (C ((i : Int) - 1) ((j : Int) - 1)).1 else none
section
variable {L : List It} {C : Int → Int → Int × Bool}
theorem gB_yes {i j : Nat} (e : (C ((i : Int) - 1) ((j : Int) - 1)).2 = true) : gB C i j = some (C ((i : Int) - 1) ((j : Int) - 1)).1 := if_pos e
theorem gB_no {i j : Nat} (e : (C ((i : Int) - 1) ((j : Int) - 1)).2 = false) : gB C i j = none := if_neg (by rw [e]; simp)
theorem gB_of {i j : Nat} {n : Int} (e : gB C i j = some n) : (C ((i : Int) - 1) ((j : Int) - 1)).2 = true ∧ (C ((i : Int) - 1) ((j : Int) - 1)).1 = n := by
  unfold gB at e
  split at e
  · next h => cases e; exact ⟨h, rfl⟩
  · cases e
theorem gB_bd {M : Int} (hM : ∀ a b, -M ≤ (C a b).1 ∧ (C a b).1 ≤ M) {i j : Nat} {n : Int} (e : gB C i j = some n) : -M ≤ n ∧ n ≤ M := by
  obtain ⟨_, e⟩ := gB_of e
  have := hM ((i : Int) - 1) ((j : Int) - 1)
  rwa [e] at this
theorem gB_hasNo (hC : ∀ a b, (C a b).2 = true → hasL L a b = true) {i j : Nat} (h : hasL L ((i : Int) - 1) ((j : Int) - 1) = false) : gB C i j = none := by
  apply gB_no
  cases q : (C ((i : Int) - 1) ((j : Int) - 1)).2
  · rfl
  · have := hC _ _ q; rw [h] at this; cases this
theorem dpB_none (hC : ∀ a b, (C a b).2 = true → hasL L a b = true) {m : Nat} (h0 : 0 < m) (h : mayE L (m - 1) = false) : dpD (gB C) m = none := by
  rw [dpD_succ h0]
  refine bst_none fun i hi => gB_hasNo hC ?_
  obtain ⟨q, rfl⟩ : ∃ q, m = q + 1 := ⟨m - 1, by omega⟩
  rw [show (((q + 1 : Nat) : Int)) - 1 = (q : Int) by omega]
  exact hasL_5 h
theorem afB_of {pl : Nat → Int × Bool} {pi : Nat → Nat} : ∀ {k : Nat}, afN pl pi k = 0 ∨ ∃ k', k' < k ∧ afN pl pi k = pi (k' + 1) ∧ (pl k').2 = true
  | 0 => .inl rfl
  | k + 1 => by
    simp only [afN]
    by_cases h : (pl k).2 = true
    · rw [if_pos h]; exact .inr ⟨k, by omega, rfl, h⟩
    · rw [if_neg h]
      rcases afB_of (pl := pl) (pi := pi) (k := k) with e | ⟨k', a, b, c⟩
      · exact .inl e
      · exact .inr ⟨k', by omega, b, c⟩
theorem hasL_past {i j : Nat} {q f : Nat} (hf : isF (tg L f) = true) (h1 : i ≤ f) (h2 : f < q) : hasL L ((i : Int) - 1) q = false := by
  cases h : hasL L ((i : Int) - 1) q
  · rfl
  · obtain ⟨p, q', e1, e2, e3, e4, _, _, e7⟩ := hasL_of h
    obtain rfl : p = i := by omega
    obtain rfl : q' = q := by omega
    have := (nF_eq (L := L) e3).1 e7 f (by omega) h2
    rw [hf] at this; cases this
theorem piB_mono {k m : Nat} (hm : m ≤ nbB L) (h : k ≤ m) : piB L k ≤ piB L m := by
  induction m with
  | zero => obtain rfl : k = 0 := by omega
            exact Nat.le_refl _
  | succ m ih =>
    rcases (by omega : k = m + 1 ∨ k ≤ m) with e | e
    · subst e; exact Nat.le_refl _
    · have := ih (by omega) e
      have := piB_inc (L := L) (k := m) (by omega)
      omega
theorem isDp_lines (hC : ∀ a b, (C a b).2 = true → hasL L a b = true) : IsDp (fun _ a b => C a b) (-1) (plB L) (nbB L) (gB C) ndB (piB L) where
  one := fun p a t => rfl
  p0 := rfl
  inc := fun k hk => piB_inc hk
  gap := fun k hk m h1 h2 => dpB_none hC (by omega) (piB_gap hk h1 h2)
  n0 := rfl
  at_ := fun k hk => by
    obtain ⟨i, _, _, _, e1, e2⟩ := piB_at hk
    rw [e1, e2]
    show (((i + 1 : Nat) : Int)) - 1 = (i : Int)
    omega
  yes := fun k hk i _ _ _ e => gB_yes e
  no := fun k hk i _ _ _ e => gB_no e
  passed := fun k hk i hi => by
    rcases afB_of (pl := plB L) (pi := piB L) (k := k) with e | ⟨k', a, b, c⟩
    · omega
    · obtain ⟨f, _, _, _, e1, e2⟩ := piB_at (L := L) (k := k') (by omega)
      obtain ⟨q, _, _, _, e3, _⟩ := piB_at hk
      have hm := piB_mono (L := L) (k := k' + 1) (m := k) (by omega) (by omega)
      have hi2 := piB_inc hk
      rw [e2] at c
      apply gB_hasNo hC
      rw [e3, show (((q + 1 : Nat) : Int)) - 1 = (q : Int) by omega]
      exact hasL_past (j := 0) (f := f) c (by omega) (by omega)
theorem okB_last (ok : isOk L = true) : 1 ≤ L.length ∧ isF (tg L (L.length - 1)) = true ∧ mayE L (L.length - 1) = true := by
  obtain ⟨a, ⟨b, b'⟩, c⟩ := isOk_iff.1 ok
  refine ⟨b, decide_eq_true c, ?_⟩
  unfold mayE
  rw [if_neg (by omega), if_pos (by omega)]
  exact decide_eq_true (by omega)
theorem nbB_top (ok : isOk L = true) : 0 < nbB L ∧ piB L (nbB L) = L.length ∧ afN (plB L) (piB L) (nbB L) = piB L (nbB L) ∧ nbB L ≤ L.length := by
  obtain ⟨h1, h2, h3⟩ := okB_last ok
  have hb : brTo L L.length = brTo L (L.length - 1) ++ [((L.length - 1 : Nat) : Int)] := by
    have := brTo_yes h3
    rwa [show L.length - 1 + 1 = L.length by omega] at this
  have hn : nbB L = (brTo L (L.length - 1)).length + 1 := by
    unfold nbB; rw [hb]; simp
  have hg : ng (brTo L L.length) (nbB L - 1) = ((L.length - 1 : Nat) : Int) := by
    rw [hn, hb, Nat.add_sub_cancel]; exact ng_lastB
  have hpl : (plB L (nbB L - 1)).2 = true := by
    show isF (tg L (ng _ _).toNat) = true
    rw [hg]; exact h2
  obtain ⟨m, hm⟩ : ∃ m, nbB L = m + 1 := ⟨nbB L - 1, by omega⟩
  refine ⟨by omega, ?_, ?_, brTo_len L _⟩
  · rw [hm]
    show (ng _ m).toNat + 1 = _
    rw [show m = nbB L - 1 by omega, hg, Int.toNat_natCast]
    omega
  · rw [hm]
    simp only [afN]
    rw [if_pos]
    rw [show m = nbB L - 1 by omega]
    exact hpl
/-! Ways that are checked, and that none are better. -/
theorem bkB_ok : ∀ (m : Nat) {j : Nat} {d : Dn}, j < m → dpD (gB C) j = some d →
    (bkL (gB C) ndB d.2.2 j).length = d.2.2 ∧ frm (-1) (bkL (gB C) ndB d.2.2 j) d.2.2 = (j : Int) - 1 ∧ okT (-1) (bkL (gB C) ndB d.2.2 j) (fun _ a b => C a b) d.2.2 ∧ sto (fun k => (C (frm (-1) (bkL (gB C) ndB d.2.2 j) k) (ng (bkL (gB C) ndB d.2.2 j) k)).1) d.2.2 = d.1
  | 0, _, _, h0, _ => by omega
  | m + 1, j, d, hm, e => by
    rcases Nat.eq_zero_or_pos j with h0 | h0
    · subst h0
      have := dpD_zero_of e
      subst this
      exact ⟨rfl, rfl, fun i hi => by simp at hi, rfl⟩
    · obtain ⟨hb, x, n, e1, e2, e3, e4⟩ := dpD_from h0 e
      obtain ⟨i1, i2, i3, i4⟩ := bkB_ok m (j := d.2.1) (by omega) e1
      have hB : bkL (gB C) ndB d.2.2 j = bkL (gB C) ndB x.2.2 d.2.1 ++ [(j : Int) - 1] := by
        rw [e4]
        show bkL _ _ _ (bfN _ j) ++ _ = _
        rw [bfN_of e]
      obtain ⟨E, hE⟩ : ∃ E, E = bkL (gB C) ndB x.2.2 d.2.1 := ⟨_, rfl⟩
      rw [← hE] at i1 i2 i3 i4 hB
      rw [hB]
      have hp := gB_of e2
      have hl : (E ++ [(j : Int) - 1]).length = E.length + 1 := by simp
      have hfr : frm (-1) (E ++ [(j : Int) - 1]) E.length = (d.2.1 : Int) - 1 := by rw [frm_appB (Nat.le_refl _), i1]; exact i2
      rw [e4, ← i1]
      refine ⟨hl, by rw [frm_succ, ng_lastB], fun i hi => ?_, ?_⟩
      · rcases (by omega : i < E.length ∨ i = E.length) with e5 | e5
        · rw [frm_appB (by omega), ng_appB e5]
          exact i3 i (by omega)
        · subst e5
          rw [hfr, ng_lastB]
          exact hp.1
      · simp only [sto]
        rw [hfr, ng_lastB, hp.2, e3, ← i4, ← i1]
        congr 1
        exact sto_congr (fun k hk => by rw [frm_appB (by omega), ng_appB hk])
theorem okB_least (hC : ∀ a b, (C a b).2 = true → hasL L a b = true) {E : List Int} (hE : okT (-1) E (fun _ a b => C a b) E.length) : ∀ k, k ≤ E.length → ∃ (i : Nat) (d : Dn), frm (-1) E k = (i : Int) - 1 ∧ dpD (gB C) i = some d ∧ d.1 ≤ sto (fun k => (C (frm (-1) E k) (ng E k)).1) k := fun k => by
  induction k with
  | zero => intro _; exact ⟨0, (0, 0, 0), rfl, rfl, Int.le_refl _⟩
  | succ k ih =>
    intro hk
    obtain ⟨i, d, e1, e2, e3⟩ := ih (by omega)
    have f0 := hE k hk
    obtain ⟨p, q, g1, g2, g3, g4, _⟩ := hasL_of (hC _ _ f0)
    obtain rfl : p = i := by omega
    have hq : ng E k = (((q + 1 : Nat) : Int)) - 1 := by omega
    rw [e1, hq] at f0
    obtain ⟨d', k1, k2⟩ := dpD_least (g := gB C) (show p < q + 1 by omega) e2 (gB_yes f0)
    refine ⟨q + 1, d', by rw [frm_succ]; exact hq, k1, ?_⟩
    simp only [sto]
    rw [e1, hq]
    omega
/-- Lines that divide a paragraph end at all forced breaks. -/
theorem okB_forced {E : List Int} (hE : okT (-1) E (fun _ a b => (0, hasL L a b)) E.length) {f : Nat} (hf : isF (tg L f) = true) : ∀ k, k ≤ E.length → (f : Int) ≤ frm (-1) E k → ∃ m, m < E.length ∧ ng E m = f
  | 0, _, h => by rw [frm_zero] at h; omega
  | k + 1, hk, h => by
    rcases (by omega : (f : Int) ≤ frm (-1) E k ∨ frm (-1) E k < (f : Int)) with g | g
    · exact okB_forced hE hf k (by omega) g
    · rw [frm_succ] at h
      rcases (by omega : ng E k = f ∨ (f : Int) < ng E k) with e | e
      · exact ⟨k, by omega, e⟩
      · exfalso
        have f0 : hasL L (frm (-1) E k) (ng E k) = true := hE k (by omega)
        obtain ⟨p, q, g1, g2, g3, g4, _⟩ := hasL_of f0
        rw [g2, show frm (-1) E k = (p : Int) - 1 by omega] at f0
        rw [hasL_past (j := 0) hf (by omega) (by omega)] at f0
        cases f0
end
end Go.Proofs.Ytmncdpiojhgcdaa

/- The exact law on LineCost holds at every input: it answers as its model does and writes into no argument. No condition. -/
namespace Go.Proofs.Ytmncdpiojhgcdaa
open Go.ChangeShapes Go.WideShapes Go.ChangeAt Go.RowKit
set_option linter.unusedVariables false
set_option linter.unusedSimpArgs false

/-- What LineCost answers. -/
noncomputable def coO (L : List It) (a b d t : Int) : Int × Bool := if isOk L then coL L a b d t else (0, false)
theorem coO_no {L : List It} {a b d t : Int} (h : isOk L = false) : coO L a b d t = (0, false) := by simp [coO, h]
theorem coO_yes {L : List It} {a b d t : Int} (h : isOk L = true) : coO L a b d t = coL L a b d t := by simp [coO, h]
theorem coO_non {L : List It} {a b d t : Int} (h : (okL L a b && inB d 1 10000 && inB t 0 10000) = false) : coO L a b d t = (0, false) := by
  cases q : isOk L
  · exact coO_no q
  · rw [coO_yes q]
    refine coL_no ?_
    have h' : (hasL L a b && inB d 1 10000 && inB t 0 10000) = false := by simpa [okL, q] using h
    rw [h']; rfl
set_option maxRecDepth 8000 in
set_option maxHeartbeats 8000000 in
theorem lineCost_s (w : World) (A : Option Addr) (c : Nat) (L : List It) (h : TL w A L.length L) (hall : ∀ i, i < L.length → itOk (tg L i) = true) (hl : L.length ≤ 60) (a : Int) (p q : Nat) (hp : a + 1 = (p : Int)) (d t : Int) (hln : hasL L a q = true) (hd : inB d 1 10000 = true) (ht : inB t 0 10000 = true) :
    Calls Try.prog 65 #[.slice A L.length c, .int .i64 a, .int .i64 q, .int .i64 d, .int .i64 t] w fun e w' => e = .returned (.tuple #[.int .i64 (coL L a q d t).1, .bool (coL L a q d t).2]) ∧ Below w.heap.size w w' := by
  have HI := hide h
  obtain ⟨p', q', hp', hqq, hpq, hq, _, hme, hnf⟩ := hasL_of hln
  obtain rfl : p' = p := by omega
  obtain rfl : q' = q := by omega
  have q0 : (hasL L a q' && inB d 1 10000) = true := by rw [hln, hd]; rfl
  have hp9 := mayE_p hall hq hme
  have ZB := ftL_bad hall q0
  have E := ftL_yes (L := L) (a := a) (b := (q' : Int)) (d := d) q0
  obtain ⟨e1, e2, e3⟩ := lg_eqs (L := L) (q := q') hp
  obtain ⟨b1, b2, b3⟩ := lg_bd (p := p') hall hq (min (fBx L p') q') (Nat.min_le_right _ _)
  rw [e1, e2, e3] at E
  have LG := fun (u : World) (hu : TL u A L.length L) => lineGlue_s u A c L hu hall hl a p' q' hp hpq hq
  rw [stS_min hpq (by omega) hnf] at LG
  obtain ⟨z0, hz0⟩ : ∃ z, z = sW L q' - sW L (min (fBx L p') q') + atW (tg L q') := ⟨_, rfl⟩
  obtain ⟨z1, hz1⟩ : ∃ z, z = sT L q' - sT L (min (fBx L p') q') := ⟨_, rfl⟩
  obtain ⟨z2, hz2⟩ : ∃ z, z = sS L q' - sS L (min (fBx L p') q') := ⟨_, rfl⟩
  rw [← hz0, ← hz1, ← hz2] at E LG
  rw [← hz0] at b1
  rw [← hz1] at b2
  rw [← hz2] at b3
  have HLG := hide LG
  have i1 := cl_in b1
  have i2 := cl_in b2
  have i3 := cl_in b3
  have hd' := inB_iff.1 hd
  have ht' := inB_iff.1 ht
  have FG := fun (u : World) => fitGlue_s (cl z0) (cl z1) (cl z2) d u ⟨by omega, i1.2⟩ i2 i3 ⟨by omega, hd'.2⟩
  rw [← E] at FG
  have CO := fun h => coL_no (L := L) (a := a) (b := (q' : Int)) (d := d) (t := t) h
  have CY := fun h => coL_yes (L := L) (a := a) (b := (q' : Int)) (d := d) (t := t) h
  rw [q0, ht] at CO CY
  obtain ⟨F1, hF1⟩ : ∃ F, F = (ftL L a q' d).1 := ⟨_, rfl⟩
  obtain ⟨F2, hF2⟩ : ∃ F, F = (ftL L a q' d).2 := ⟨_, rfl⟩
  rw [← hF1, ← hF2] at FG CO CY
  rw [← hF2] at ZB
  have HFG := hide FG
  have H0 := HI.out.at6 hq
  clear h E e1 e2 e3 LG hz0 hz1 hz2 FG i1 i2 i3 hd hd' q0 hF1 hF2 hln hme hnf hp'
  rcases (by omega : F1 = 4 ∨ F1 ≠ 4) with h4 | h4
  · subst h4
    have E := hide (CO (by simp))
    clear CO CY H0
    go_enter Try.func65, Try.ntmps65
    go_wp2_with fail; (with_reducible refine (HLG.out _ HI.out).mono ?_); rintro e u1 ⟨rfl, hb⟩; have HB1 := hide hb; clear hb; go_wp2_with fail; (with_reducible refine (clampGlue_s z0 z1 z2 _).mono ?_); rintro e u2 ⟨rfl, hb⟩; have HB2 := hide (bl_call hb HB1.out); clear hb; go_wp2_with fail; (with_reducible refine (HFG.out _).mono ?_); rintro e u3 ⟨rfl, hb⟩; have HB3 := hide (bl_call hb HB2.out); clear hb
    go_wp2
    go_ret2
    exact ⟨by rw [E.out]; rfl, HB3.out⟩
  have g4 : (F1 == 4) = false := beq_eq_false_iff_ne.2 h4
  rcases (by omega : t < F2 ∨ F2 ≤ t) with h5 | h5
  · have E := hide (CO (by rw [decide_eq_false (show ¬ F2 ≤ t by omega)]; simp))
    clear CO CY H0 h4
    go_enter Try.func65, Try.ntmps65
    go_wp2_with fail; (with_reducible refine (HLG.out _ HI.out).mono ?_); rintro e u1 ⟨rfl, hb⟩; have HB1 := hide hb; clear hb; go_wp2_with fail; (with_reducible refine (clampGlue_s z0 z1 z2 _).mono ?_); rintro e u2 ⟨rfl, hb⟩; have HB2 := hide (bl_call hb HB1.out); clear hb; go_wp2_with fail; (with_reducible refine (HFG.out _).mono ?_); rintro e u3 ⟨rfl, hb⟩; have HB3 := hide (bl_call hb HB2.out); clear hb
    go_wp2
    go_ret2
    exact ⟨by rw [E.out]; rfl, HB3.out⟩
  · have E := CY (by rw [decide_eq_true h4, decide_eq_true h5]; rfl)
    obtain ⟨b', o, hA, hb0, _, _, _, _, d4, d5⟩ := H0
    rw [show (q' : Int).toNat = q' from rfl] at E
    obtain ⟨y1, hy1⟩ : ∃ x, x = (tg L q').p := ⟨_, rfl⟩
    obtain ⟨y2, hy2⟩ : ∃ x, x = (tg L q').f := ⟨_, rfl⟩
    rw [← hy1] at d4 hp9 E
    rw [← hy2] at d5 E
    have hg : decide (t < F2) = false := decide_eq_false (by omega)
    have HD := hide (fun (f : Bool) (u : World) => demerits_s F2 y1 f u ZB (by omega) hp9.1 hp9.2)
    have hq2 : (q' : Int) < (L.length : Int) := by omega
    subst hA
    rcases (by omega : a < 0 ∨ 0 ≤ a) with ha | ha
    · have HE : Hid (coL L a q' d t = (dem F2 y1 false, true)) := hide (by rw [E, decide_eq_false (show ¬ (0 ≤ a) by omega)]; rfl)
      have d6 : decide (0 ≤ a) = false := decide_eq_false (by omega)
      clear CO CY h4 hy1 hy2 E
      go_enter Try.func65, Try.ntmps65
      go_wp2_with fail; (with_reducible refine (HLG.out _ HI.out).mono ?_); rintro e u1 ⟨rfl, hb⟩; have HB1 := hide hb; clear hb; go_wp2_with fail; (with_reducible refine (clampGlue_s z0 z1 z2 _).mono ?_); rintro e u2 ⟨rfl, hb⟩; have HB2 := hide (bl_call hb HB1.out); clear hb; go_wp2_with fail; (with_reducible refine (HFG.out _).mono ?_); rintro e u3 ⟨rfl, hb⟩; have HB3 := hide (bl_call hb HB2.out); clear hb
      have d4 := keep_cell HB3.out d4
      have d5 := keep_cell HB3.out d5
      go_upto_region 4 with fail
      have S0 := bl_drew (bl_refl u3)
      refine wp_region_held_drew (S := fun u : World => Below u3.heap.size u3 u) (by kernel_rfl) (S0) (fun hHeld => ?_)
      (first | refine tky 0 (h := ?_) | refine tkn 0 (h := ?_)); (try simp only [Act.put, tkd, tke, tkf]); (first | refine tky 1 (h := ?_) | refine tkn 1 (h := ?_)); (try simp only [Act.put, tkd, tke, tkf]); (first | refine tky 2 (h := ?_) | refine tkn 2 (h := ?_)); (try simp only [Act.put, tkd, tke, tkf]); (first | refine tky 3 (h := ?_) | refine tkn 3 (h := ?_)); (try simp only [Act.put, tkd, tke, tkf]); (first | refine tky 4 (h := ?_) | refine tkn 4 (h := ?_)); (try simp only [Act.put, tkd, tke, tkf]); refine tkY (i := 5) (oi := ?_) (v := ?_) ?_ (by kernel_rfl) ?_ ?_ ?_ (by assumption) ?_; rotate_left 2; (next => simp only [tka, tkb, tkc]; rfl); (next => exact fun _ _ _ h => h); (next => rfl); (next => intro w_ hSw; (try dsimp only at hSw); have d4 := keep_cell hSw d4; go_simp; (try (with_reducible rfl))); (try simp only [Act.put, tkd, tke, tkf]); (first | refine tky 6 (h := ?_) | refine tkn 6 (h := ?_)); (try simp only [Act.put, tkd, tke, tkf]); (first | refine tky 7 (h := ?_) | refine tkn 7 (h := ?_)); (try simp only [Act.put, tkd, tke, tkf]); (first | refine tky 8 (h := ?_) | refine tkn 8 (h := ?_)); (try simp only [Act.put, tkd, tke, tkf])
      (first | refine tky 9 (h := ?_) | refine tkn 9 (h := ?_)); (try simp only [Act.put, tkd, tke, tkf])
      (first | refine tky 10 (h := ?_) | refine tkn 10 (h := ?_)); (try simp only [Act.put, tkd, tke, tkf])
      (first | refine tky 11 (h := ?_) | refine tkn 11 (h := ?_)); (try simp only [Act.put, tkd, tke, tkf])
      (first | refine tky 12 (h := ?_) | refine tkn 12 (h := ?_)); (try simp only [Act.put, tkd, tke, tkf])
      (first | refine tky 13 (h := ?_) | refine tkn 13 (h := ?_)); (try simp only [Act.put, tkd, tke, tkf])
      (first | refine tky 14 (h := ?_) | refine tkn 14 (h := ?_)); (try simp only [Act.put, tkd, tke, tkf])
      (first | refine tky 15 (h := ?_) | refine tkn 15 (h := ?_)); (try simp only [Act.put, tkd, tke, tkf])
      (first | refine tky 16 (h := ?_) | refine tkn 16 (h := ?_)); (try simp only [Act.put, tkd, tke, tkf])
      (first | refine tky 17 (h := ?_) | refine tkn 17 (h := ?_)); (try simp only [Act.put, tkd, tke, tkf])
      (first | refine tky 18 (h := ?_) | refine tkn 18 (h := ?_)); (try simp only [Act.put, tkd, tke, tkf])
      (first | refine tky 19 (h := ?_) | refine tkn 19 (h := ?_)); (try simp only [Act.put, tkd, tke, tkf])
      (first | refine tky 20 (h := ?_) | refine tkn 20 (h := ?_)); (try simp only [Act.put, tkd, tke, tkf])
      (first | refine tky 21 (h := ?_) | refine tkn 21 (h := ?_)); (try simp only [Act.put, tkd, tke, tkf])
      refine wpAnyH_ready (rs := [22]) (by kernel_rfl) (by simp) ?_; refine AllReadyH.cons (o := ?_) ?_ (fun K hK => ?_) AllReadyH.nil; rotate_left 1; (next => simp only [List.getElem?_toArray, List.getElem?_cons_succ, List.getElem?_cons_zero]; rfl); go_simp; (go_at_call 109; (with_reducible refine (HD.out _ _).mono ?_); rintro e w' ⟨rfl, rfl⟩)
      (try go_wp2_with fail); refine hK.out _ _ (S0) (fun hHeld => ?_); clear hK K; (try simp only [Act.put, List.setIfInBounds_toArray, List.set_cons_zero, List.set_cons_succ])
      (first | refine tky 23 (h := ?_) | refine tkn 23 (h := ?_)); (try simp only [Act.put, tkd, tke, tkf])
      (first | refine tky 24 (h := ?_) | refine tkn 24 (h := ?_)); (try simp only [Act.put, tkd, tke, tkf])
      refine wpAnyH_done (by kernel_rfl) ?_ _
      go_wp2
      go_ret2
      exact ⟨by rw [HE.out]; rfl, bl_drew HB3.out⟩
    · obtain ⟨m, rfl⟩ : ∃ m : Nat, a = (m : Int) := ⟨a.toNat, by omega⟩
      have hm : m < L.length := by omega
      obtain ⟨b2, o2, hA, hb2, _, _, _, _, e4, e5⟩ := HI.out.at6 hm
      injection hA with hA
      cases hA
      obtain ⟨x2, hx2⟩ : ∃ x, x = (tg L m).f := ⟨_, rfl⟩
      rw [show ((m : Nat) : Int).toNat = m from rfl, ← hx2, decide_eq_true ha, Bool.true_and] at E
      rw [← hx2] at e5
      have hm2 : (m : Int) < (L.length : Int) := by omega
      have d6 : decide ((0 : Int) ≤ (m : Int)) = true := decide_eq_true (by omega)
      have HE := hide E
      clear CO CY h4 hy1 hy2 E e4 hx2
      cases x2
      · go_enter Try.func65, Try.ntmps65
        go_wp2_with fail; (with_reducible refine (HLG.out _ HI.out).mono ?_); rintro e u1 ⟨rfl, hb⟩; have HB1 := hide hb; clear hb; go_wp2_with fail; (with_reducible refine (clampGlue_s z0 z1 z2 _).mono ?_); rintro e u2 ⟨rfl, hb⟩; have HB2 := hide (bl_call hb HB1.out); clear hb; go_wp2_with fail; (with_reducible refine (HFG.out _).mono ?_); rintro e u3 ⟨rfl, hb⟩; have HB3 := hide (bl_call hb HB2.out); clear hb
        have d4 := keep_cell HB3.out d4
        have d5 := keep_cell HB3.out d5
        have e5 := keep_cell HB3.out e5
        go_upto_region 4 with fail
        have S0 := bl_drew (bl_refl u3)
        refine wp_region_held_drew (S := fun u : World => Below u3.heap.size u3 u) (by kernel_rfl) (S0) (fun hHeld => ?_)
        (first | refine tky 0 (h := ?_) | refine tkn 0 (h := ?_)); (try simp only [Act.put, tkd, tke, tkf]); (first | refine tky 1 (h := ?_) | refine tkn 1 (h := ?_)); (try simp only [Act.put, tkd, tke, tkf]); (first | refine tky 2 (h := ?_) | refine tkn 2 (h := ?_)); (try simp only [Act.put, tkd, tke, tkf]); (first | refine tky 3 (h := ?_) | refine tkn 3 (h := ?_)); (try simp only [Act.put, tkd, tke, tkf]); (first | refine tky 4 (h := ?_) | refine tkn 4 (h := ?_)); (try simp only [Act.put, tkd, tke, tkf]); refine tkY (i := 5) (oi := ?_) (v := ?_) ?_ (by kernel_rfl) ?_ ?_ ?_ (by assumption) ?_; rotate_left 2; (next => simp only [tka, tkb, tkc]; rfl); (next => exact fun _ _ _ h => h); (next => rfl); (next => intro w_ hSw; (try dsimp only at hSw); have d4 := keep_cell hSw d4; go_simp; (try (with_reducible rfl))); (try simp only [Act.put, tkd, tke, tkf]); (first | refine tky 6 (h := ?_) | refine tkn 6 (h := ?_)); (try simp only [Act.put, tkd, tke, tkf]); (first | refine tky 7 (h := ?_) | refine tkn 7 (h := ?_)); (try simp only [Act.put, tkd, tke, tkf]); (first | refine tky 8 (h := ?_) | refine tkn 8 (h := ?_)); (try simp only [Act.put, tkd, tke, tkf])
        (first | refine tky 9 (h := ?_) | refine tkn 9 (h := ?_)); (try simp only [Act.put, tkd, tke, tkf])
        (first | refine tky 10 (h := ?_) | refine tkn 10 (h := ?_)); (try simp only [Act.put, tkd, tke, tkf])
        (first | refine tky 11 (h := ?_) | refine tkn 11 (h := ?_)); (try simp only [Act.put, tkd, tke, tkf])
        (first | refine tky 12 (h := ?_) | refine tkn 12 (h := ?_)); (try simp only [Act.put, tkd, tke, tkf])
        refine tkY (i := 13) (oi := ?_) (v := ?_) ?_ (by kernel_rfl) ?_ ?_ ?_ (by assumption) ?_; rotate_left 2; (next => simp only [tka, tkb, tkc]; rfl); (next => exact fun _ _ _ h => h); (next => rfl); (next => intro w_ hSw; (try dsimp only at hSw); have e5 := keep_cell hSw e5; go_simp; (try (with_reducible rfl))); (try simp only [Act.put, tkd, tke, tkf])
        (first | refine tky 14 (h := ?_) | refine tkn 14 (h := ?_)); (try simp only [Act.put, tkd, tke, tkf])
        (first | refine tky 15 (h := ?_) | refine tkn 15 (h := ?_)); (try simp only [Act.put, tkd, tke, tkf])
        (first | refine tky 16 (h := ?_) | refine tkn 16 (h := ?_)); (try simp only [Act.put, tkd, tke, tkf])
        (first | refine tky 17 (h := ?_) | refine tkn 17 (h := ?_)); (try simp only [Act.put, tkd, tke, tkf])
        (first | refine tky 18 (h := ?_) | refine tkn 18 (h := ?_)); (try simp only [Act.put, tkd, tke, tkf])
        (first | refine tky 19 (h := ?_) | refine tkn 19 (h := ?_)); (try simp only [Act.put, tkd, tke, tkf])
        (first | refine tky 20 (h := ?_) | refine tkn 20 (h := ?_)); (try simp only [Act.put, tkd, tke, tkf])
        (first | refine tky 21 (h := ?_) | refine tkn 21 (h := ?_)); (try simp only [Act.put, tkd, tke, tkf])
        refine wpAnyH_ready (rs := [22]) (by kernel_rfl) (by simp) ?_; refine AllReadyH.cons (o := ?_) ?_ (fun K hK => ?_) AllReadyH.nil; rotate_left 1; (next => simp only [List.getElem?_toArray, List.getElem?_cons_succ, List.getElem?_cons_zero]; rfl); go_simp; (go_at_call 109; (with_reducible refine (HD.out _ _).mono ?_); rintro e w' ⟨rfl, rfl⟩)
        (try go_wp2_with fail); refine hK.out _ _ (S0) (fun hHeld => ?_); clear hK K; (try simp only [Act.put, List.setIfInBounds_toArray, List.set_cons_zero, List.set_cons_succ])
        (first | refine tky 23 (h := ?_) | refine tkn 23 (h := ?_)); (try simp only [Act.put, tkd, tke, tkf])
        (first | refine tky 24 (h := ?_) | refine tkn 24 (h := ?_)); (try simp only [Act.put, tkd, tke, tkf])
        refine wpAnyH_done (by kernel_rfl) ?_ _
        go_wp2
        go_ret2
        exact ⟨by rw [HE.out]; first | done | rfl, bl_drew HB3.out⟩
      · go_enter Try.func65, Try.ntmps65
        go_wp2_with fail; (with_reducible refine (HLG.out _ HI.out).mono ?_); rintro e u1 ⟨rfl, hb⟩; have HB1 := hide hb; clear hb; go_wp2_with fail; (with_reducible refine (clampGlue_s z0 z1 z2 _).mono ?_); rintro e u2 ⟨rfl, hb⟩; have HB2 := hide (bl_call hb HB1.out); clear hb; go_wp2_with fail; (with_reducible refine (HFG.out _).mono ?_); rintro e u3 ⟨rfl, hb⟩; have HB3 := hide (bl_call hb HB2.out); clear hb
        have d4 := keep_cell HB3.out d4
        have d5 := keep_cell HB3.out d5
        have e5 := keep_cell HB3.out e5
        go_upto_region 4 with fail
        have S0 := bl_drew (bl_refl u3)
        refine wp_region_held_drew (S := fun u : World => Below u3.heap.size u3 u) (by kernel_rfl) (S0) (fun hHeld => ?_)
        (first | refine tky 0 (h := ?_) | refine tkn 0 (h := ?_)); (try simp only [Act.put, tkd, tke, tkf]); (first | refine tky 1 (h := ?_) | refine tkn 1 (h := ?_)); (try simp only [Act.put, tkd, tke, tkf]); (first | refine tky 2 (h := ?_) | refine tkn 2 (h := ?_)); (try simp only [Act.put, tkd, tke, tkf]); (first | refine tky 3 (h := ?_) | refine tkn 3 (h := ?_)); (try simp only [Act.put, tkd, tke, tkf]); (first | refine tky 4 (h := ?_) | refine tkn 4 (h := ?_)); (try simp only [Act.put, tkd, tke, tkf]); refine tkY (i := 5) (oi := ?_) (v := ?_) ?_ (by kernel_rfl) ?_ ?_ ?_ (by assumption) ?_; rotate_left 2; (next => simp only [tka, tkb, tkc]; rfl); (next => exact fun _ _ _ h => h); (next => rfl); (next => intro w_ hSw; (try dsimp only at hSw); have d4 := keep_cell hSw d4; go_simp; (try (with_reducible rfl))); (try simp only [Act.put, tkd, tke, tkf]); (first | refine tky 6 (h := ?_) | refine tkn 6 (h := ?_)); (try simp only [Act.put, tkd, tke, tkf]); (first | refine tky 7 (h := ?_) | refine tkn 7 (h := ?_)); (try simp only [Act.put, tkd, tke, tkf]); (first | refine tky 8 (h := ?_) | refine tkn 8 (h := ?_)); (try simp only [Act.put, tkd, tke, tkf])
        (first | refine tky 9 (h := ?_) | refine tkn 9 (h := ?_)); (try simp only [Act.put, tkd, tke, tkf])
        (first | refine tky 10 (h := ?_) | refine tkn 10 (h := ?_)); (try simp only [Act.put, tkd, tke, tkf])
        (first | refine tky 11 (h := ?_) | refine tkn 11 (h := ?_)); (try simp only [Act.put, tkd, tke, tkf])
        (first | refine tky 12 (h := ?_) | refine tkn 12 (h := ?_)); (try simp only [Act.put, tkd, tke, tkf])
        refine tkY (i := 13) (oi := ?_) (v := ?_) ?_ (by kernel_rfl) ?_ ?_ ?_ (by assumption) ?_; rotate_left 2; (next => simp only [tka, tkb, tkc]; rfl); (next => exact fun _ _ _ h => h); (next => rfl); (next => intro w_ hSw; (try dsimp only at hSw); have e5 := keep_cell hSw e5; go_simp; (try (with_reducible rfl))); (try simp only [Act.put, tkd, tke, tkf])
        (first | refine tky 14 (h := ?_) | refine tkn 14 (h := ?_)); (try simp only [Act.put, tkd, tke, tkf])
        (first | refine tky 15 (h := ?_) | refine tkn 15 (h := ?_)); (try simp only [Act.put, tkd, tke, tkf])
        (first | refine tky 16 (h := ?_) | refine tkn 16 (h := ?_)); (try simp only [Act.put, tkd, tke, tkf])
        (first | refine tky 17 (h := ?_) | refine tkn 17 (h := ?_)); (try simp only [Act.put, tkd, tke, tkf])
        (first | refine tky 18 (h := ?_) | refine tkn 18 (h := ?_)); (try simp only [Act.put, tkd, tke, tkf])
        (first | refine tky 19 (h := ?_) | refine tkn 19 (h := ?_)); (try simp only [Act.put, tkd, tke, tkf])
        refine tkY (i := 20) (oi := ?_) (v := ?_) ?_ (by kernel_rfl) ?_ ?_ ?_ (by assumption) ?_; rotate_left 2; (next => simp only [tka, tkb, tkc]; rfl); (next => exact fun _ _ _ h => h); (next => rfl); (next => intro w_ hSw; (try dsimp only at hSw); have d5 := keep_cell hSw d5; go_simp; (try (with_reducible rfl))); (try simp only [Act.put, tkd, tke, tkf])
        (first | refine tky 21 (h := ?_) | refine tkn 21 (h := ?_)); (try simp only [Act.put, tkd, tke, tkf])
        refine wpAnyH_ready (rs := [22]) (by kernel_rfl) (by simp) ?_; refine AllReadyH.cons (o := ?_) ?_ (fun K hK => ?_) AllReadyH.nil; rotate_left 1; (next => simp only [List.getElem?_toArray, List.getElem?_cons_succ, List.getElem?_cons_zero]; rfl); go_simp; (go_at_call 109; (with_reducible refine (HD.out _ _).mono ?_); rintro e w' ⟨rfl, rfl⟩)
        (try go_wp2_with fail); refine hK.out _ _ (S0) (fun hHeld => ?_); clear hK K; (try simp only [Act.put, List.setIfInBounds_toArray, List.set_cons_zero, List.set_cons_succ])
        (first | refine tky 23 (h := ?_) | refine tkn 23 (h := ?_)); (try simp only [Act.put, tkd, tke, tkf])
        (first | refine tky 24 (h := ?_) | refine tkn 24 (h := ?_)); (try simp only [Act.put, tkd, tke, tkf])
        refine wpAnyH_done (by kernel_rfl) ?_ _
        go_wp2
        go_ret2
        exact ⟨by rw [HE.out]; first | done | rfl | (simp; done), bl_drew HB3.out⟩
set_option maxHeartbeats 4000000 in
theorem LineCost_s (w : World) (A : Option Addr) (n c : Nat) (L : List It) (h : TL w A n L) (hn : n ≤ 1048576) (a b d t : Int) (wa : -9223372036854775808 ≤ a ∧ a ≤ 9223372036854775807) (wb : -9223372036854775808 ≤ b ∧ b ≤ 9223372036854775807) :
    Calls Try.prog 81 #[.slice A n c, .int .i64 a, .int .i64 b, .int .i64 d, .int .i64 t] w fun e w' => e = .returned (.tuple #[.int .i64 (coO L a b d t).1, .bool (coO L a b d t).2]) ∧ Below w.heap.size w w' := by
  have VL := hide (validLine_s w A n c L h hn a b wa wb)
  obtain rfl : n = L.length := h.1
  have HI := hide h
  clear h wa wb
  cases hol : okL L a b
  · have E := hide (coO_non (L := L) (a := a) (b := b) (d := d) (t := t) (by simp [hol]))
    rw [hol] at VL
    clear hol
    go_enter Try.func81, Try.ntmps81
    go_wp2_with fail
    (with_reducible refine VL.out.mono ?_)
    rintro e u1 ⟨rfl, hb⟩
    have HB1 := hide hb
    clear hb
    go_wp2
    go_ret2
    exact ⟨by rw [E.out]; rfl, HB1.out⟩
  cases q1 : inB d 1 10000
  · have E := hide (coO_non (L := L) (a := a) (b := b) (d := d) (t := t) (by simp [q1]))
    rw [hol] at VL
    clear hol
    go_enter Try.func81, Try.ntmps81
    go_wp2_with fail
    (with_reducible refine VL.out.mono ?_)
    rintro e u1 ⟨rfl, hb⟩
    have HB1 := hide hb
    clear hb
    go_wp2_with (go_at_call 61; refine (validWidth_ss _ _).mono ?_; rintro e w' ⟨rfl, rfl⟩)
    go_ret2
    exact ⟨by rw [E.out]; rfl, HB1.out⟩
  cases q2 : inB t 0 10000
  · have E := hide (coO_non (L := L) (a := a) (b := b) (d := d) (t := t) (by simp [q2]))
    rw [hol] at VL
    clear hol
    go_enter Try.func81, Try.ntmps81
    go_wp2_with fail
    (with_reducible refine VL.out.mono ?_)
    rintro e u1 ⟨rfl, hb⟩
    have HB1 := hide hb
    clear hb
    go_wp2_with (first | (go_at_call 61; refine (validWidth_ss _ _).mono ?_; rintro e w' ⟨rfl, rfl⟩) | (go_at_call 62; refine (inRange_any _ _ _ _).mono ?_; rintro e w' ⟨rfl, rfl⟩))
    go_ret2
    exact ⟨by rw [E.out]; rfl, HB1.out⟩
  · rw [hol] at VL
    have hh := hol
    simp only [okL, Bool.and_eq_true] at hh
    obtain ⟨p, q, hp, rfl, hpq, hq, _⟩ := hasL_of hh.2
    have OK := isOk_iff.1 hh.1
    rw [coO_yes hh.1]
    have HLC := hide (fun (u : World) (hu : TL u A L.length L) => lineCost_s u A c L hu OK.1 OK.2.1.2 a p q hp d t hh.2 q1 q2)
    clear hol hh OK hp
    go_enter Try.func81, Try.ntmps81
    go_wp2_with fail
    (with_reducible refine VL.out.mono ?_)
    rintro e u1 ⟨rfl, hb⟩
    have HB1 := hide hb
    have HI1 := hide (HI.out.below hb)
    clear hb
    go_wp2_with (first | (go_at_call 61; refine (validWidth_ss _ _).mono ?_; rintro e w' ⟨rfl, rfl⟩) | (go_at_call 62; refine (inRange_any _ _ _ _).mono ?_; rintro e w' ⟨rfl, rfl⟩))
    (with_reducible refine (HLC.out _ HI1.out).mono ?_)
    rintro e u2 ⟨rfl, hb⟩
    have HB2 := hide (bl_call hb HB1.out)
    clear hb
    go_wp2
    go_ret2
    exact ⟨rfl, HB2.out⟩
end Go.Proofs.Ytmncdpiojhgcdaa

/- What given breaks cost: pure maths. -/
namespace Go.Proofs.Ytmncdpiojhgcdaa
open Go.ChangeShapes Go.WideShapes Go.ChangeAt Go.RowKit
set_option linter.unusedVariables false
open Classical

theorem okL_eq {L : List It} {a b : Int} (h : isOk L = true) : okL L a b = hasL L a b := by simp [okL, h]
theorem coO_has {L : List It} {a b d t : Int} (h : (coO L a b d t).2 = true) : isOk L = true := by
  cases q : isOk L
  · rw [coO_no q] at h; cases h
  · rfl
theorem coO_bd {L : List It} (a b d t : Int) : -200000000 ≤ (coO L a b d t).1 ∧ (coO L a b d t).1 ≤ 200000000 := by
  cases q : isOk L
  · rw [coO_no q]; simp
  · rw [coO_yes q]; exact coL_bd (isOk_iff.1 q).1 a b d t
def okW (E : List Int) : Prop := ∀ k, k < E.length → -9223372036854775808 ≤ ng E k ∧ ng E k ≤ 9223372036854775807
theorem frm_wf {E : List Int} (h : okW E) : ∀ {k : Nat}, k ≤ E.length → -9223372036854775808 ≤ frm (-1) E k ∧ frm (-1) E k ≤ 9223372036854775807
  | 0, _ => by rw [frm_zero]; omega
  | k + 1, hk => by rw [frm_succ]; exact h k (by omega)
/-- Breaks end with the last item. -/
def endB (L : List It) (E : List Int) : Bool := decide (frm (-1) E E.length = (L.length : Int) - 1)
theorem frm_last {E : List Int} (h : 0 < E.length) : frm (-1) E E.length = ng E (E.length - 1) := by
  obtain ⟨k, hk⟩ : ∃ k, E.length = k + 1 := ⟨E.length - 1, by omega⟩
  rw [hk, frm_succ]; rfl
/-- What a total of lines is. -/
noncomputable def cbV (L : List It) (E : List Int) (C : Nat → Int → Int → Int × Bool) : Int × Bool := if isOk L && endB L E then toO (-1) E C else (0, false)
section
variable {L : List It} {E : List Int} {C : Nat → Int → Int → Int × Bool}
theorem cbV_no (h : (isOk L && endB L E) = false) : cbV L E C = (0, false) := by unfold cbV; rw [h]; rfl
theorem cbV_yes (h : (isOk L && endB L E) = true) : cbV L E C = toO (-1) E C := by unfold cbV; rw [h]; rfl
theorem cbV_bad {k : Nat} (hk : k < E.length) (h : isOk L = true → (C k (frm (-1) E k) (ng E k)).2 = false) : cbV L E C = (0, false) := by
  cases q : (isOk L && endB L E)
  · exact cbV_no q
  · rw [cbV_yes q]
    refine toO_no fun x => ?_
    have h1 := x k hk
    rw [h ((Bool.and_eq_true _ _).mp q).1] at h1
    cases h1
theorem cbV_true (h : (cbV L E C).2 = true) : isOk L = true ∧ endB L E = true ∧ okT (-1) E C E.length ∧ (cbV L E C).1 = sto (fun j => (C j (frm (-1) E j) (ng E j)).1) E.length := by
  cases q : (isOk L && endB L E)
  · rw [cbV_no q] at h; cases h
  · obtain ⟨a, b⟩ := (Bool.and_eq_true _ _).mp q
    rw [cbV_yes q] at h ⊢
    by_cases o : okT (-1) E C E.length
    · exact ⟨a, b, o, by rw [toO_yes o]⟩
    · rw [toO_no o] at h; cases h
theorem cbV_of (h1 : isOk L = true) (h2 : endB L E = true) (h3 : okT (-1) E C E.length) : cbV L E C = (sto (fun j => (C j (frm (-1) E j) (ng E j)).1) E.length, true) := by
  rw [cbV_yes (by rw [h1, h2]; rfl), toO_yes h3]
theorem cbV_congr {C' : Nat → Int → Int → Int × Bool} (h : isOk L = true → ∀ j a b, C j a b = C' j a b) : cbV L E C = cbV L E C' := by
  cases q : (isOk L && endB L E)
  · rw [cbV_no q, cbV_no q]
  · have := h ((Bool.and_eq_true _ _).mp q).1
    rw [show C = C' from funext fun j => funext fun a => funext fun b => this j a b]
theorem endB_nil (h : 1 ≤ L.length) : endB L [] = false := decide_eq_false (by show ¬ ((-1 : Int) = _); omega)
end
/-- What CheckBreaks answers. -/
noncomputable def cbO (L : List It) (d t : Int) (E : List Int) : Int × Bool := cbV L E (fun _ a b => coO L a b d t)
/-- What ValidBreaks answers. -/
noncomputable def vbO (L : List It) (E : List Int) : Bool := (cbV L E (fun _ a b => (0, okL L a b))).2
theorem cbO_eq (L : List It) (d t : Int) (E : List Int) : cbO L d t E = cbV L E (fun _ a b => coL L a b d t) := cbV_congr fun h _ a b => coO_yes h
theorem vbO_eq (L : List It) (E : List Int) : vbO L E = (cbV L E (fun _ a b => (0, hasL L a b))).2 := by
  unfold vbO
  rw [cbV_congr (C' := fun _ a b => (0, hasL L a b)) fun h _ a b => by rw [okL_eq h]]
/-- What BestBreaks answers. -/
noncomputable def bbV (L : List It) (d t : Int) : List Int × Int × Bool := if isOk L then dpR (gB (fun a b => coL L a b d t)) ndB L.length else ([], 0, false)
theorem bbV_no {L : List It} {d t : Int} (h : isOk L = false) : bbV L d t = ([], 0, false) := by unfold bbV; rw [h]; rfl
theorem bbV_yes {L : List It} {d t : Int} (h : isOk L = true) : bbV L d t = dpR (gB (fun a b => coL L a b d t)) ndB L.length := by unfold bbV; rw [if_pos h]
theorem bbV_arg {L : List It} {d t : Int} (h : (inB d 1 10000 && inB t 0 10000) = false) : bbV L d t = ([], 0, false) := by
  cases q : isOk L
  · exact bbV_no q
  · rw [bbV_yes q]
    have h1 := (isOk_iff.1 q).2.1.1
    unfold dpR
    rw [dpD_succ (by omega), bst_none]
    intro i hi
    apply gB_no
    cases e : (coL L ((i : Int) - 1) ((L.length : Int) - 1) d t).2
    · rfl
    · have := coL_has e
      rw [this.2.1, this.2.2] at h; cases h
theorem cl_has {L : List It} {d t : Int} : ∀ a b, (coL L a b d t).2 = true → hasL L a b = true := fun _ _ h => (coL_has h).1
theorem bkB_in {L : List It} {C : Int → Int → Int × Bool} : ∀ (n : Nat) {j : Nat} {d : Dn}, d.2.2 = n → dpD (gB C) j = some d → ∀ x ∈ bkL (gB C) ndB n j, -1 ≤ x ∧ x < (j : Int)
  | 0, _, _, _, _, x, hx => by simp [bkL] at hx
  | n + 1, j, d, hn, e, x, hx => by
    have hj0 : 0 < j := by
      rcases Nat.eq_zero_or_pos j with e0 | e0
      · subst e0
        have := dpD_zero_of e
        subst this
        simp at hn
      · exact e0
    obtain ⟨h1, y, v, h2, h3, h4, h5⟩ := dpD_from hj0 e
    simp only [bkL, List.mem_append, List.mem_singleton] at hx
    rw [bfN_of e] at hx
    rcases hx with hx | hx
    · have := bkB_in (L := L) n (j := d.2.1) (d := y) (by omega) h2 x hx
      omega
    · rw [hx]
      show -1 ≤ (j : Int) - 1 ∧ (j : Int) - 1 < (j : Int)
      omega
theorem bbV_len {L : List It} {d t : Int} : (bbV L d t).1.length ≤ 60 ∧ okW (bbV L d t).1 := by
  cases q : isOk L
  · rw [bbV_no q]; exact ⟨by simp, fun k hk => by simp at hk⟩
  · rw [bbV_yes q]
    have h1 := (isOk_iff.1 q).2.1.2
    unfold dpR
    cases e : dpD (gB fun a b => coL L a b d t) L.length with
    | none => exact ⟨by simp, fun k hk => by simp at hk⟩
    | some x =>
      have hb := (dpD_bd (g := gB fun a b => coL L a b d t) (M := 200000000) (fun i j n e => gB_bd (fun a b => coL_bd (isOk_iff.1 q).1 a b d t) e) (L.length + 1) (Nat.lt_succ_self _) e).1
      have hl := (bkB_ok (C := fun a b => coL L a b d t) (L.length + 1) (Nat.lt_succ_self _) e).1
      refine ⟨by simp only [hl]; omega, fun k hk => ?_⟩
      have := bkB_in (L := L) x.2.2 rfl e _ (ng_mem hk)
      simp only at this ⊢
      omega
/-- Best breaks are checked. -/
theorem bb_check {L : List It} {d t : Int} (e : (bbV L d t).2.2 = true) : isOk L = true ∧ cbO L d t (bbV L d t).1 = ((bbV L d t).2.1, true) ∧ vbO L (bbV L d t).1 = true := by
  cases q : isOk L
  · rw [bbV_no q] at e; cases e
  · rw [bbV_yes q] at e ⊢
    unfold dpR at e ⊢
    cases dn : dpD (gB fun a b => coL L a b d t) L.length with
    | none => rw [dn] at e; cases e
    | some x =>
      obtain ⟨a, b, c, f⟩ := bkB_ok (C := fun a b => coL L a b d t) (L.length + 1) (Nat.lt_succ_self _) dn
      show true = true ∧ cbO L d t (bkL _ _ _ _) = (x.1, true) ∧ vbO L (bkL _ _ _ _) = true
      obtain ⟨E, hE⟩ : ∃ E, E = bkL (gB fun a b => coL L a b d t) ndB x.2.2 L.length := ⟨_, rfl⟩
      rw [← hE] at a b c f ⊢
      rw [← a] at b c f
      have he : endB L E = true := decide_eq_true b
      refine ⟨rfl, ?_, ?_⟩
      · rw [cbO_eq, cbV_of q he c, f]
      · rw [vbO_eq, cbV_of q he (fun j hj => (coL_has (c j hj)).1)]
theorem bb_least {L : List It} {d t : Int} {E : List Int} (h : (cbO L d t E).2 = true) : (bbV L d t).2.2 = true ∧ (bbV L d t).2.1 ≤ (cbO L d t E).1 := by
  rw [cbO_eq] at h ⊢
  obtain ⟨a, b, c, e⟩ := cbV_true h
  obtain ⟨i, x, e1, e2, e3⟩ := okB_least (L := L) (C := fun a b => coL L a b d t) cl_has c E.length (Nat.le_refl _)
  have hb := of_decide_eq_true b
  obtain rfl : i = L.length := by omega
  rw [bbV_yes a, e]
  unfold dpR
  rw [e2]
  exact ⟨rfl, e3⟩
theorem vb_forced {L : List It} {E : List Int} (h : vbO L E = true) {f : Nat} (hl : f < L.length) (hf : isF (tg L f) = true) : ∃ m, m < E.length ∧ ng E m = f := by
  rw [vbO_eq] at h
  obtain ⟨a, b, c, _⟩ := cbV_true h
  have := of_decide_eq_true b
  exact okB_forced c hf E.length (Nat.le_refl _) (by omega)
end Go.Proofs.Ytmncdpiojhgcdaa
