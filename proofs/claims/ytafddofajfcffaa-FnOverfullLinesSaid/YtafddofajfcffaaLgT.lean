/- The lengths and boxes of lines, in the model. -/
import Derived.Test.YtafddofajfcffaaLgS
namespace Go.Proofs.Ytafddofajfcffaa
open Go.ChangeShapes Go.WideShapes Go.ChangeAt Go.RowKit
set_option linter.unusedVariables false
set_option linter.unusedSimpArgs false

set_option maxRecDepth 8000 in
set_option maxHeartbeats 4000000 in
theorem lineGlue_s (w : World) (A : Option Addr) (c : Nat) (L : List It) (h : TL w A L.length L) (hall : ∀ i, i < L.length → itOk (tg L i) = true) (hl : L.length ≤ 60) (a : Int) (p q : Nat) (hp : a + 1 = (p : Int)) (hpl : p ≤ q) (hq : q < L.length) :
    Calls Try.prog 90 #[.slice A L.length c, .int .i64 a, .int .i64 q] w fun e w' => e = .returned (gv (sW L q - sW L (min (stS L p) q) + atW (tg L q)) (sT L q - sT L (min (stS L p) q)) (sS L q - sS L (min (stS L p) q))) ∧ Below w.heap.size w w' := by
  have HST := hide (lineStart_s ((w.alloc (.cells #[.int .i64 0, .int .i64 0, .int .i64 0] 70)).alloc (.cells #[.int .i64 0, .int .i64 0, .int .i64 0] 70)) A c L ((h.alloc _).alloc _) (by omega) a p hp (by omega))
  have hst := stS_in (L := L) (p := p) (by omega)
  obtain ⟨st, hs⟩ : ∃ st, st = stS L p := ⟨_, rfl⟩
  rw [← hs] at hst HST ⊢
  obtain ⟨hst1, hst2⟩ := hst
  obtain ⟨m, hmm⟩ : ∃ m, m = min st q := ⟨_, rfl⟩
  rw [← hmm]
  obtain ⟨x0, hx0⟩ : ∃ y, y = sW L q - sW L m := ⟨_, rfl⟩
  obtain ⟨x1, hx1⟩ : ∃ y, y = sT L q - sT L m := ⟨_, rfl⟩
  obtain ⟨x2, hx2⟩ : ∃ y, y = sS L q - sS L m := ⟨_, rfl⟩
  obtain ⟨z, hz⟩ : ∃ y, y = atW (tg L q) := ⟨_, rfl⟩
  rw [← hx0, ← hx1, ← hx2, ← hz]
  have hmq : m ≤ q := by omega
  have bq := s_bd hall (k := q) (by omega)
  have bs := s_bd hall (k := m) (by omega)
  have bx : -1000000 ≤ x0 ∧ x0 ≤ 1000000 := by omega
  obtain ⟨bx1, bx2⟩ := bx
  have HVV := hide (show m = min st q ∧ x0 = sW L q - sW L m ∧ x1 = sT L q - sT L m ∧ x2 = sS L q - sS L m ∧ z = atW (tg L q) from ⟨hmm, hx0, hx1, hx2, hz⟩)
  clear hmm hx0 hx1 hx2 hz bq bs
  have HI := hide h
  have HALL := hide hall
  have r0 : (w.alloc (.cells #[.int .i64 0, .int .i64 0, .int .i64 0] 70)).cell? ⟨w.heap.size, 0, none⟩ = some (.int .i64 0) := by simp [go_sem]
  have r1 : (w.alloc (.cells #[.int .i64 0, .int .i64 0, .int .i64 0] 70)).cell? ⟨w.heap.size, 1, none⟩ = some (.int .i64 0) := by simp [go_sem]
  have r2 : (w.alloc (.cells #[.int .i64 0, .int .i64 0, .int .i64 0] 70)).cell? ⟨w.heap.size, 2, none⟩ = some (.int .i64 0) := by simp [go_sem]
  have f0 : (w.alloc (.cells #[.int .i64 0, .int .i64 0, .int .i64 0] 70)).frozen? ⟨w.heap.size, 0, none⟩ = false := by simp [go_sem]
  have f1 : (w.alloc (.cells #[.int .i64 0, .int .i64 0, .int .i64 0] 70)).frozen? ⟨w.heap.size, 1, none⟩ = false := by simp [go_sem]
  have f2 : (w.alloc (.cells #[.int .i64 0, .int .i64 0, .int .i64 0] 70)).frozen? ⟨w.heap.size, 2, none⟩ = false := by simp [go_sem]
  have zw : (w.alloc (.cells #[.int .i64 0, .int .i64 0, .int .i64 0] 70)).heap.size = w.heap.size + 1 := by simp
  have HBW := hide (bl_alloc (bl_refl w) (.cells #[.int .i64 0, .int .i64 0, .int .i64 0] 70))
  have o0 : ((w.alloc (.cells #[.int .i64 0, .int .i64 0, .int .i64 0] 70)).alloc (.cells #[.int .i64 0, .int .i64 0, .int .i64 0] 70)).cell? ⟨w.heap.size + 1, 0, none⟩ = some (.int .i64 0) := by simp [go_sem]
  have o1 : ((w.alloc (.cells #[.int .i64 0, .int .i64 0, .int .i64 0] 70)).alloc (.cells #[.int .i64 0, .int .i64 0, .int .i64 0] 70)).cell? ⟨w.heap.size + 1, 1, none⟩ = some (.int .i64 0) := by simp [go_sem]
  have o2 : ((w.alloc (.cells #[.int .i64 0, .int .i64 0, .int .i64 0] 70)).alloc (.cells #[.int .i64 0, .int .i64 0, .int .i64 0] 70)).cell? ⟨w.heap.size + 1, 2, none⟩ = some (.int .i64 0) := by simp [go_sem]
  have g0 : ((w.alloc (.cells #[.int .i64 0, .int .i64 0, .int .i64 0] 70)).alloc (.cells #[.int .i64 0, .int .i64 0, .int .i64 0] 70)).frozen? ⟨w.heap.size + 1, 0, none⟩ = false := by simp [go_sem]
  have g1 : ((w.alloc (.cells #[.int .i64 0, .int .i64 0, .int .i64 0] 70)).alloc (.cells #[.int .i64 0, .int .i64 0, .int .i64 0] 70)).frozen? ⟨w.heap.size + 1, 1, none⟩ = false := by simp [go_sem]
  have g2 : ((w.alloc (.cells #[.int .i64 0, .int .i64 0, .int .i64 0] 70)).alloc (.cells #[.int .i64 0, .int .i64 0, .int .i64 0] 70)).frozen? ⟨w.heap.size + 1, 2, none⟩ = false := by simp [go_sem]
  have HB2 : Hid (Below (w.heap.size + 1) (w.alloc (.cells #[.int .i64 0, .int .i64 0, .int .i64 0] 70)) ((w.alloc (.cells #[.int .i64 0, .int .i64 0, .int .i64 0] 70)).alloc (.cells #[.int .i64 0, .int .i64 0, .int .i64 0] 70))) := hide (by have := bl_alloc (bl_refl (w.alloc (.cells #[.int .i64 0, .int .i64 0, .int .i64 0] 70))) (.cells #[.int .i64 0, .int .i64 0, .int .i64 0] 70); rwa [zw] at this)
  clear hp hs h hall
  go_enter Try.func90, Try.ntmps90
  go_wp2_with fail
  (with_reducible refine HST.out.mono ?_)
  rintro e w' ⟨rfl, rfl⟩
  go_wp2
  clear HST
  go_loopw [8] (fun i u => ∃ k : Nat, st ≤ k ∧ (k ≤ q ∨ k = st) ∧ i = .int .i64 k ∧ u.cell? ⟨w.heap.size + 1, 0, none⟩ = some (.int .i64 (sW L k - sW L st)) ∧ u.cell? ⟨w.heap.size + 1, 1, none⟩ = some (.int .i64 (sT L k - sT L st)) ∧ u.cell? ⟨w.heap.size + 1, 2, none⟩ = some (.int .i64 (sS L k - sS L st)) ∧ Below (w.heap.size + 1) (w.alloc (.cells #[.int .i64 0, .int .i64 0, .int .i64 0] 70)) u ∧ (u.frozen? ⟨w.heap.size + 1, 0, none⟩ = false ∧ u.frozen? ⟨w.heap.size + 1, 1, none⟩ = false ∧ u.frozen? ⟨w.heap.size + 1, 2, none⟩ = false) ∧ w.heap.size + 1 < u.heap.size) (fun i _ => q - (intOf i).toNat)
  case atStart => exact ⟨st, Nat.le_refl _, .inr rfl, rfl, by rw [o0, Int.sub_self], by rw [o1, Int.sub_self], by rw [o2, Int.sub_self], HB2.out, ⟨g0, g1, g2⟩, by simp⟩
  case round =>
    obtain ⟨k, hk1, hk2, rfl, p0, p1, p2, hbl, ⟨g0, g1, g2⟩, hz⟩ := hrel
    clear o0 o1 o2
    have HBL := hide hbl
    have HB := hide ((hbl.mono (Nat.le_succ _)).mono (Nat.le_refl _))
    have HIr := hide (HI.out.below ((hbl.mono (Nat.le_succ _)) |> fun x => (show Below w.heap.size w wr from (HBW.out.trans x))))
    by_cases hlt : k < q
    · have hkl : k < L.length := by omega
      have bk := s_bd HALL.out (k := k) (by omega)
      have bs := s_bd HALL.out (k := st) (by omega)
      have bm := s_mono HALL.out (a := st) (k := k) (by omega) (by omega)
      have bi := in_bd HALL.out hkl
      obtain ⟨b, o, rfl, hb0, c0, c1, c2, c3, c4, c5⟩ := HI.out.at6 hkl
      have hbw : Below w.heap.size w wr := HBW.out.trans (hbl.mono (Nat.le_succ _))
      have c0 := (hbw.cell (p := ⟨b, o + k * 6, none⟩) hb0).trans c0
      have c1 := (hbw.cell (p := ⟨b, o + k * 6 + 1, none⟩) hb0).trans c1
      have c2 := (hbw.cell (p := ⟨b, o + k * 6 + 2, none⟩) hb0).trans c2
      have c3 := (hbw.cell (p := ⟨b, o + k * 6 + 3, none⟩) hb0).trans c3
      have IO := iok_iff.1 (HALL.out k hkl)
      have eW : sW L (k + 1) = sW L k + inW (tg L k) := rfl
      have eT : sT L (k + 1) = sT L k + inT (tg L k) := rfl
      have eS : sS L (k + 1) = sS L k + inS (tg L k) := rfl
      have hkl2 : (k : Int) < (L.length : Int) := by omega
      rcases (show (tg L k).k = 3 ∨ ((tg L k).k ≠ 3 ∧ inW (tg L k) = (tg L k).w ∧ inT (tg L k) = (tg L k).st ∧ inS (tg L k) = (tg L k).sh) by
          unfold inW inT inS
          rcases IO with x | x | x
          · right; rw [if_neg (by omega), if_neg (by omega), if_neg (by omega)]; omega
          · right; rw [if_neg (by omega), if_pos (by omega), if_pos (by omega)]; omega
          · left; omega) with h3 | ⟨h3, e1, e2, e3⟩
      · have N0 : Hid (sW L (k + 1) = sW L k ∧ sT L (k + 1) = sT L k ∧ sS L (k + 1) = sS L k) := hide (by
          rw [eW, eT, eS]
          unfold inW inT inS
          rw [if_pos h3, if_neg (by omega), if_neg (by omega)]; omega)
        rw [h3] at c0
        clear IO eW eT eS h3 bk bs bm bi c1 c2 c3 c4 c5 hbw
        go_wp2
        go_roundw
        case rel => exact ⟨k + 1, by omega, .inl (by omega), by go_num, by rw [N0.out.1]; exact p0, by rw [N0.out.2.1]; exact p1, by rw [N0.out.2.2]; exact p2, HBL.out, ⟨g0, g1, g2⟩, hz⟩
        case measure => simp [intOf]; omega
      · have g3 : ((tg L k).k != 3) = true := bne_iff_ne.2 h3
        obtain ⟨x, hx⟩ : ∃ x, x = (tg L k).k := ⟨_, rfl⟩
        rw [← hx] at c0 g3
        obtain ⟨y0, hy0⟩ : ∃ y, y = (tg L k).w := ⟨_, rfl⟩
        obtain ⟨y1, hy1⟩ : ∃ y, y = (tg L k).st := ⟨_, rfl⟩
        obtain ⟨y2, hy2⟩ : ∃ y, y = (tg L k).sh := ⟨_, rfl⟩
        rw [← hy0] at c1
        rw [← hy1] at c2
        rw [← hy2] at c3
        obtain ⟨u0, hu0⟩ : ∃ y, y = sW L k - sW L st := ⟨_, rfl⟩
        obtain ⟨u1, hu1⟩ : ∃ y, y = sT L k - sT L st := ⟨_, rfl⟩
        obtain ⟨u2, hu2⟩ : ∃ y, y = sS L k - sS L st := ⟨_, rfl⟩
        rw [← hu0] at p0
        rw [← hu1] at p1
        rw [← hu2] at p2
        have N0 := hide (show sW L (k + 1) - sW L st = u0 + y0 ∧ sT L (k + 1) - sT L st = u1 + y1 ∧ sS L (k + 1) - sS L st = u2 + y2 by
          rw [eW, eT, eS, e1, e2, e3]; omega)
        have HA := hide (addGlue_big u0 u1 u2 y0 y1 y2)
        have bb : (-1000000 ≤ u0 ∧ u0 ≤ 1000000) ∧ (-1000000 ≤ u1 ∧ u1 ≤ 1000000) ∧ (-1000000 ≤ u2 ∧ u2 ≤ 1000000) ∧ (-1000000 ≤ y0 ∧ y0 ≤ 1000000) ∧ (-1000000 ≤ y1 ∧ y1 ≤ 1000000) ∧ (-1000000 ≤ y2 ∧ y2 ≤ 1000000) := by omega
        have HBB := hide bb
        clear IO eW eT eS h3 bk bs bm bi c4 c5 hbw e1 e2 e3 hx hy0 hy1 hy2 hu0 hu1 hu2 bb
        go_upto_region 6 with fail
        have S0 := bl_drew (bl_refl wr)
        refine wp_region_held_drew (S := fun u : World => Below (w.heap.size + 1) wr u) (by kernel_rfl) (S0.mono (Nat.le_of_lt hz)) (fun hHeld => ?_)
        (first | (refine tkY (i := 1) (oi := ?_) (v := ?_) ?_ (by kernel_rfl) ?_ ?_ ?_ (by assumption) ?_; rotate_left 2; (next => simp only [tka, tkb, tkc]; rfl); (next => exact fun _ _ _ h => h); (next => rfl); (next => intro w hSw; (try dsimp only at hSw); go_simp; (try (with_reducible rfl)))) | (refine tkN (i := 1) (oi := ?_) ?_ (by kernel_rfl) ?_ ?_ (by assumption) ?_; rotate_left 1; (next => simp only [tka, tkb, tkc]; rfl); (next => exact fun _ _ _ h => h); (next => rfl))); (try simp only [Act.put, tkd, tke, tkf])
        (first | (refine tkY (i := 2) (oi := ?_) (v := ?_) ?_ (by kernel_rfl) ?_ ?_ ?_ (by assumption) ?_; rotate_left 2; (next => simp only [tka, tkb, tkc]; rfl); (next => exact fun _ _ _ h => h); (next => rfl); (next => intro w hSw; (try dsimp only at hSw); go_simp; (try (with_reducible rfl)))) | (refine tkN (i := 2) (oi := ?_) ?_ (by kernel_rfl) ?_ ?_ (by assumption) ?_; rotate_left 1; (next => simp only [tka, tkb, tkc]; rfl); (next => exact fun _ _ _ h => h); (next => rfl))); (try simp only [Act.put, tkd, tke, tkf])
        (first | (refine tkY (i := 3) (oi := ?_) (v := ?_) ?_ (by kernel_rfl) ?_ ?_ ?_ (by assumption) ?_; rotate_left 2; (next => simp only [tka, tkb, tkc]; rfl); (next => exact fun _ _ _ h => h); (next => rfl); (next => intro w hSw; (try dsimp only at hSw); go_simp; (try (with_reducible rfl)))) | (refine tkN (i := 3) (oi := ?_) ?_ (by kernel_rfl) ?_ ?_ (by assumption) ?_; rotate_left 1; (next => simp only [tka, tkb, tkc]; rfl); (next => exact fun _ _ _ h => h); (next => rfl))); (try simp only [Act.put, tkd, tke, tkf])
        (first | (refine tkY (i := 4) (oi := ?_) (v := ?_) ?_ (by kernel_rfl) ?_ ?_ ?_ (by assumption) ?_; rotate_left 2; (next => simp only [tka, tkb, tkc]; rfl); (next => exact fun _ _ _ h => h); (next => rfl); (next => intro w hSw; (try dsimp only at hSw); go_simp; (try (with_reducible rfl)))) | (refine tkN (i := 4) (oi := ?_) ?_ (by kernel_rfl) ?_ ?_ (by assumption) ?_; rotate_left 1; (next => simp only [tka, tkb, tkc]; rfl); (next => exact fun _ _ _ h => h); (next => rfl))); (try simp only [Act.put, tkd, tke, tkf])
        refine tkY (i := 5) (oi := ?_) (v := ?_) ?_ (by kernel_rfl) ?_ ?_ ?_ (by assumption) ?_; rotate_left 2; (next => simp only [tka, tkb, tkc]; rfl); (next => exact fun _ _ _ h => h); (next => rfl); (next => intro w_ hSw; (try dsimp only at hSw); have c1 := (hSw.cell (p := ⟨b, o + k * 6 + 1, none⟩) (Nat.lt_succ_of_lt hb0)).trans c1; have c2 := (hSw.cell (p := ⟨b, o + k * 6 + 2, none⟩) (Nat.lt_succ_of_lt hb0)).trans c2; have c3 := (hSw.cell (p := ⟨b, o + k * 6 + 3, none⟩) (Nat.lt_succ_of_lt hb0)).trans c3; go_simp; (try (with_reducible rfl))); (try simp only [Act.put, tkd, tke, tkf])
        refine wpAnyH_ready (rs := [0]) (by kernel_rfl) (by simp) ?_; refine AllReadyH.cons (o := ?_) ?_ (fun K hK => ?_) AllReadyH.nil; rotate_left 1; (next => simp only [List.getElem?_toArray, List.getElem?_cons_succ, List.getElem?_cons_zero]; rfl); go_simp
        (try go_wp2_with fail); refine hK.out _ _ (S0.mono (Nat.le_of_lt hz)) (fun hHeld => ?_); clear hK K; (try simp only [Act.put, List.setIfInBounds_toArray, List.set_cons_zero, List.set_cons_succ])
        refine wpAnyH_ready (rs := [6]) (by kernel_rfl) (by simp) ?_; refine AllReadyH.cons (o := ?_) ?_ (fun K hK => ?_) AllReadyH.nil; rotate_left 1; (next => simp only [List.getElem?_toArray, List.getElem?_cons_succ, List.getElem?_cons_zero]; rfl); go_simp
        (go_at_call 133; (with_reducible refine (HA.out _ HBB.out.1 HBB.out.2.1 HBB.out.2.2.1 HBB.out.2.2.2.1 HBB.out.2.2.2.2.1 HBB.out.2.2.2.2.2).mono ?_); rintro e W1 ⟨rfl, hb⟩)
        have S1 : Below wr.heap.size wr W1 := bl_call hb S0
        have p0 := keep_cell S1 p0
        have p1 := keep_cell S1 p1
        have p2 := keep_cell S1 p2
        have g0 := (S1.frozen (p := ⟨w.heap.size + 1, 0, none⟩) hz).trans g0
        have g1 := (S1.frozen (p := ⟨w.heap.size + 1, 1, none⟩) hz).trans g1
        have g2 := (S1.frozen (p := ⟨w.heap.size + 1, 2, none⟩) hz).trans g2
        have hz1 := Nat.lt_of_lt_of_le hz S1.size
        have S1m := S1.mono (Nat.le_of_lt hz)
        clear hb
        (try go_wp2_with fail); refine hK.out _ _ (S1m) (fun hHeld => ?_); clear hK K; (try simp only [Act.put, List.setIfInBounds_toArray, List.set_cons_zero, List.set_cons_succ])
        refine wpAnyH_ready (rs := [7]) (by kernel_rfl) (by simp) ?_; refine AllReadyH.cons (o := ?_) ?_ (fun K hK => ?_) AllReadyH.nil; rotate_left 1; (next => simp only [List.getElem?_toArray, List.getElem?_cons_succ, List.getElem?_cons_zero]; rfl); go_simp
        (try go_wp2_with fail); refine hK.out _ _ (((S1m.setCell (Nat.le_refl _) _).setCell (Nat.le_refl _) _).setCell (Nat.le_refl _) _) (fun hHeld => ?_); clear hK K; (try simp only [Act.put, List.setIfInBounds_toArray, List.set_cons_zero, List.set_cons_succ])
        refine wpAnyH_done (by kernel_rfl) ?_ _
        go_wp2
        go_roundw
        case rel => exact ⟨k + 1, by omega, .inl (by omega), by go_num, by rw [N0.out.1]; simp [go_sem, *], by rw [N0.out.2.1]; simp [go_sem, *], by rw [N0.out.2.2]; simp [go_sem, *], HBL.out.trans (((S1m.setCell (Nat.le_refl _) _).setCell (Nat.le_refl _) _).setCell (Nat.le_refl _) _), ⟨by simp [go_sem, *], by simp [go_sem, *], by simp [go_sem, *]⟩, by simpa using hz1⟩
        case measure => simp [intOf]; omega
    · obtain ⟨hmm, hx0, hx1, hx2, hzz⟩ := HVV.out
      have hv : sW L k - sW L st = x0 ∧ sT L k - sT L st = x1 ∧ sS L k - sS L st = x2 := by
        rw [hx0, hx1, hx2]
        rcases hk2 with e | e
        · have e' : k = q := by omega
          have e2 : m = st := by omega
          rw [e2, e']; exact ⟨rfl, rfl, rfl⟩
        · have e2 : m = q := by omega
          rw [e2, e]; simp
      rw [hv.1] at p0
      rw [hv.2.1] at p1
      rw [hv.2.2] at p2
      obtain ⟨b, o, rfl, hb0, c0, c1, c2, c3, c4, c5⟩ := HI.out.at6 hq
      have hbw : Below w.heap.size w wr := HBW.out.trans (hbl.mono (Nat.le_succ _))
      have c0 := (hbw.cell (p := ⟨b, o + q * 6, none⟩) hb0).trans c0
      have c1 := (hbw.cell (p := ⟨b, o + q * 6 + 1, none⟩) hb0).trans c1
      have zl : w.heap.size < (w.alloc (.cells #[.int .i64 0, .int .i64 0, .int .i64 0] 70)).heap.size := by simp
      have zs : w.heap.size < w.heap.size + 1 := by omega
      have r0 := (hbl.cell (p := ⟨w.heap.size, 0, none⟩) zs).trans r0
      have r1 := (hbl.cell (p := ⟨w.heap.size, 1, none⟩) zs).trans r1
      have r2 := (hbl.cell (p := ⟨w.heap.size, 2, none⟩) zs).trans r2
      have f0 := (hbl.frozen (p := ⟨w.heap.size, 0, none⟩) zs).trans f0
      have f1 := (hbl.frozen (p := ⟨w.heap.size, 1, none⟩) zs).trans f1
      have f2 := (hbl.frozen (p := ⟨w.heap.size, 2, none⟩) zs).trans f2
      have IO := iok_iff.1 (HALL.out q hq)
      have hql2 : (q : Int) < (L.length : Int) := by omega
      have HBF : Hid (Below w.heap.size w wr) := hide hbw
      rcases (show ((tg L q).k = 3 ∧ atW (tg L q) = (tg L q).w ∧ 0 ≤ (tg L q).w ∧ (tg L q).w ≤ 1000) ∨ ((tg L q).k ≠ 3 ∧ atW (tg L q) = 0) by
          unfold atW
          rcases IO with x | x | x
          · right; rw [if_neg (by omega)]; omega
          · right; rw [if_neg (by omega)]; omega
          · left; rw [if_pos (by omega)]; omega) with ⟨h3, e1, b1, b2⟩ | ⟨h3, e1⟩
      · rw [h3] at c0
        obtain ⟨y, hy⟩ : ∃ y, y = (tg L q).w := ⟨_, rfl⟩
        rw [← hy] at c1 b1 b2
        obtain rfl : z = y := by rw [hzz, e1, hy]
        clear IO hv hmm hbw c2 c3 c4 c5 h3 e1 hy hx0 hx1 hx2 hbl hk2 hzz
        go_upto_region 8 with fail
        have S0 := bl_drew (bl_refl wr)
        refine wp_region_held_drew (S := fun u : World => Below (w.heap.size + 1) wr u) (by kernel_rfl) (S0.mono (Nat.le_of_lt hz)) (fun hHeld => ?_)
        (first | (refine tkY (i := 0) (oi := ?_) (v := ?_) ?_ (by kernel_rfl) ?_ ?_ ?_ (by assumption) ?_; rotate_left 2; (next => simp only [tka, tkb, tkc]; rfl); (next => exact fun _ _ _ h => h); (next => rfl); (next => intro w hSw; (try dsimp only at hSw); go_simp; (try (with_reducible rfl)))) | (refine tkN (i := 0) (oi := ?_) ?_ (by kernel_rfl) ?_ ?_ (by assumption) ?_; rotate_left 1; (next => simp only [tka, tkb, tkc]; rfl); (next => exact fun _ _ _ h => h); (next => rfl))); (try simp only [Act.put, tkd, tke, tkf])
        (first | (refine tkY (i := 2) (oi := ?_) (v := ?_) ?_ (by kernel_rfl) ?_ ?_ ?_ (by assumption) ?_; rotate_left 2; (next => simp only [tka, tkb, tkc]; rfl); (next => exact fun _ _ _ h => h); (next => rfl); (next => intro w hSw; (try dsimp only at hSw); go_simp; (try (with_reducible rfl)))) | (refine tkN (i := 2) (oi := ?_) ?_ (by kernel_rfl) ?_ ?_ (by assumption) ?_; rotate_left 1; (next => simp only [tka, tkb, tkc]; rfl); (next => exact fun _ _ _ h => h); (next => rfl))); (try simp only [Act.put, tkd, tke, tkf])
        (first | (refine tkY (i := 3) (oi := ?_) (v := ?_) ?_ (by kernel_rfl) ?_ ?_ ?_ (by assumption) ?_; rotate_left 2; (next => simp only [tka, tkb, tkc]; rfl); (next => exact fun _ _ _ h => h); (next => rfl); (next => intro w hSw; (try dsimp only at hSw); go_simp; (try (with_reducible rfl)))) | (refine tkN (i := 3) (oi := ?_) ?_ (by kernel_rfl) ?_ ?_ (by assumption) ?_; rotate_left 1; (next => simp only [tka, tkb, tkc]; rfl); (next => exact fun _ _ _ h => h); (next => rfl))); (try simp only [Act.put, tkd, tke, tkf])
        (first | (refine tkY (i := 4) (oi := ?_) (v := ?_) ?_ (by kernel_rfl) ?_ ?_ ?_ (by assumption) ?_; rotate_left 2; (next => simp only [tka, tkb, tkc]; rfl); (next => exact fun _ _ _ h => h); (next => rfl); (next => intro w hSw; (try dsimp only at hSw); go_simp; (try (with_reducible rfl)))) | (refine tkN (i := 4) (oi := ?_) ?_ (by kernel_rfl) ?_ ?_ (by assumption) ?_; rotate_left 1; (next => simp only [tka, tkb, tkc]; rfl); (next => exact fun _ _ _ h => h); (next => rfl))); (try simp only [Act.put, tkd, tke, tkf])
        (first | (refine tkY (i := 5) (oi := ?_) (v := ?_) ?_ (by kernel_rfl) ?_ ?_ ?_ (by assumption) ?_; rotate_left 2; (next => simp only [tka, tkb, tkc]; rfl); (next => exact fun _ _ _ h => h); (next => rfl); (next => intro w hSw; (try dsimp only at hSw); go_simp; (try (with_reducible rfl)))) | (refine tkN (i := 5) (oi := ?_) ?_ (by kernel_rfl) ?_ ?_ (by assumption) ?_; rotate_left 1; (next => simp only [tka, tkb, tkc]; rfl); (next => exact fun _ _ _ h => h); (next => rfl))); (try simp only [Act.put, tkd, tke, tkf])
        (first | (refine tkY (i := 6) (oi := ?_) (v := ?_) ?_ (by kernel_rfl) ?_ ?_ ?_ (by assumption) ?_; rotate_left 2; (next => simp only [tka, tkb, tkc]; rfl); (next => exact fun _ _ _ h => h); (next => rfl); (next => intro w hSw; (try dsimp only at hSw); go_simp; (try (with_reducible rfl)))) | (refine tkN (i := 6) (oi := ?_) ?_ (by kernel_rfl) ?_ ?_ (by assumption) ?_; rotate_left 1; (next => simp only [tka, tkb, tkc]; rfl); (next => exact fun _ _ _ h => h); (next => rfl))); (try simp only [Act.put, tkd, tke, tkf])
        refine tkY (i := 7) (oi := ?_) (v := ?_) ?_ (by kernel_rfl) ?_ ?_ ?_ (by assumption) ?_; rotate_left 2; (next => simp only [tka, tkb, tkc]; rfl); (next => exact fun _ _ _ h => h); (next => rfl); (next => intro w_ hSw; (try dsimp only at hSw); have c1 := (hSw.cell (p := ⟨b, o + q * 6 + 1, none⟩) (Nat.lt_succ_of_lt hb0)).trans c1; go_simp; (try (with_reducible rfl))); (try simp only [Act.put, tkd, tke, tkf])
        refine wpAnyH_ready (rs := [1]) (by kernel_rfl) (by simp) ?_; refine AllReadyH.cons (o := ?_) ?_ (fun K hK => ?_) AllReadyH.nil; rotate_left 1; (next => simp only [List.getElem?_toArray, List.getElem?_cons_succ, List.getElem?_cons_zero]; rfl); go_simp
        (try go_wp2_with fail); refine hK.out _ _ (S0.mono (Nat.le_of_lt hz)) (fun hHeld => ?_); clear hK K; (try simp only [Act.put, List.setIfInBounds_toArray, List.set_cons_zero, List.set_cons_succ])
        (first | (refine tkY (i := 8) (oi := ?_) (v := ?_) ?_ (by kernel_rfl) ?_ ?_ ?_ (by assumption) ?_; rotate_left 2; (next => simp only [tka, tkb, tkc]; rfl); (next => exact fun _ _ _ h => h); (next => rfl); (next => intro w hSw; (try dsimp only at hSw); go_simp; (try (with_reducible rfl)))) | (refine tkN (i := 8) (oi := ?_) ?_ (by kernel_rfl) ?_ ?_ (by assumption) ?_; rotate_left 1; (next => simp only [tka, tkb, tkc]; rfl); (next => exact fun _ _ _ h => h); (next => rfl))); (try simp only [Act.put, tkd, tke, tkf])
        (first | (refine tkY (i := 9) (oi := ?_) (v := ?_) ?_ (by kernel_rfl) ?_ ?_ ?_ (by assumption) ?_; rotate_left 2; (next => simp only [tka, tkb, tkc]; rfl); (next => exact fun _ _ _ h => h); (next => rfl); (next => intro w hSw; (try dsimp only at hSw); go_simp; (try (with_reducible rfl)))) | (refine tkN (i := 9) (oi := ?_) ?_ (by kernel_rfl) ?_ ?_ (by assumption) ?_; rotate_left 1; (next => simp only [tka, tkb, tkc]; rfl); (next => exact fun _ _ _ h => h); (next => rfl))); (try simp only [Act.put, tkd, tke, tkf])
        refine wpAnyH_ready (rs := [10]) (by kernel_rfl) (by simp) ?_; refine AllReadyH.cons (o := ?_) ?_ (fun K hK => ?_) AllReadyH.nil; rotate_left 1; (next => simp only [List.getElem?_toArray, List.getElem?_cons_succ, List.getElem?_cons_zero]; rfl); go_simp
        (try go_wp2_with fail); refine hK.out _ _ ((S0.mono (Nat.le_of_lt hz)).setCell (Nat.le_refl _) _) (fun hHeld => ?_); clear hK K; (try simp only [Act.put, List.setIfInBounds_toArray, List.set_cons_zero, List.set_cons_succ])
        refine wpAnyH_done (by kernel_rfl) ?_ _
        go_wp2
        refine bodyPost_ret (v := gv (x0 + z) x1 x2) (by simp [results, Try.results90, go_sem, *]) rfl ⟨rfl, ?_⟩
        exact bl_set (bl_set (bl_set (bl_set (bl_drew HBF.out) (Nat.le_succ _) _) (Nat.le_refl _) _) (Nat.le_refl _) _) (Nat.le_refl _) _
      · have g3 : ((tg L q).k == 3) = false := beq_eq_false_iff_ne.2 h3
        obtain ⟨x, hx⟩ : ∃ x, x = (tg L q).k := ⟨_, rfl⟩
        rw [← hx] at c0 g3
        obtain rfl : z = 0 := by rw [hzz, e1]
        clear IO hv hmm hbw c2 c3 c4 c5 h3 e1 hx hx0 hx1 hx2 hbl hk2 hzz
        go_wp2
        refine bodyPost_ret (v := gv (x0 + 0) x1 x2) (by simp [results, Try.results90, go_sem, *]) rfl ⟨rfl, ?_⟩
        exact bl_set (bl_set (bl_set HBF.out (Nat.le_refl _) _) (Nat.le_refl _) _) (Nat.le_refl _) _
end Go.Proofs.Ytafddofajfcffaa
