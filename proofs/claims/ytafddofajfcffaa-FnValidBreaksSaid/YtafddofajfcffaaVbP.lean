/- The law that valid breaks are ascending breaks holds for every code. No condition. -/
import Derived.Test.YtafddofajfcffaaQa
import Derived.Test.YtafddofajfcffaaDrawCb
import Derived.Test.YtafddofajfcffaaQg
import Derived.Deep.RegionHeld3
namespace Go.Proofs.Ytafddofajfcffaa
open Go.ChangeShapes Go.WideShapes Go.ChangeAt Go.RowKit
set_option linter.unusedVariables false
set_option linter.unusedSimpArgs false
set_option maxRecDepth 4000
open Classical

theorem fbTo_inV {L : List It} : ∀ {k : Nat} {x : Int}, x ∈ fbTo L k → ∃ j : Nat, x = (j : Int) ∧ j < k ∧ isF (tg L j) = true
  | 0, x, h => by simp [fbTo] at h
  | k + 1, x, h => by
    simp only [fbTo] at h
    by_cases hb : isF (tg L k) = true
    · rw [if_pos hb, List.mem_append] at h
      rcases h with h | h
      · obtain ⟨j, a, b, c⟩ := fbTo_inV h
        exact ⟨j, a, by omega, c⟩
      · simp at h
        exact ⟨k, h, by omega, hb⟩
    · rw [if_neg hb] at h
      obtain ⟨j, a, b, c⟩ := fbTo_inV h
      exact ⟨j, a, by omega, c⟩
theorem cnt_le {E : List Int} {m : Int} : E.countP (fun x => decide (x < m)) ≤ E.countP (fun x => decide (x < m + 1)) :=
  List.countP_mono_left fun x _ h => decide_eq_true (by have := of_decide_eq_true h; omega)
theorem cnt_step {E : List Int} {m : Int} (h : m ∈ E) : E.countP (fun x => decide (x < m)) + 1 ≤ E.countP (fun x => decide (x < m + 1)) := by
  induction E with
  | nil => simp at h
  | cons a E ih =>
    rw [List.countP_cons, List.countP_cons]
    rcases List.mem_cons.1 h with e | e
    · subst e
      have := cnt_le (E := E) (m := m)
      rw [if_neg (by simp), if_pos (by simp; omega)]
      omega
    · have := ih e
      by_cases q : a < m
      · rw [if_pos (by simpa using q), if_pos (by simp; omega)]; omega
      · rw [if_neg (by simpa using q)]; split <;> omega
theorem fbTo_cnt {L : List It} {E : List Int} {n : Nat} (h : ∀ j, j < n → isF (tg L j) = true → (j : Int) ∈ E) : ∀ {k : Nat}, k ≤ n → (fbTo L k).length ≤ E.countP (fun x => decide (x < (k : Int)))
  | 0, _ => by simp [fbTo]
  | k + 1, hk => by
    have IH := fbTo_cnt h (k := k) (by omega)
    have e : (((k + 1 : Nat) : Int)) = (k : Int) + 1 := by omega
    rw [e]
    simp only [fbTo]
    by_cases q : isF (tg L k) = true
    · rw [if_pos q, List.length_append]
      have := cnt_step (h k (by omega) q)
      simp
      omega
    · rw [if_neg q]
      have := cnt_le (E := E) (m := (k : Int))
      omega
theorem vb_all {L : List It} {E : List Int} (h : vbO L E = true) : (∀ k, k < E.length → ng E k ∈ brO L ∧ (0 < k → ng E (k - 1) < ng E k)) ∧ (∀ k, k < (fba L).length → ng (fba L) k ∈ E) ∧ (fba L).length ≤ E.length := by
  have h0 := h
  rw [vbO_eq] at h
  obtain ⟨a, b, c, _⟩ := cbV_true h
  have hin : ∀ j, j < L.length → isF (tg L j) = true → (j : Int) ∈ E := fun j hj hf => by
    obtain ⟨m, hm, e⟩ := vb_forced h0 hj hf
    rw [← e]; exact ng_mem hm
  refine ⟨fun k hk => ?_, fun k hk => ?_, ?_⟩
  · have f0 : hasL L (frm (-1) E k) (ng E k) = true := c k hk
    obtain ⟨p, q, g1, g2, g3, g4, _, g6, _⟩ := hasL_of f0
    refine ⟨?_, fun h1 => ?_⟩
    · rw [brO_yes a, g2, ← (brTo_at (L := L) (i := q) (m := L.length) g4 g6).2]
      exact ng_mem (brTo_at (L := L) (i := q) (m := L.length) g4 g6).1
    · obtain ⟨m, rfl⟩ : ∃ m, k = m + 1 := ⟨k - 1, by omega⟩
      rw [frm_succ] at g1
      rw [Nat.add_sub_cancel]
      omega
  · have h1 := ng_mem hk
    obtain ⟨z, hz⟩ : ∃ z, z = ng (fba L) k := ⟨_, rfl⟩
    rw [← hz] at h1 ⊢
    rw [fba_yes a] at h1
    obtain ⟨j, a', b', c'⟩ := fbTo_inV h1
    rw [a']; exact hin j b' c'
  · rw [fba_yes a]
    exact Nat.le_trans (fbTo_cnt hin (Nat.le_refl _)) List.countP_le_length
set_option maxHeartbeats 4000000 in
theorem walk_FnValidBreaks (a : Option Addr) (n c : Nat) (zs : List Int) (w : World) (hr : IsRow .u8 w a n c zs) :
    Calls Try.prog 12 #[.slice a n c] w fun e w' => e = .returned (.bool true) ∧ Below w.heap.size w w' := by
  have hm := small_row hr
  unfold maxLen at hm
  rcases (by omega : 1048576 < n ∨ n ≤ 1048576) with hn | hn
  · go_enter Try.func12, Try.ntmps12
    go_wp2
    go_ret
    exact ⟨rfl, bl_refl _⟩
  go_enter Try.func12, Try.ntmps12
  go_wp2_with fail
  (with_reducible refine (DrawValidBreaks_any _ _ _ _ _ hr).mono ?_)
  rintro e u0 ⟨A, B, c', c2, L, E, rfl, hTL, hll, hIL, hEl, hEw, hb⟩
  clear hr
  have CI := fun (u : World) (h1 : TL u A L.length L) (h2 : IL u B E.length E) => ValidBreaks_i u A B L.length c' E.length c2 L E h1 (by omega) h2 (by omega) hEw
  have CS := fun (u : World) (h1 : TL u A L.length L) (h2 : IL u B E.length E) => ValidBreaks_s u A B L.length c' E.length c2 L E h1 (by omega) h2 (by omega) hEw
  have TR := fun h => vb_all (L := L) (E := E) h
  have BO := fun (u : World) (h1 : TL u A L.length L) => BreaksOf_i u A L.length c' L h1 (by omega)
  have FO := fun (u : World) (h1 : TL u A L.length L) => ForcedBreaks_i u A L.length c' L h1 (by omega)
  have rl := brO_len L
  have HT := hide hTL
  have HE := hide hIL
  have HB := hide hb
  obtain ⟨fo, hV⟩ : ∃ V, V = vbO L E := ⟨_, rfl⟩
  obtain ⟨R, hR⟩ : ∃ V, V = brO L := ⟨_, rfl⟩
  obtain ⟨Q, hQ⟩ : ∃ V, V = fba L := ⟨_, rfl⟩
  rw [← hV] at CI CS TR
  rw [← hR] at BO TR rl
  rw [← hQ] at FO TR
  have HCI := hide CI
  have HCS := hide CS
  replace TR := hide TR
  replace BO := hide BO
  replace FO := hide FO
  clear CI CS hV hR hQ hTL hIL hb hEw
  go_wp2_with fail
  (with_reducible refine (HCI.out _ HT.out HE.out).mono ?_)
  rintro e u1 ⟨rfl, hb1⟩
  have HT1 := hide (HT.out.below hb1)
  have HE1 := hide (HE.out.below hb1)
  have HB1 := hide (bl_call hb1 HB.out)
  clear hb1 HT HE HB
  go_wp2_with fail
  (with_reducible refine (HCS.out _ HT1.out HE1.out).mono ?_)
  rintro e u2 ⟨rfl, hb2⟩
  have HT2 := hide (HT1.out.below hb2)
  have HE2 := hide (HE1.out.below hb2)
  have HB2 := hide (bl_call hb2 HB1.out)
  clear hb2 HT1 HE1 HB1 HCI
  cases fo
  · clear TR BO FO
    go_wp2_with fail
    (with_reducible refine (HCS.out _ HT2.out HE2.out).mono ?_)
    rintro e u3 ⟨rfl, hb3⟩
    have HB3 := hide (bl_call hb3 HB2.out)
    clear hb3
    go_wp2
    go_ret
    exact ⟨rfl, HB3.out⟩
  · obtain ⟨v1, v2, v3⟩ := TR.out rfl
    have V1 := hide v1
    have V2 := hide v2
    clear TR v1 v2 HCS
    go_wp2_with fail
    (with_reducible refine (BO.out _ HT2.out).mono ?_)
    rintro e u3 ⟨A3, c3, rfl, ho3, hb3⟩
    have HT3 := hide (HT2.out.below hb3)
    have HE3 := hide (HE2.out.below hb3)
    have HB3 := hide (bl_call hb3 HB2.out)
    have HR3 := hide ho3.reads
    clear hb3 ho3 HT2 HE2 HB2 BO
    go_wp2
    go_loopw [7] (fun i u => ∃ (k j : Nat), k ≤ E.length ∧ i = .int .i64 k ∧ u3.drewN j = u) (fun i _ => E.length - (intOf i).toNat)
    case atStart => exact ⟨0, 0, Nat.zero_le _, rfl, rfl⟩
    case round =>
      obtain ⟨k, j, hk, rfl, rfl⟩ := hrel
      by_cases hlt : k < E.length
      · obtain ⟨b, o, rfl, hb0, c0⟩ := HE3.out.at_ hlt
        obtain ⟨m1, m2⟩ := V1.out k hlt
        have II := fun (u : World) (hu : IL u A3 R.length R) => isIn_l u A3 R.length c3 R (ng E k) hu (by omega)
        rw [decide_eq_true m1] at II
        obtain ⟨y, hy⟩ : ∃ y, y = ng E k := ⟨_, rfl⟩
        rw [← hy] at c0 II m2
        have HII := hide II
        have hi1 : (k : Int) < (E.length : Int) := by omega
        have hi0 : (0 : Int) ≤ (k : Int) := by omega
        clear II hy m1
        rcases Nat.eq_zero_or_pos k with hk0 | hk0
        · have g0 : decide ((0 : Int) < (k : Int)) = false := decide_eq_false (by omega)
          have g1 : decide (0 < k) = false := decide_eq_false (by omega)
          clear hk0 m2
          go_upto_region 11 with fail
          refine wp_region_held_drew (S := fun u : World => u.cell? ⟨b, o + k, none⟩ = some (.int .i64 y)) (by kernel_rfl) (c0) (fun hHeld => ?_)
          refine tkY (i := 0) (oi := ?_) (v := ?_) ?_ (by kernel_rfl) ?_ ?_ ?_ (by assumption) ?_; rotate_left 2; (next => simp only [tka, tkb, tkc]; rfl); (next => exact fun _ _ _ h => h); (next => rfl); (next => intro w_ hSw; (try dsimp only at hSw); skip; go_simp; (try (with_reducible rfl))); (try simp only [Act.put, tkd, tke, tkf]); refine tkY (i := 1) (oi := ?_) (v := ?_) ?_ (by kernel_rfl) ?_ ?_ ?_ (by assumption) ?_; rotate_left 2; (next => simp only [tka, tkb, tkc]; rfl); (next => exact fun _ _ _ h => h); (next => rfl); (next => intro w_ hSw; (try dsimp only at hSw); skip; go_simp; (try (with_reducible rfl))); (try simp only [Act.put, tkd, tke, tkf]); refine tkY (i := 2) (oi := ?_) (v := ?_) ?_ (by kernel_rfl) ?_ ?_ ?_ (by assumption) ?_; rotate_left 2; (next => simp only [tka, tkb, tkc]; rfl); (next => exact fun _ _ _ h => h); (next => rfl); (next => intro w_ hSw; (try dsimp only at hSw); skip; go_simp; (try (with_reducible rfl))); (try simp only [Act.put, tkd, tke, tkf]); refine tkY (i := 3) (oi := ?_) (v := ?_) ?_ (by kernel_rfl) ?_ ?_ ?_ (by assumption) ?_; rotate_left 2; (next => simp only [tka, tkb, tkc]; rfl); (next => exact fun _ _ _ h => h); (next => rfl); (next => intro w_ hSw; (try dsimp only at hSw); skip; go_simp; (try (with_reducible rfl))); (try simp only [Act.put, tkd, tke, tkf]); refine tkY (i := 4) (oi := ?_) (v := ?_) ?_ (by kernel_rfl) ?_ ?_ ?_ (by assumption) ?_; rotate_left 2; (next => simp only [tka, tkb, tkc]; rfl); (next => exact fun _ _ _ h => h); (next => rfl); (next => intro w_ hSw; (try dsimp only at hSw); skip; go_simp; (try (with_reducible rfl))); (try simp only [Act.put, tkd, tke, tkf])
          refine wpAnyH_ready (rs := [5]) (by kernel_rfl) (by simp) ?_; refine AllReadyH.cons (o := ?_) ?_ (fun K hK => ?_) AllReadyH.nil; rotate_left 1; (next => simp only [List.getElem?_toArray, List.getElem?_cons_succ, List.getElem?_cons_zero]; rfl); go_simp
          go_at_call 54
          (with_reducible refine (HII.out _ (HR3.out.drewN (j + 1))).mono ?_)
          rintro e w' ⟨rfl, rfl⟩
          (try go_wp2_with fail); refine hK.out _ _ (c0) (fun hHeld => ?_); clear hK K; (try simp only [Act.put, List.setIfInBounds_toArray, List.set_cons_zero, List.set_cons_succ])
          refine tkY (i := 6) (oi := ?_) (v := ?_) ?_ (by kernel_rfl) ?_ ?_ ?_ (by assumption) ?_; rotate_left 2; (next => simp only [tka, tkb, tkc]; rfl); (next => exact fun _ _ _ h => h); (next => rfl); (next => intro w_ hSw; (try dsimp only at hSw); skip; go_simp; (try (with_reducible rfl))); (try simp only [Act.put, tkd, tke, tkf]); refine tkY (i := 7) (oi := ?_) (v := ?_) ?_ (by kernel_rfl) ?_ ?_ ?_ (by assumption) ?_; rotate_left 2; (next => simp only [tka, tkb, tkc]; rfl); (next => exact fun _ _ _ h => h); (next => rfl); (next => intro w_ hSw; (try dsimp only at hSw); skip; go_simp; (try (with_reducible rfl))); (try simp only [Act.put, tkd, tke, tkf]); refine tkY (i := 8) (oi := ?_) (v := ?_) ?_ (by kernel_rfl) ?_ ?_ ?_ (by assumption) ?_; rotate_left 2; (next => simp only [tka, tkb, tkc]; rfl); (next => exact fun _ _ _ h => h); (next => rfl); (next => intro w_ hSw; (try dsimp only at hSw); skip; go_simp; (try (with_reducible rfl))); (try simp only [Act.put, tkd, tke, tkf]); refine tkY (i := 9) (oi := ?_) (v := ?_) ?_ (by kernel_rfl) ?_ ?_ ?_ (by assumption) ?_; rotate_left 2; (next => simp only [tka, tkb, tkc]; rfl); (next => exact fun _ _ _ h => h); (next => rfl); (next => intro w_ hSw; (try dsimp only at hSw); skip; go_simp; (try (with_reducible rfl))); (try simp only [Act.put, tkd, tke, tkf]); refine tkY (i := 10) (oi := ?_) (v := ?_) ?_ (by kernel_rfl) ?_ ?_ ?_ (by assumption) ?_; rotate_left 2; (next => simp only [tka, tkb, tkc]; rfl); (next => exact fun _ _ _ h => h); (next => rfl); (next => intro w_ hSw; (try dsimp only at hSw); skip; go_simp; (try (with_reducible rfl))); (try simp only [Act.put, tkd, tke, tkf]); refine tkN (i := 11) (oi := ?_) ?_ (by kernel_rfl) ?_ ?_ (by assumption) ?_; rotate_left 1; (next => simp only [tka, tkb, tkc]; rfl); (next => exact fun _ _ _ h => h); (next => rfl); (try simp only [Act.put, tkd, tke, tkf]); refine tkN (i := 12) (oi := ?_) ?_ (by kernel_rfl) ?_ ?_ (by assumption) ?_; rotate_left 1; (next => simp only [tka, tkb, tkc]; rfl); (next => exact fun _ _ _ h => h); (next => rfl); (try simp only [Act.put, tkd, tke, tkf]); refine tkN (i := 13) (oi := ?_) ?_ (by kernel_rfl) ?_ ?_ (by assumption) ?_; rotate_left 1; (next => simp only [tka, tkb, tkc]; rfl); (next => exact fun _ _ _ h => h); (next => rfl); (try simp only [Act.put, tkd, tke, tkf]); refine tkN (i := 14) (oi := ?_) ?_ (by kernel_rfl) ?_ ?_ (by assumption) ?_; rotate_left 1; (next => simp only [tka, tkb, tkc]; rfl); (next => exact fun _ _ _ h => h); (next => rfl); (try simp only [Act.put, tkd, tke, tkf]); refine tkN (i := 15) (oi := ?_) ?_ (by kernel_rfl) ?_ ?_ (by assumption) ?_; rotate_left 1; (next => simp only [tka, tkb, tkc]; rfl); (next => exact fun _ _ _ h => h); (next => rfl); (try simp only [Act.put, tkd, tke, tkf]); refine tkN (i := 16) (oi := ?_) ?_ (by kernel_rfl) ?_ ?_ (by assumption) ?_; rotate_left 1; (next => simp only [tka, tkb, tkc]; rfl); (next => exact fun _ _ _ h => h); (next => rfl); (try simp only [Act.put, tkd, tke, tkf]); refine tkN (i := 17) (oi := ?_) ?_ (by kernel_rfl) ?_ ?_ (by assumption) ?_; rotate_left 1; (next => simp only [tka, tkb, tkc]; rfl); (next => exact fun _ _ _ h => h); (next => rfl); (try simp only [Act.put, tkd, tke, tkf]); refine tkN (i := 18) (oi := ?_) ?_ (by kernel_rfl) ?_ ?_ (by assumption) ?_; rotate_left 1; (next => simp only [tka, tkb, tkc]; rfl); (next => exact fun _ _ _ h => h); (next => rfl); (try simp only [Act.put, tkd, tke, tkf]); refine tkN (i := 19) (oi := ?_) ?_ (by kernel_rfl) ?_ ?_ (by assumption) ?_; rotate_left 1; (next => simp only [tka, tkb, tkc]; rfl); (next => exact fun _ _ _ h => h); (next => rfl); (try simp only [Act.put, tkd, tke, tkf]); refine tkN (i := 20) (oi := ?_) ?_ (by kernel_rfl) ?_ ?_ (by assumption) ?_; rotate_left 1; (next => simp only [tka, tkb, tkc]; rfl); (next => exact fun _ _ _ h => h); (next => rfl); (try simp only [Act.put, tkd, tke, tkf]); refine tkY (i := 21) (oi := ?_) (v := ?_) ?_ (by kernel_rfl) ?_ ?_ ?_ (by assumption) ?_; rotate_left 2; (next => simp only [tka, tkb, tkc]; rfl); (next => exact fun _ _ _ h => h); (next => rfl); (next => intro w_ hSw; (try dsimp only at hSw); skip; go_simp; (try (with_reducible rfl))); (try simp only [Act.put, tkd, tke, tkf]); refine tkY (i := 22) (oi := ?_) (v := ?_) ?_ (by kernel_rfl) ?_ ?_ ?_ (by assumption) ?_; rotate_left 2; (next => simp only [tka, tkb, tkc]; rfl); (next => exact fun _ _ _ h => h); (next => rfl); (next => intro w_ hSw; (try dsimp only at hSw); skip; go_simp; (try (with_reducible rfl))); (try simp only [Act.put, tkd, tke, tkf]); refine wpAnyH_done (by kernel_rfl) ?_ _
          go_wp2
          go_roundw
          case rel => exact ⟨k + 1, j + 1, by omega, by go_num, rfl⟩
          case measure => simp [intOf]; omega
        · obtain ⟨r, hr⟩ : ∃ r, k = r + 1 := ⟨k - 1, by omega⟩
          obtain ⟨b', o', hA, hb0', c1⟩ := HE3.out.at_ (i := r) (by omega)
          injection hA with hA
          cases hA
          have m3 := m2 hk0
          rw [show k - 1 = r by omega] at m3
          obtain ⟨x, hx⟩ : ∃ y, y = ng E r := ⟨_, rfl⟩
          rw [← hx] at c1 m3
          have g0 : decide ((0 : Int) < (k : Int)) = true := decide_eq_true (by omega)
          have g1 : decide (0 < k) = true := decide_eq_true (by omega)
          have CAST : (k : Int) - 1 = (r : Int) := by omega
          have wr' : IntKind.i64.wrap (r : Int) = (r : Int) := IntWalk.i64_in _ (by omega)
          have hr1 : (r : Int) < (E.length : Int) := by omega
          have hr0 : (0 : Int) ≤ (r : Int) := by omega
          have hrl : r < E.length := by omega
          have g2 : decide (y ≤ x) = false := decide_eq_false (by omega)
          clear hr hx m2 m3 hk0
          go_upto_region 11 with fail
          refine wp_region_held_drew (S := fun u : World => u.cell? ⟨b, o + k, none⟩ = some (.int .i64 y) ∧ u.cell? ⟨b, o + r, none⟩ = some (.int .i64 x)) (by kernel_rfl) (⟨c0, c1⟩) (fun hHeld => ?_)
          refine tkY (i := 0) (oi := ?_) (v := ?_) ?_ (by kernel_rfl) ?_ ?_ ?_ (by assumption) ?_; rotate_left 2; (next => simp only [tka, tkb, tkc]; rfl); (next => exact fun _ _ _ h => h); (next => rfl); (next => intro w_ hSw; (try dsimp only at hSw); skip; go_simp; (try (with_reducible rfl))); (try simp only [Act.put, tkd, tke, tkf]); refine tkY (i := 1) (oi := ?_) (v := ?_) ?_ (by kernel_rfl) ?_ ?_ ?_ (by assumption) ?_; rotate_left 2; (next => simp only [tka, tkb, tkc]; rfl); (next => exact fun _ _ _ h => h); (next => rfl); (next => intro w_ hSw; (try dsimp only at hSw); skip; go_simp; (try (with_reducible rfl))); (try simp only [Act.put, tkd, tke, tkf]); refine tkY (i := 2) (oi := ?_) (v := ?_) ?_ (by kernel_rfl) ?_ ?_ ?_ (by assumption) ?_; rotate_left 2; (next => simp only [tka, tkb, tkc]; rfl); (next => exact fun _ _ _ h => h); (next => rfl); (next => intro w_ hSw; (try dsimp only at hSw); skip; go_simp; (try (with_reducible rfl))); (try simp only [Act.put, tkd, tke, tkf]); refine tkY (i := 3) (oi := ?_) (v := ?_) ?_ (by kernel_rfl) ?_ ?_ ?_ (by assumption) ?_; rotate_left 2; (next => simp only [tka, tkb, tkc]; rfl); (next => exact fun _ _ _ h => h); (next => rfl); (next => intro w_ hSw; (try dsimp only at hSw); skip; go_simp; (try (with_reducible rfl))); (try simp only [Act.put, tkd, tke, tkf]); refine tkY (i := 4) (oi := ?_) (v := ?_) ?_ (by kernel_rfl) ?_ ?_ ?_ (by assumption) ?_; rotate_left 2; (next => simp only [tka, tkb, tkc]; rfl); (next => exact fun _ _ _ h => h); (next => rfl); (next => intro w_ hSw; (try dsimp only at hSw); skip; go_simp; (try (with_reducible rfl))); (try simp only [Act.put, tkd, tke, tkf])
          refine wpAnyH_ready (rs := [5]) (by kernel_rfl) (by simp) ?_; refine AllReadyH.cons (o := ?_) ?_ (fun K hK => ?_) AllReadyH.nil; rotate_left 1; (next => simp only [List.getElem?_toArray, List.getElem?_cons_succ, List.getElem?_cons_zero]; rfl); go_simp
          go_at_call 54
          (with_reducible refine (HII.out _ (HR3.out.drewN (j + 1))).mono ?_)
          rintro e w' ⟨rfl, rfl⟩
          (try go_wp2_with fail); refine hK.out _ _ (⟨c0, c1⟩) (fun hHeld => ?_); clear hK K; (try simp only [Act.put, List.setIfInBounds_toArray, List.set_cons_zero, List.set_cons_succ])
          refine tkY (i := 6) (oi := ?_) (v := ?_) ?_ (by kernel_rfl) ?_ ?_ ?_ (by assumption) ?_; rotate_left 2; (next => simp only [tka, tkb, tkc]; rfl); (next => exact fun _ _ _ h => h); (next => rfl); (next => intro w_ hSw; (try dsimp only at hSw); skip; go_simp; (try (with_reducible rfl))); (try simp only [Act.put, tkd, tke, tkf]); refine tkY (i := 7) (oi := ?_) (v := ?_) ?_ (by kernel_rfl) ?_ ?_ ?_ (by assumption) ?_; rotate_left 2; (next => simp only [tka, tkb, tkc]; rfl); (next => exact fun _ _ _ h => h); (next => rfl); (next => intro w_ hSw; (try dsimp only at hSw); skip; go_simp; (try (with_reducible rfl))); (try simp only [Act.put, tkd, tke, tkf]); refine tkY (i := 8) (oi := ?_) (v := ?_) ?_ (by kernel_rfl) ?_ ?_ ?_ (by assumption) ?_; rotate_left 2; (next => simp only [tka, tkb, tkc]; rfl); (next => exact fun _ _ _ h => h); (next => rfl); (next => intro w_ hSw; (try dsimp only at hSw); skip; go_simp; (try (with_reducible rfl))); (try simp only [Act.put, tkd, tke, tkf]); refine tkY (i := 9) (oi := ?_) (v := ?_) ?_ (by kernel_rfl) ?_ ?_ ?_ (by assumption) ?_; rotate_left 2; (next => simp only [tka, tkb, tkc]; rfl); (next => exact fun _ _ _ h => h); (next => rfl); (next => intro w_ hSw; (try dsimp only at hSw); skip; go_simp; (try (with_reducible rfl))); (try simp only [Act.put, tkd, tke, tkf]); refine tkY (i := 10) (oi := ?_) (v := ?_) ?_ (by kernel_rfl) ?_ ?_ ?_ (by assumption) ?_; rotate_left 2; (next => simp only [tka, tkb, tkc]; rfl); (next => exact fun _ _ _ h => h); (next => rfl); (next => intro w_ hSw; (try dsimp only at hSw); skip; go_simp; (try (with_reducible rfl))); (try simp only [Act.put, tkd, tke, tkf]); refine tkY (i := 11) (oi := ?_) (v := ?_) ?_ (by kernel_rfl) ?_ ?_ ?_ (by assumption) ?_; rotate_left 2; (next => simp only [tka, tkb, tkc]; rfl); (next => exact fun _ _ _ h => h); (next => rfl); (next => intro w_ hSw; (try dsimp only at hSw); skip; go_simp; (try (with_reducible rfl))); (try simp only [Act.put, tkd, tke, tkf]); refine tkY (i := 12) (oi := ?_) (v := ?_) ?_ (by kernel_rfl) ?_ ?_ ?_ (by assumption) ?_; rotate_left 2; (next => simp only [tka, tkb, tkc]; rfl); (next => exact fun _ _ _ h => h); (next => rfl); (next => intro w_ hSw; (try dsimp only at hSw); skip; go_simp; (try (with_reducible rfl))); (try simp only [Act.put, tkd, tke, tkf]); refine tkY (i := 13) (oi := ?_) (v := ?_) ?_ (by kernel_rfl) ?_ ?_ ?_ (by assumption) ?_; rotate_left 2; (next => simp only [tka, tkb, tkc]; rfl); (next => exact fun _ _ _ h => h); (next => rfl); (next => intro w_ hSw; (try dsimp only at hSw); skip; go_simp; (try (with_reducible rfl))); (try simp only [Act.put, tkd, tke, tkf]); refine tkY (i := 14) (oi := ?_) (v := ?_) ?_ (by kernel_rfl) ?_ ?_ ?_ (by assumption) ?_; rotate_left 2; (next => simp only [tka, tkb, tkc]; rfl); (next => exact fun _ _ _ h => h); (next => rfl); (next => intro w_ hSw; (try dsimp only at hSw); skip; go_simp; (try (with_reducible rfl))); (try simp only [Act.put, tkd, tke, tkf]); refine tkY (i := 15) (oi := ?_) (v := ?_) ?_ (by kernel_rfl) ?_ ?_ ?_ (by assumption) ?_; rotate_left 2; (next => simp only [tka, tkb, tkc]; rfl); (next => exact fun _ _ _ h => h); (next => rfl); (next => intro w_ hSw; (try dsimp only at hSw); skip; go_simp; (try (with_reducible rfl))); (try simp only [Act.put, tkd, tke, tkf]); refine tkY (i := 16) (oi := ?_) (v := ?_) ?_ (by kernel_rfl) ?_ ?_ ?_ (by assumption) ?_; rotate_left 2; (next => simp only [tka, tkb, tkc]; rfl); (next => exact fun _ _ _ h => h); (next => rfl); (next => intro w_ hSw; (try dsimp only at hSw); skip; go_simp; (try (with_reducible rfl))); (try simp only [Act.put, tkd, tke, tkf]); refine tkY (i := 17) (oi := ?_) (v := ?_) ?_ (by kernel_rfl) ?_ ?_ ?_ (by assumption) ?_; rotate_left 2; (next => simp only [tka, tkb, tkc]; rfl); (next => exact fun _ _ _ h => h); (next => rfl); (next => intro w_ hSw; (try dsimp only at hSw); skip; go_simp; (try (with_reducible rfl))); (try simp only [Act.put, tkd, tke, tkf]); refine tkY (i := 18) (oi := ?_) (v := ?_) ?_ (by kernel_rfl) ?_ ?_ ?_ (by assumption) ?_; rotate_left 2; (next => simp only [tka, tkb, tkc]; rfl); (next => exact fun _ _ _ h => h); (next => rfl); (next => intro w_ hSw; (try dsimp only at hSw); skip; go_simp; (try (with_reducible rfl))); (try simp only [Act.put, tkd, tke, tkf]); refine tkY (i := 19) (oi := ?_) (v := ?_) ?_ (by kernel_rfl) ?_ ?_ ?_ (by assumption) ?_; rotate_left 2; (next => simp only [tka, tkb, tkc]; rfl); (next => exact fun _ _ _ h => h); (next => rfl); (next => intro w_ hSw; (try dsimp only at hSw); skip; go_simp; (try (with_reducible rfl))); (try simp only [Act.put, tkd, tke, tkf]); refine tkY (i := 20) (oi := ?_) (v := ?_) ?_ (by kernel_rfl) ?_ ?_ ?_ (by assumption) ?_; rotate_left 2; (next => simp only [tka, tkb, tkc]; rfl); (next => exact fun _ _ _ h => h); (next => rfl); (next => intro w_ hSw; (try dsimp only at hSw); skip; go_simp; (try (with_reducible rfl))); (try simp only [Act.put, tkd, tke, tkf]); refine tkY (i := 21) (oi := ?_) (v := ?_) ?_ (by kernel_rfl) ?_ ?_ ?_ (by assumption) ?_; rotate_left 2; (next => simp only [tka, tkb, tkc]; rfl); (next => exact fun _ _ _ h => h); (next => rfl); (next => intro w_ hSw; (try dsimp only at hSw); skip; go_simp; (try (with_reducible rfl))); (try simp only [Act.put, tkd, tke, tkf]); refine tkY (i := 22) (oi := ?_) (v := ?_) ?_ (by kernel_rfl) ?_ ?_ ?_ (by assumption) ?_; rotate_left 2; (next => simp only [tka, tkb, tkc]; rfl); (next => exact fun _ _ _ h => h); (next => rfl); (next => intro w_ hSw; (try dsimp only at hSw); skip; go_simp; (try (with_reducible rfl))); (try simp only [Act.put, tkd, tke, tkf]); refine wpAnyH_done (by kernel_rfl) ?_ _
          go_wp2
          go_roundw
          case rel => exact ⟨k + 1, j + 1, by omega, by go_num, rfl⟩
          case measure => simp [intOf]; omega
      · go_wp2_with fail
        (with_reducible refine (FO.out _ (HT3.out.below (bl_drewN (bl_refl _) _))).mono ?_)
        rintro e u4 ⟨A4, c4, rfl, ho4, hb4⟩
        have HE4 := hide ((HE3.out.drewN j).below hb4)
        have HB4 := hide (bl_call hb4 (bl_drewN HB3.out j))
        have HQ := hide ho4.reads
        clear hb4 ho4 FO HR3 HE3 HB3
        go_wp2
        go_loop [9] (fun i => ∃ k : Nat, k ≤ Q.length ∧ i = .int .i64 k) (fun i => Q.length - (intOf i).toNat)
        case atStart => exact ⟨0, Nat.zero_le _, rfl⟩
        case round =>
          obtain ⟨k, hk, rfl⟩ := hrel
          by_cases hlt : k < Q.length
          · obtain ⟨b, o, rfl, hb0, c0⟩ := HQ.out.at_ hlt
            have II := isIn_l u4 B E.length c2 E (ng Q k) HE4.out (by omega)
            rw [decide_eq_true (V2.out k hlt)] at II
            obtain ⟨y, hy⟩ : ∃ y, y = ng Q k := ⟨_, rfl⟩
            rw [← hy] at c0 II
            have HII := hide II
            clear II hy
            go_wp2_with fail
            (with_reducible refine HII.out.mono ?_)
            rintro e w' ⟨rfl, rfl⟩
            go_wp2
            go_round
            case rel => exact ⟨k + 1, by omega, by go_num⟩
            case measure => simp [intOf]; omega
          · have q1 : (Q.length : Int) ≤ (E.length : Int) := by omega
            have q2 : decide (Q.length ≤ E.length) = true := decide_eq_true v3
            go_wp2
            go_ret
            exact ⟨rfl, HB4.out⟩
set_option maxRecDepth 100000 in
theorem lifted_FnValidBreaks (os : Os) (started : os.Started) (H : Type) (enc : TypeId × Value → H) :
    ReturnsInHanded {} Try.checked os 12 .any (Rows.fnValidBreaksSpec.pre6 enc Try.prog Try.f12 Rows.fnValidBreaksRow.domain false) (Rows.fnValidBreaksSpec.post enc Try.prog Try.f12 false true false false) := by
  refine returnsInHanded_of_change (C := Try.checked) own_knob started (by kernel_rfl) Try.func12
    (ChangeSpec.witness6 (enc := enc) (C := Try.checked) false ⟨#[], #[.slice none 0 0], []⟩ 8 (by kernel_rfl) (by kernel_rfl) (by kernel_rfl) (by kernel_rfl)) ?_
  intro W base args ds gs before hval0 hW hcnd _
  have hval : ∀ (j : Nat) t v, Try.f12.params[j]? = some t → args[j]? = some v → Value.okWide Try.prog W .any base t v := hval0
  have hW' := hW
  obtain ⟨p, q, hA0, hV, rfl, hfz, hnd⟩ := hW
  have hA : DataW.TrodAll enc Try.prog W 0 (fun _ => true) true Try.f12.params.toList args.toList ds p := hA0
  rw [Try.params12] at hA hval
  obtain ⟨v0, vs0, d0, ds0, p0, q0, hargs, rfl, rfl, zh0, r0⟩ := trodAll_cons hA
  obtain ⟨rfl, rfl, rfl⟩ := trodAll_nil r0
  obtain rfl : args = #[v0] := by cases args; simp_all
  obtain ⟨rfl, rfl⟩ := trodVars_none hV
  have zk0 := zh0
  have zl0 : ∀ x ∈ p0, x.block < W.heap.size := by obtain ⟨m, hm⟩ := zk0; exact DataW.trod_lt m _ _ _ hm
  clear hA0 hval0
  obtain ⟨a_code, n_code, c_code, rfl⟩ := okWide_slice Try.underlying54 (hval 0 54 v0 rfl rfl)
  obtain ⟨code, w_code⟩ := isRow_of Try.underlying54 Try.underlying5 (by kernel_rfl) zh0
  refine (walk_FnValidBreaks a_code n_code c_code code W w_code).mono fun e W' ⟨he, bel⟩ => ?_
  subst he
  exact ⟨_, rfl, _, _, _, [], _, [], hW', trodAll_mk1 (shut_bool Try.underlying4 _), (trodAll_cons_mk (Below.trod laid_out (by kernel_rfl) (of_decide_eq_true (by kernel_rfl)) zk0 bel zl0) trodAll_mk0), rfl, bel.frame _, fun h => by cases h⟩

/-- The statement. -/
theorem FnValidBreaks_holds : Rows.FnValidBreaksSaid :=
  OpenClaim.holds_of_wide 12 Try.f12 rfl rfl rfl rfl rfl rfl rfl ⟨rfl, rfl, rfl, rfl, rfl⟩ rfl rfl rfl rfl rfl (by kernel_rfl) Try.func12 (by unfold joinedFacts; rw [may_enter, lifts_final, make_cut]; kernel_rfl)
    (of_decide_eq_true (by kernel_rfl)) (by unfold Func.isWrapper; first | (rw [if_pos (by decide +kernel)]; kernel_rfl) | (rw [if_neg (by decide +kernel)]; exact ⟨rfl, rfl⟩))
    (fun os started H enc _ => lifted_FnValidBreaks os started H enc)
end Go.Proofs.Ytafddofajfcffaa
