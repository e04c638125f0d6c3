/- StretchColumns, in its model. -/
import Derived.Test.YtlkfpcajpdohiaaStrI
namespace Go.Proofs.Ytlkfpcajpdohiaa
open Go.ChangeShapes Go.WideShapes Go.ChangeAt Go.RowKit
set_option linter.unusedVariables false
set_option linter.unusedSimpArgs false
set_option maxRecDepth 4000

theorem take_nextS {l : List Int} {p : Nat} (h : p < l.length) : l.take (p + 1) = l.take p ++ [ng l p] := by
  rw [ng_lt h, List.take_succ_eq_append_getElem h]
set_option maxHeartbeats 4000000 in
theorem StretchColumns_s (w : World) (A : Option Addr) (n c : Nat) (l : List Int) (m : Int) (ha : IL w A n l) (hn : n ≤ 4611686018427387904) (wm : -9223372036854775808 ≤ m ∧ m ≤ 9223372036854775807) :
    Calls Try.prog 44 #[.slice A n c, .int .i64 m] w (RetL w (scV l m)) := by
  obtain rfl : n = l.length := ha.1
  have HA := hide (show IL (w.alloc (.cells #[] 3)) A l.length l from ha.alloc _)
  have HBA := hide (bl_alloc (bl_refl w) (.cells #[] 3))
  obtain ⟨i0, hi0, hz0, hz1, hz2⟩ := info_parts int_info
  have H0 : Hid (OL (w.alloc (.cells #[] 3)) 3 w.heap.size (some ⟨w.heap.size, 0, none⟩) 0 []) := hide (by
    have := OL.lit (w := w) (e := 3) (B := w.heap.size) (Nat.le_refl _) [] (by simp)
    simpa using this)
  have HAw := hide ha
  clear ha
  cases q : okLen l 1 8 0 10000
  · have E := hide (scV_bad (m := m) q)
    go_enter Try.func44, Try.ntmps44
    go_wp2_with (go_at_call 81; refine (validWidths_s _ _ _ _ _ HA.out hn).mono ?_; rintro e w' ⟨rfl, rfl⟩)
    go_ret
    exact RetL.no E.out HBA.out
  obtain ⟨⟨k1, k2⟩, hel⟩ := okLen_iff.1 q
  have k8 : l.length ≤ 8 := by omega
  have hl1 : 1 ≤ l.length := by omega
  obtain ⟨hb0, hb1⟩ := sl_bd hel k8
  cases q2 : inB m 0 10000
  · have E := hide (scV_off (l := l) (m := m) (by
      cases e : inB m (sl l) 10000
      · rfl
      · have := inB_iff.1 e
        rw [inB_yes (by omega) this.2] at q2; cases q2))
    clear hel
    go_enter Try.func44, Try.ntmps44
    go_wp2_with (first | (go_at_call 81; refine (validWidths_s _ _ _ _ _ HA.out hn).mono ?_; rintro e w' ⟨rfl, rfl⟩) | (go_at_call 71; refine (inRange_any _ _ _ _).mono ?_; rintro e w' ⟨rfl, rfl⟩))
    go_ret
    exact RetL.no E.out HBA.out
  obtain ⟨m0, m1⟩ := inB_iff.1 q2
  have PB := hide (fun k (hk : k ≤ l.length) => pfx_bd (b := 10000) hel hk)
  obtain ⟨U, hU⟩ : ∃ U, U = w.alloc (.cells #[] 3) := ⟨_, rfl⟩
  have HEL := hide hel
  have HSL := hide (pfx_all l)
  obtain ⟨S, hS⟩ : ∃ S, S = sl l := ⟨_, rfl⟩
  have HS1 := hide hS
  have E0 := hide (fun (h : m < sl l) => scV_off (l := l) (m := m) (by
    cases e : inB m (sl l) 10000
    · rfl
    · have := inB_iff.1 e; omega))
  have E1 := hide (fun (h : sl l ≤ m) => scV_yes (l := l) (m := m) q (inB_yes h m1))
  rw [← hS] at hb0 hb1 E0 E1
  have HBD := hide (fun k (hk : k ≤ l.length) => brd_bd (t := m) hel hl1 k8 m0 m1 hk)
  clear hel hS hU U
  go_enter Try.func44, Try.ntmps44
  go_wp2_with (first | (go_at_call 81; refine (validWidths_s _ _ _ _ _ HA.out hn).mono ?_; rintro e w' ⟨rfl, rfl⟩) | (go_at_call 71; refine (inRange_any _ _ _ _).mono ?_; rintro e w' ⟨rfl, rfl⟩))
  go_loop [6, 7] (fun s i => ∃ p : Nat, p ≤ l.length ∧ i = .int .i64 p ∧ s = .int .i64 (pfx l p)) (fun _ i => l.length - (intOf i).toNat)
  case atStart => exact ⟨0, Nat.zero_le _, rfl, rfl⟩
  case round =>
    obtain ⟨p, hp, rfl, rfl⟩ := hrel
    have pb := PB.out p hp
    by_cases hlt : p < l.length
    · obtain ⟨b, o, rfl, hb, hc⟩ := HA.out.at_ hlt
      have AN := hide (show pfx l (p + 1) = pfx l p + ng l p from rfl)
      have pb2 := PB.out (p + 1) (by omega)
      have xb := HEL.out p hlt
      obtain ⟨a, ha⟩ : ∃ a, a = pfx l p := ⟨_, rfl⟩
      obtain ⟨x, hx⟩ : ∃ a, a = ng l p := ⟨_, rfl⟩
      rw [← ha, ← hx] at AN
      rw [← ha] at pb ⊢
      rw [← hx] at hc xb
      clear ha hx pb2
      go_wp2
      go_round
      case rel => exact ⟨p + 1, by omega, by go_num, by rw [AN.out]⟩
      case measure => simp [intOf]; omega
    · obtain rfl : p = l.length := by omega
      have PS := HSL.out
      rw [← HS1.out] at PS
      rw [PS]
      clear hlt pb PS
      rcases (by omega : m < S ∨ ¬ m < S) with hmS | hmS
      · have E := hide (E0.out hmS)
        go_wp2
        go_ret
        exact RetL.no E.out HBA.out
      · have E := hide (E1.out (by omega))
        have hn0 : ((l.length : Int) == 0) = false := beq_eq_false_iff_ne.2 (by omega)
        have SGET := hide (fun p (h : p < l.length) => stl_get (l := l) (t := m) h)
        have BN := hide (fun k (h : k ≤ l.length) (h0 : S = 0) => brd_none (l := l) (t := m) (k := k) (by rw [← HS1.out]; exact h0) h)
        have BS := hide (fun k (h0 : S ≠ 0) => brd_some (l := l) (t := m) (k := k) (by rw [← HS1.out]; exact h0))
        rw [← HS1.out] at BS
        clear E0 E1
        go_wp2
        go_loopw [5, 8, 9, 10] (fun ou dn pa ix u => ∃ (p : Nat) (A' : Option Addr) (c' : Nat), p ≤ l.length ∧ ou = .slice A' p c' ∧ dn = .int .i64 (brd l m p) ∧ pa = .int .i64 (pfx l p) ∧ ix = .int .i64 p ∧ OL u 3 w.heap.size A' c' ((stl l m).take p) ∧ Below w.heap.size w u) (fun _ _ _ ix _ => l.length - (intOf ix).toNat)
        case atStart => exact ⟨0, _, _, Nat.zero_le _, rfl, by rw [brd_zero], rfl, rfl, H0.out, HBA.out⟩
        case round =>
          obtain ⟨p, A', c', hp, rfl, rfl, rfl, rfl, hol, hbl⟩ := hrel
          have HOL := hide hol
          have HBL := hide hbl
          obtain ⟨⟨_, _⟩, xb0, xb1⟩ := HBD.out p hp
          have pb := PB.out p hp
          by_cases hlt : p < l.length
          · obtain ⟨⟨_, _⟩, yb0, yb1⟩ := HBD.out (p + 1) (by omega)
            obtain ⟨b, o, rfl, hb, hc⟩ := (HAw.out.below hbl).at_ hlt
            have pb2 := PB.out (p + 1) (by omega)
            have AN := hide (show pfx l (p + 1) = pfx l p + ng l p from rfl)
            have SG := hide (SGET.out p hlt)
            have TN := hide (take_nextS (l := stl l m) (p := p) (by rw [stl_len]; exact hlt))
            have B1 := hide (BN.out (p + 1) (by omega))
            have B2 := hide (BS.out (p + 1))
            have xb := HEL.out p hlt
            have hzb := hbl.size
            obtain ⟨a, ha⟩ : ∃ a, a = pfx l p := ⟨_, rfl⟩
            obtain ⟨a', ha'⟩ : ∃ a, a = pfx l (p + 1) := ⟨_, rfl⟩
            obtain ⟨x, hx⟩ : ∃ a, a = ng l p := ⟨_, rfl⟩
            obtain ⟨e, he⟩ : ∃ a, a = brd l m p := ⟨_, rfl⟩
            obtain ⟨e', he'⟩ : ∃ a, a = brd l m (p + 1) := ⟨_, rfl⟩
            obtain ⟨y, hy⟩ : ∃ a, a = ng (stl l m) p := ⟨_, rfl⟩
            rw [← ha, ← ha', ← hx] at AN
            rw [← ha', ← he'] at B2
            rw [← he'] at B1
            rw [← he, ← he', ← hy] at SG
            rw [← hy] at TN
            rw [← hx] at hc xb
            rw [← ha] at pb ⊢
            rw [← he] at xb0 xb1 ⊢
            rw [← ha'] at pb2
            rw [← he'] at yb0 yb1
            have HA' := hide ha'
            have HE' := hide he'
            have an := AN.out
            have we : IntKind.i64.wrap (e' - e) = e' - e := IntWalk.i64_in _ (by omega)
            have wa : IntKind.i64.wrap (a + x) = a + x := IntWalk.i64_in _ (by omega)
            have p0 : 0 ≤ m * ((p : Int) + 1) := Int.mul_nonneg m0 (by omega)
            have p1 : m * ((p : Int) + 1) ≤ 10000 * 8 := Int.mul_le_mul m1 (by omega) (by omega) (by omega)
            have hw : IntKind.i64.wrap (m * ((p : Int) + 1)) = m * ((p : Int) + 1) := IntWalk.i64_in _ (by omega)
            have hw2 : IntKind.i64.wrap e' = e' := IntWalk.i64_in _ (by omega)
            have ey := hide (show e' - e = y from SG.out.symm)
            clear ha ha' hx he he' hy hol SGET BN BS
            rcases (by omega : S = 0 ∨ 0 < S) with s0 | s0
            · have t1 : (m * ((p : Int) + 1)).tdiv (l.length : Int) = e' := by
                rw [Int.tdiv_eq_ediv_of_nonneg p0, B1.out s0]
                rfl
              have s1 : ¬ (0 < S) := by omega
              have HS0 := hide s0
              clear s0 p0 p1 B1 B2 an
              go_wp2_with (at_builtin; refine wpList_append_int rfl (.tmp 62) (.tmp 66) _ rfl 3 i0 Try.underlying32 hi0 hz0 hz1 hz2 w.heap.size A' c' p ((stl l m).take p) rfl (by rw [List.length_take, stl_len]; omega) (HOL.out.alloc _) wr.heap.size (e' - e) rfl (by simp) (by omega) (by simp; omega) ?_; intro A2 c2 w2 hol2 hb2 hg2)
              go_roundw
              case rel =>
                refine ⟨p + 1, A2, c2, by omega, by go_num, by rw [← HE'.out], by rw [← HA'.out, AN.out], by go_num, ?_, (bl_alloc HBL.out _).trans hb2⟩
                rw [TN.out, ← ey.out]
                exact hol2
              case measure => simp [intOf]; omega
            · obtain ⟨b1, hb1'⟩ : ∃ b1, b1 = (m * ((p : Int) + 1)).tdiv (l.length : Int) := ⟨_, rfl⟩
              have t1 : (m * ((p : Int) + 1)).tdiv (l.length : Int) = b1 := hb1'.symm
              have bb : 0 ≤ b1 ∧ b1 ≤ 10000 * 8 := by
                rw [hb1', Int.tdiv_eq_ediv_of_nonneg p0]
                have := Int.ediv_nonneg p0 (show 0 ≤ (l.length : Int) by omega)
                have := Int.ediv_le_self (l.length : Int) p0
                omega
              have hw3 : IntKind.i64.wrap b1 = b1 := IntWalk.i64_in _ (by omega)
              have q0 : 0 ≤ m * (a + x) := Int.mul_nonneg m0 (by omega)
              have q1 : m * (a + x) ≤ 10000 * 80000 := Int.mul_le_mul m1 (by omega) (by omega) (by omega)
              have hw4 : IntKind.i64.wrap (m * (a + x)) = m * (a + x) := IntWalk.i64_in _ (by omega)
              have t2 : (m * (a + x)).tdiv S = e' := by
                rw [Int.tdiv_eq_ediv_of_nonneg q0, B2.out (by omega), an]
              have sz : (S == 0) = false := beq_eq_false_iff_ne.2 (by omega)
              clear hb1' bb p0 p1 q0 q1 B1 B2 an
              go_wp2_with (at_builtin; refine wpList_append_int rfl (.tmp 62) (.tmp 66) _ rfl 3 i0 Try.underlying32 hi0 hz0 hz1 hz2 w.heap.size A' c' p ((stl l m).take p) rfl (by rw [List.length_take, stl_len]; omega) (HOL.out.alloc _) wr.heap.size (e' - e) rfl (by simp) (by omega) (by simp; omega) ?_; intro A2 c2 w2 hol2 hb2 hg2)
              go_roundw
              case rel =>
                refine ⟨p + 1, A2, c2, by omega, by go_num, by rw [← HE'.out], by rw [← HA'.out, AN.out], by go_num, ?_, (bl_alloc HBL.out _).trans hb2⟩
                rw [TN.out, ← ey.out]
                exact hol2
              case measure => simp [intOf]; omega
          · have hpe : p = l.length := by omega
            have M := hide (show OL wr 3 w.heap.size A' c' (stl l m) by
              rw [List.take_of_length_le (by rw [stl_len]; omega)] at hol
              exact hol)
            have HPE := hide hpe
            clear hol
            go_wp2
            go_ret
            rw [E.out]
            exact ⟨A', c', by (rw [stl_len, ← HPE.out]; first | done | rfl), M.out, HBL.out⟩
end Go.Proofs.Ytlkfpcajpdohiaa
