/- Orders by levels in the model. -/
import Derived.Test.YteoiphjkkcjddaaDirO
namespace Go.Proofs.Yteoiphjkkcjddaa
open Go.ChangeShapes Go.WideShapes Go.ChangeAt Go.RowKit
set_option linter.unusedVariables false

/-- What the end of a run leaves. -/
theorem run_end {q : Int → Bool} {P R S T : List Int} {N : Nat} (hlen : P.length + R.length + S.length = N) (hT : T = P ++ rr q R.reverse S) (h0 : S = [] → R ≠ []) (hS : ∀ x S', S = x :: S' → q x = false) :
    ∃ P2 S2, P ++ R.reverse ++ S = P2 ++ S2 ∧ P2.length + S2.length = N ∧ P.length < P2.length ∧ P2.length ≤ N ∧ P.length + R.length ≤ P2.length ∧ (P2.length = P.length + R.length ∨ P2.length = P.length + 1) ∧ T = P2 ++ rr q [] S2 := by
  match S, hlen, hT, h0, hS with
  | [], hlen, hT, h0, hS =>
    have := List.length_pos_iff.2 (h0 rfl)
    simp at hlen
    exact ⟨P ++ R.reverse, [], by simp, by simp; omega, by simp; omega, by simp; omega, by simp, .inl (by simp), by rw [hT, rr_nil, rr_nil]; simp⟩
  | x :: S, hlen, hT, h0, hS =>
    have hx := hS x S rfl
    simp at hlen
    by_cases hR : R = []
    · subst hR
      exact ⟨P ++ [x], S, by simp, by simp; simp at hlen; omega, by simp, by simp; omega, by simp, .inr (by simp), by rw [hT, rr_no hx]; simp⟩
    · have := List.length_pos_iff.2 hR
      exact ⟨P ++ R.reverse, x :: S, rfl, by simp; omega, by simp; omega, by simp; omega, by simp, .inl (by simp), by rw [hT, rr_no hx, rr_no hx]; simp⟩

set_option maxHeartbeats 2000000 in
theorem reorder_s (w : World) (A : Option Addr) (n cL : Nat) (L : List Int) (hL : IL w A n L) (hlen : L.length ≤ 60) (hok : ∀ j, j < L.length → 0 ≤ ng L j ∧ ng L j ≤ 6) :
    Calls Try.prog 43 #[.slice A n cL] w fun e w' => ∃ A' c', e = .returned (.slice A' (ordL L).length c') ∧ OL w' 3 w.heap.size A' c' (ordL L) ∧ Below w.heap.size w w' := by
  obtain rfl : n = L.length := hL.1
  have HL := hide hL
  have HOK := hide hok
  clear hL hok
  obtain ⟨N, hN⟩ : ∃ N, N = L.length := ⟨_, rfl⟩
  have HN := hide hN
  have H0 : Hid (OL (w.alloc (.cells #[] 3)) 3 w.heap.size (some ⟨w.heap.size, 0, none⟩) 0 (upto 0 0)) := hide (by
      have := OL.lit (w := w) (e := 3) (B := w.heap.size) (Nat.le_refl _) [] (by simp)
      simpa [upto] using this)
  rw [← hN] at hlen ⊢
  obtain ⟨i0, hi0, jz0, jz1, jz2⟩ := info_parts int_info
  clear hN
  go_enter Try.func43, Try.ntmps43
  go_wp2
  go_loopw [3, 4, 5] (fun o t i u => ∃ (p m : Nat) (Ao : Option Addr) (co : Nat), p ≤ N ∧ m ≤ 6 ∧ (p = 0 → m = 0) ∧ (∀ j, j < p → ng L j ≤ m) ∧ o = .slice Ao p co ∧ t = .int .i64 m ∧ i = .int .i64 p ∧ OL u 3 w.heap.size Ao co (upto 0 p) ∧ Below w.heap.size w u) (fun _ _ i _ => N - (intOf i).toNat)
  case atStart => exact ⟨0, 0, _, _, by omega, by omega, fun _ => rfl, fun j hj => by omega, rfl, rfl, rfl, H0.out, bl_alloc (bl_refl _) _⟩
  case round =>
    obtain ⟨p, m, Ao, co, hp, hm6, hm0, htop, rfl, rfl, rfl, hol, hbl⟩ := hrel
    by_cases hlt : p < N
    · obtain ⟨b, o, rfl, hbv, hc⟩ := HL.out.at_ (i := p) (by have := HN.out; omega)
      have hc := keep_cell hbl hc
      obtain ⟨y0, y6⟩ := HOK.out p (by have := HN.out; omega)
      obtain ⟨y, hy⟩ : ∃ y, y = ng L p := ⟨_, rfl⟩
      rw [← hy] at hc y0 y6
      obtain ⟨k, rfl⟩ := Int.eq_ofNat_of_zero_le y0
      have HT := hide htop
      have HY := hide hy
      have U := hide (upto_len 0 p)
      have hz1 : w.heap.size ≤ wr.heap.size := hbl.size
      clear hy htop
      rcases (by omega : (m : Int) < (k : Int) ∨ (k : Int) ≤ (m : Int)) with hmk | hmk
      · have T2 : Hid (∀ j, j < p + 1 → ng L j ≤ (k : Int)) := hide (fun j hj => by
          rcases (by omega : j < p ∨ j = p) with h | rfl
          · have := HT.out j h; omega
          · rw [← HY.out]; exact Int.le_refl _)
        go_wp2_with ((at_builtin; refine wpList_append_int rfl (.tmp 19) (.tmp 21) _ rfl 3 i0 Try.underlying22 hi0 jz0 jz1 jz2 w.heap.size Ao co p (upto 0 p) rfl (U.out.symm) (hol.alloc _) wr.heap.size p rfl (by simp) (by omega) (by simp; omega) ?_; intro A' c' w' hol' hb' hg'); have hc := (hb'.cell (p := ⟨b, o + p, none⟩) hbv).trans (keep_alloc hc _))
        have U2 : Hid (OL w' 3 w.heap.size A' c' (upto 0 (p + 1))) := hide (by
          have := hol'
          rwa [show upto 0 p ++ [(p : Int)] = upto 0 (p + 1) by simp [upto, List.range_succ]] at this)
        go_roundw
        case rel => exact ⟨p + 1, k, A', c', by omega, by omega, by omega, T2.out, rfl, rfl, by go_num, U2.out, (bl_alloc hbl _).trans hb'⟩
        case measure => simp [intOf]; omega
      · have T2 : Hid (∀ j, j < p + 1 → ng L j ≤ (m : Int)) := hide (fun j hj => by
          rcases (by omega : j < p ∨ j = p) with h | rfl
          · have := HT.out j h; omega
          · rw [← HY.out]; exact hmk)
        go_wp2_with ((at_builtin; refine wpList_append_int rfl (.tmp 19) (.tmp 21) _ rfl 3 i0 Try.underlying22 hi0 jz0 jz1 jz2 w.heap.size Ao co p (upto 0 p) rfl (U.out.symm) (hol.alloc _) wr.heap.size p rfl (by simp) (by omega) (by simp; omega) ?_; intro A' c' w' hol' hb' hg'); have hc := (hb'.cell (p := ⟨b, o + p, none⟩) hbv).trans (keep_alloc hc _))
        have U2 : Hid (OL w' 3 w.heap.size A' c' (upto 0 (p + 1))) := hide (by
          have := hol'
          rwa [show upto 0 p ++ [(p : Int)] = upto 0 (p + 1) by simp [upto, List.range_succ]] at this)
        go_roundw
        case rel => exact ⟨p + 1, m, A', c', by omega, by omega, by omega, T2.out, rfl, rfl, by go_num, U2.out, (bl_alloc hbl _).trans hb'⟩
        case measure => simp [intOf]; omega
    · have hpN : N = p := by omega
      subst hpN
      have hor : ordN L m (upto 0 N) = ordL L := by
        have := ordL_top (L := L) (t := m) (by rw [← HN.out]; exact htop) hm6
        rwa [← HN.out] at this
      have hix : Inx L.length (upto 0 N) := by rw [HN.out]; exact upto_inx _
      have HOR := hide hor
      have HIX := hide hix
      clear hp hlt htop hor hix
      go_wp2
      go_loopw [6] (fun i u => ∃ (k : Nat) (M : List Int), k ≤ m ∧ i = .int .i64 k ∧ OL u 3 w.heap.size Ao co M ∧ Inx L.length M ∧ ordN L k M = ordL L ∧ Below w.heap.size w u) (fun i _ => (intOf i).toNat)
      case atStart => exact ⟨m, _, by omega, rfl, hol, HIX.out, HOR.out, hbl⟩
      case round =>
        obtain ⟨k, M, hk, rfl, hol, hix, hor, hbl⟩ := hrel
        have hM := hix.1
        rcases Nat.eq_zero_or_pos k with hk0 | hk0
        · subst hk0
          have E2 : Hid (M = ordL L) := hide (by rw [← hor]; rfl)
          have HM := hide hM
          have HO := hide hol
          clear hor hix hol hM
          go_wp2
          go_ret
          refine ⟨Ao, co, ?_, by rw [← E2.out]; exact HO.out, hbl⟩
          rw [← E2.out, HM.out, ← HN.out]
          rfl
        · have hN0 : 0 < N := by omega
          have hor2 : Hid (ordN L (k - 1) (rr (qv L k) [] M) = ordL L) := hide (by
            rw [← hor]
            obtain ⟨j, rfl⟩ : ∃ j, k = j + 1 := ⟨k - 1, by omega⟩
            rfl)
          have IX2 : Hid (Inx L.length (rr (qv L k) [] M)) := hide (rr_inx hix)
          obtain ⟨T, hT⟩ : ∃ T, T = rr (qv L k) [] M := ⟨_, rfl⟩
          rw [← hT] at hor2 IX2
          have hMN : M.length = N := by rw [hM, ← HN.out]
          obtain ⟨g, rfl, hgB, hgw, hlc, hcm⟩ := hol.form (by omega)
          unfold maxLen at hcm
          rw [hMN] at hlc
          have hin : ∀ x ∈ M, 0 ≤ x ∧ x < (N : Int) := by rw [HN.out]; exact hix.2
          have HMN := hide hMN
          have HIN := hide hin
          have HT := hide hT
          clear hor hix hM hMN hin hT
          go_wp2
          go_loopw [7] (fun i u => ∃ (P S : List Int) (a : Nat), a = P.length ∧ P.length + S.length = N ∧ i = .int .i64 a ∧ OL u 3 w.heap.size (some ⟨g, 0, none⟩) co (P ++ S) ∧ (∀ x ∈ P ++ S, 0 ≤ x ∧ x < (N : Int)) ∧ T = P ++ rr (qv L k) [] S ∧ Below w.heap.size w u) (fun i _ => N - (intOf i).toNat)
          case atStart => exact ⟨[], M, 0, rfl, by simpa using HMN.out, rfl, by simpa using hol, by simpa using HIN.out, by simpa using HT.out, hbl⟩
          case round =>
            obtain ⟨P, S, a, hP, hlen3, rfl, hol, hin, hT, hbl⟩ := hrel
            have HP := hide hP
            by_cases haN : a < N
            · have HL3 := hide hlen3
              have HT3 := hide hT
              have HIN3 : Hid (∀ x ∈ S, 0 ≤ x ∧ x < (N : Int)) := hide (fun x hx => hin x (by simp [hx]))
              have HPN : Hid (∀ x ∈ P, 0 ≤ x ∧ x < (N : Int)) := hide (fun x hx => hin x (by simp [hx]))
              have H3 := hide hol
              have hS0 : S ≠ [] := by rintro rfl; simp at hlen3; omega
              have HS0 := hide hS0
              clear hlen3 hT hin hol hP hS0
              go_wp2
              go_loopw [8] (fun i u => ∃ (R S2 : List Int) (b : Nat), b = a + R.length ∧ b + S2.length = N ∧ i = .int .i64 b ∧ OL u 3 w.heap.size (some ⟨g, 0, none⟩) co (P ++ R ++ S2) ∧ (∀ x ∈ S2, 0 ≤ x ∧ x < (N : Int)) ∧ R ++ S2 = S ∧ T = P ++ rr (qv L k) R.reverse S2 ∧ Below w.heap.size w u) (fun i _ => N - (intOf i).toNat)
              case atStart => exact ⟨[], S, a, rfl, by have := HL3.out; have := HP.out; omega, rfl, by simpa using H3.out, HIN3.out, rfl, HT3.out, hbl⟩
              case round =>
                obtain ⟨R, S2, b, hR, hlen4, rfl, hol, hin, hRS, hT, hbl⟩ := hrel
                match S2, hlen4, hol, hin, hRS, hT with
                | x :: S2, hlen4, hol, hin, hRS, hT =>
                  have hbN : b < N := by simp at hlen4; omega
                  have hc0 := cell_mid hol
                  rw [← HP.out, ← hR] at hc0
                  obtain ⟨x0, x1⟩ := hin x (by simp)
                  obtain ⟨kx, rfl⟩ := Int.eq_ofNat_of_zero_le x0
                  obtain ⟨b1, o1, rfl, _, hc1⟩ := HL.out.at_ (i := kx) (by have := HN.out; omega)
                  have hc1 := keep_cell hbl hc1
                  have hkx : kx < N := by omega
                  have hin2 : ∀ x ∈ S2, 0 ≤ x ∧ x < (N : Int) := fun y hy => hin y (by simp [hy])
                  obtain ⟨y, hy⟩ : ∃ y, y = ng L kx := ⟨_, rfl⟩
                  rw [← hy] at hc1
                  have hq : qv L k (kx : Int) = decide ((k : Int) ≤ y) := by rw [hy]; simp [qv]
                  by_cases hlv : (k : Int) ≤ y
                  · have T1 : Hid (T = P ++ rr (qv L k) (R ++ [(kx : Int)]).reverse S2) := hide (rr_more hT (by rw [hq]; simp; omega))
                    have O1 : Hid (OL wr 3 w.heap.size (some ⟨g, 0, none⟩) co (P ++ (R ++ [(kx : Int)]) ++ S2)) := hide (by simpa using hol)
                    have R1 := hide hR
                    have L1 := hide hlen4
                    have I1 := hide hin2
                    have RS1 : Hid ((R ++ [(kx : Int)]) ++ S2 = S) := hide (by rw [← hRS]; simp)
                    clear hT hq hin hin2 hol hR hlen4 hy hRS
                    go_wp2
                    go_roundw
                    case rel => exact ⟨R ++ [(kx : Int)], S2, b + 1, by simp; have := R1.out; omega, by have := L1.out; simp at this ⊢; omega, by go_num, O1.out, I1.out, RS1.out, T1.out, hbl⟩
                    case measure => simp [intOf]; omega
                  · have HRN : (kx : Int) :: S2 = [] → R ≠ [] := fun h => by cases h
                    have HQN : ∀ x S', (kx : Int) :: S2 = x :: S' → qv L k x = false := fun x S' h => by
                      injection h with h1 h2
                      subst h1
                      rw [hq]; simp; omega
                    have hP0 := HP.out
                    obtain ⟨SS, hSS⟩ : ∃ SS, SS = (kx : Int) :: S2 := ⟨_, rfl⟩
                    rw [← hSS] at hT HRN HQN hol hlen4 hRS
                    clear hq hin2 hy hSS
                    obtain ⟨P2, S3, e1, e2, e3, e4, e5, e6, e7⟩ := run_end (P := P) (R := R) (S := SS) (N := N) (by rw [← hP0]; omega) hT HRN HQN
                    have E1 := hide e1
                    have E2 := hide e2
                    have E7 := hide e7
                    have O4 := hide hol
                    have R4 := hide hR
                    have L4 : Hid (P.length + R.length + SS.length = N) := hide (by rw [← hP0]; omega)
                    have I5 : Hid (∀ x ∈ P2 ++ S3, 0 ≤ x ∧ x < (N : Int)) := hide (fun x hx => by
                      have h1 : x ∈ P ++ R.reverse ++ SS := by rw [e1]; exact hx
                      have h2 : x ∈ R ++ SS ∨ x ∈ P := by simp at h1 ⊢; rcases h1 with h | h | h <;> simp [h]
                      rcases h2 with h | h
                      · rw [hRS] at h; exact HIN3.out x h
                      · exact HPN.out x h)
                    rw [← hP0] at e3 e5 e6
                    rw [← hR] at e5 e6
                    have hab : a ≤ b := by omega
                    clear hT hin hol hR hlen4 hRS e1 e2 e7 HRN HQN hP0
                    go_wp2
                    go_loopw [9, 10] (fun f h u => ∃ (t d : Nat) (z : Int), d = a + t ∧ z + t = (b : Int) - 1 ∧ a + 2 * t ≤ b ∧ f = .int .i64 d ∧ h = .int .i64 z ∧ OL u 3 w.heap.size (some ⟨g, 0, none⟩) co (rvs (P ++ R ++ SS) a b t) ∧ Below w.heap.size w u) (fun f _ _ => N - (intOf f).toNat)
                    case atStart => exact ⟨0, a, (b : Int) - 1, rfl, by omega, by omega, rfl, rfl, by rw [rvs_zero]; exact O4.out, hbl⟩
                    case round =>
                      obtain ⟨t, d, z, hd, hz, h2t, rfl, rfl, hol, hbl⟩ := hrel
                      by_cases hdz : (d : Int) < z
                      · obtain ⟨m2, rfl⟩ := Int.eq_ofNat_of_zero_le (show 0 ≤ z by omega)
                        have hlt' : a + t < b - 1 - t := by omega
                        have hkm : b - 1 - t = m2 := by omega
                        have hM4 : (P ++ R ++ SS).length = N := by have := L4.out; simp at this ⊢; omega
                        have R1 := rvs_lo (M := P ++ R ++ SS) hlt' (by omega)
                        have R2 := rvs_hi (M := P ++ R ++ SS) hlt' (by omega)
                        have R3 := rvs_step (M := P ++ R ++ SS) hlt' (by omega)
                        rw [hkm] at R2 R3
                        rw [← hd] at R1 R3
                        obtain ⟨x5, hx⟩ : ∃ x, x = ng (P ++ R ++ SS) d := ⟨_, rfl⟩
                        obtain ⟨y5, hy⟩ : ∃ y, y = ng (P ++ R ++ SS) m2 := ⟨_, rfl⟩
                        rw [← hx] at R1 R3
                        rw [← hy] at R2 R3
                        clear hx hy
                        obtain ⟨b2, o2, he, _, c0⟩ := hol.reads.at_ (i := d) (by rw [rvs_len]; omega)
                        injection he with he
                        cases he
                        obtain ⟨b2, o2, he, _, c1⟩ := hol.reads.at_ (i := m2) (by rw [rvs_len]; omega)
                        injection he with he
                        cases he
                        rw [Nat.zero_add, R1] at c0
                        rw [Nat.zero_add, R2] at c1
                        obtain ⟨g', he', _, _, hfz⟩ := hol.frozen (by rw [rvs_len]; omega)
                        injection he' with he'
                        cases he'
                        have f0 := hfz d
                        have f1 := hfz m2
                        have S2' := hide ((hol.set_ d y5).1.set_ m2 x5)
                        have HR3 := hide R3
                        have HD := hide hd
                        have HZ := hide hz
                        have dz : d < N := by omega
                        have mz : m2 < N := by omega
                        clear hfz hol R1 R2 R3 hkm hM4 hd hz
                        go_wp2
                        go_roundw
                        case rel => exact ⟨t + 1, d + 1, (m2 : Int) - 1, by have := HD.out; omega, by have := HZ.out; omega, by omega, by go_num, by go_num, (by have := S2'.out.1; rw [HR3.out] at this; exact this), bl_set (bl_set hbl hgB _) hgB _⟩
                        case measure => simp [intOf]; omega
                      · have O5 : Hid (OL wr 3 w.heap.size (some ⟨g, 0, none⟩) co (P2 ++ S3)) := hide (by
                          have e := rvs_done (P := P) (R := R) (S := SS) (t := t) (by have := HP.out; have := R4.out; omega) (by have := HP.out; have := R4.out; omega)
                          rw [← HP.out, ← R4.out, E1.out] at e
                          rw [e] at hol
                          exact hol)
                        clear hol hd hz
                        rcases (by omega : (b : Int) < (a : Int) + 1 ∨ (a : Int) + 1 ≤ (b : Int)) with hm | hm
                        · go_wp2
                          go_roundw
                          case rel => exact ⟨P2, S3, a + 1, by have := HP.out; omega, E2.out, by go_num, O5.out, I5.out, E7.out, hbl⟩
                          case measure => simp [intOf]; omega
                        · go_wp2
                          go_roundw
                          case rel => exact ⟨P2, S3, b, by have := HP.out; omega, E2.out, rfl, O5.out, I5.out, E7.out, hbl⟩
                          case measure => simp [intOf]; omega
                | [], hlen4, hol, hin, hRS, hT =>
                  have hbN : ¬ b < N := by simp at hlen4; omega
                  have hbN2 : b ≤ N := by simp at hlen4; omega
                  have hab0 : a < b := by simp at hlen4; omega
                  have hP0 := HP.out
                  obtain ⟨SS, hSS⟩ : ∃ SS, SS = ([] : List Int) := ⟨_, rfl⟩
                  rw [← hSS] at hT hol hlen4 hRS
                  have HRN : SS = [] → R ≠ [] := fun _ h => by subst h; simp at hR; omega
                  have HQN : ∀ x S', SS = x :: S' → qv L k x = false := fun x S' h => by rw [hSS] at h; cases h
                  clear hSS
                  obtain ⟨P2, S3, e1, e2, e3, e4, e5, e6, e7⟩ := run_end (P := P) (R := R) (S := SS) (N := N) (by rw [← hP0]; omega) hT HRN HQN
                  have E1 := hide e1
                  have E2 := hide e2
                  have E7 := hide e7
                  have O4 := hide hol
                  have R4 := hide hR
                  have L4 : Hid (P.length + R.length + SS.length = N) := hide (by rw [← hP0]; omega)
                  have I5 : Hid (∀ x ∈ P2 ++ S3, 0 ≤ x ∧ x < (N : Int)) := hide (fun x hx => by
                    have h1 : x ∈ P ++ R.reverse ++ SS := by rw [e1]; exact hx
                    have h2 : x ∈ R ++ SS ∨ x ∈ P := by simp at h1 ⊢; rcases h1 with h | h | h <;> simp [h]
                    rcases h2 with h | h
                    · rw [hRS] at h; exact HIN3.out x h
                    · exact HPN.out x h)
                  rw [← hP0] at e3 e5 e6
                  rw [← hR] at e5 e6
                  have hab : a ≤ b := by omega
                  clear hT hin hol hR hlen4 hRS e1 e2 e7 HRN HQN hP0
                  go_wp2
                  go_loopw [9, 10] (fun f h u => ∃ (t d : Nat) (z : Int), d = a + t ∧ z + t = (b : Int) - 1 ∧ a + 2 * t ≤ b ∧ f = .int .i64 d ∧ h = .int .i64 z ∧ OL u 3 w.heap.size (some ⟨g, 0, none⟩) co (rvs (P ++ R ++ SS) a b t) ∧ Below w.heap.size w u) (fun f _ _ => N - (intOf f).toNat)
                  case atStart => exact ⟨0, a, (b : Int) - 1, rfl, by omega, by omega, rfl, rfl, by rw [rvs_zero]; exact O4.out, hbl⟩
                  case round =>
                    obtain ⟨t, d, z, hd, hz, h2t, rfl, rfl, hol, hbl⟩ := hrel
                    by_cases hdz : (d : Int) < z
                    · obtain ⟨m2, rfl⟩ := Int.eq_ofNat_of_zero_le (show 0 ≤ z by omega)
                      have hlt' : a + t < b - 1 - t := by omega
                      have hkm : b - 1 - t = m2 := by omega
                      have hM4 : (P ++ R ++ SS).length = N := by have := L4.out; simp at this ⊢; omega
                      have R1 := rvs_lo (M := P ++ R ++ SS) hlt' (by omega)
                      have R2 := rvs_hi (M := P ++ R ++ SS) hlt' (by omega)
                      have R3 := rvs_step (M := P ++ R ++ SS) hlt' (by omega)
                      rw [hkm] at R2 R3
                      rw [← hd] at R1 R3
                      obtain ⟨x5, hx⟩ : ∃ x, x = ng (P ++ R ++ SS) d := ⟨_, rfl⟩
                      obtain ⟨y5, hy⟩ : ∃ y, y = ng (P ++ R ++ SS) m2 := ⟨_, rfl⟩
                      rw [← hx] at R1 R3
                      rw [← hy] at R2 R3
                      clear hx hy
                      obtain ⟨b2, o2, he, _, c0⟩ := hol.reads.at_ (i := d) (by rw [rvs_len]; omega)
                      injection he with he
                      cases he
                      obtain ⟨b2, o2, he, _, c1⟩ := hol.reads.at_ (i := m2) (by rw [rvs_len]; omega)
                      injection he with he
                      cases he
                      rw [Nat.zero_add, R1] at c0
                      rw [Nat.zero_add, R2] at c1
                      obtain ⟨g', he', _, _, hfz⟩ := hol.frozen (by rw [rvs_len]; omega)
                      injection he' with he'
                      cases he'
                      have f0 := hfz d
                      have f1 := hfz m2
                      have S2' := hide ((hol.set_ d y5).1.set_ m2 x5)
                      have HR3 := hide R3
                      have HD := hide hd
                      have HZ := hide hz
                      have dz : d < N := by omega
                      have mz : m2 < N := by omega
                      clear hfz hol R1 R2 R3 hkm hM4 hd hz
                      go_wp2
                      go_roundw
                      case rel => exact ⟨t + 1, d + 1, (m2 : Int) - 1, by have := HD.out; omega, by have := HZ.out; omega, by omega, by go_num, by go_num, (by have := S2'.out.1; rw [HR3.out] at this; exact this), bl_set (bl_set hbl hgB _) hgB _⟩
                      case measure => simp [intOf]; omega
                    · have O5 : Hid (OL wr 3 w.heap.size (some ⟨g, 0, none⟩) co (P2 ++ S3)) := hide (by
                        have e := rvs_done (P := P) (R := R) (S := SS) (t := t) (by have := HP.out; have := R4.out; omega) (by have := HP.out; have := R4.out; omega)
                        rw [← HP.out, ← R4.out, E1.out] at e
                        rw [e] at hol
                        exact hol)
                      clear hol hd hz
                      rcases (by omega : (b : Int) < (a : Int) + 1 ∨ (a : Int) + 1 ≤ (b : Int)) with hm | hm
                      · go_wp2
                        go_roundw
                        case rel => exact ⟨P2, S3, a + 1, by have := HP.out; omega, E2.out, by go_num, O5.out, I5.out, E7.out, hbl⟩
                        case measure => simp [intOf]; omega
                      · go_wp2
                        go_roundw
                        case rel => exact ⟨P2, S3, b, by have := HP.out; omega, E2.out, rfl, O5.out, I5.out, E7.out, hbl⟩
                        case measure => simp [intOf]; omega
            · have hS0 : S = [] := List.eq_nil_of_length_eq_zero (by omega)
              have O6 : Hid (OL wr 3 w.heap.size (some ⟨g, 0, none⟩) co T) := hide (by rw [hT, hS0, rr_nil]; simpa [hS0] using hol)
              clear hT hol hin hP hlen3 hS0
              go_wp2
              go_roundw
              case rel => exact ⟨k - 1, T, by omega, by go_num, O6.out, IX2.out, hor2.out, hbl⟩
              case measure => simp [intOf]; omega

theorem OrderOf_s (w : World) (A : Option Addr) (n cL : Nat) (L : List Int) (hL : IL w A n L) (hn : n ≤ 4611686018427387904) :
    Calls Try.prog 22 #[.slice A n cL] w fun e w' => ∃ A' c', e = .returned (.slice A' (ordO L).length c') ∧ OL w' 3 w.heap.size A' c' (ordO L) ∧ Below w.heap.size w w' := by
  obtain rfl : n = L.length := hL.1
  have E0 := hide (okL_aw L)
  go_enter Try.func22, Try.ntmps22
  go_wp2
  go_loop [3] (fun i => ∃ p : Nat, p ≤ L.length ∧ i = .int .i64 p ∧ AWTo L 0 6 p) (fun i => L.length - (intOf i).toNat)
  case atStart => exact ⟨0, by omega, rfl, AWTo.zero _ _ _⟩
  case round =>
    obtain ⟨p, hp, rfl, hw⟩ := hrel
    have HW := hide hw
    clear hw
    by_cases hlt : p < L.length
    · obtain ⟨b, o, rfl, _, hc⟩ := hL.at_ hlt
      cases q : inB (ng L p) 0 6
      · have E := hide (ordO_no (L := L) (by rw [E0.out, aw_bad hlt q, Bool.and_false]))
        go_wp2_with (go_at_call 37; refine (inRange_any _ _ _ _).mono ?_; rintro e w' ⟨rfl, rfl⟩)
        go_ret
        rw [E.out]
        exact ⟨none, 0, rfl, OL.nil _ _ _, bl_refl _⟩
      · have M := hide (HW.out.step q)
        go_wp2_with (go_at_call 37; refine (inRange_any _ _ _ _).mono ?_; rintro e w' ⟨rfl, rfl⟩)
        go_round
        case rel => exact ⟨p + 1, by omega, by go_num, M.out⟩
        case measure => simp [intOf]; omega
    · have EA := hide (aw_all (l := L) (lo := 0) (hi := 6) (by rw [show L.length = p from by omega]; exact HW.out))
      rcases (by omega : 60 < L.length ∨ L.length ≤ 60) with hlen | hlen
      · have E := hide (ordO_no (L := L) (by rw [E0.out]; simp; intro h; omega))
        go_wp2
        go_ret
        rw [E.out]
        exact ⟨none, 0, rfl, OL.nil _ _ _, bl_refl _⟩
      · have E := hide (ordO_yes (L := L) (by rw [E0.out, EA.out]; simpa using hlen))
        have RC := reorder_s w A L.length cL L hL hlen (aw_iff.1 EA.out)
        rw [← E.out] at RC
        have RC := hide RC
        go_wp2_with fail
        refine RC.out.mono ?_
        rintro e w' ⟨A', c', rfl, ho, hb⟩
        go_wp2
        go_ret
        exact ⟨A', c', rfl, ho, hb⟩
end Go.Proofs.Yteoiphjkkcjddaa
