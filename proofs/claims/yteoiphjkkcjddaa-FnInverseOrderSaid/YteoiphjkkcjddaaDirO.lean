/- Orders by levels in the program and its model. -/
import Derived.Test.YteoiphjkkcjddaaDirM
import Derived.Test.YteoiphjkkcjddaaAllW
import Derived.Test.YteoiphjkkcjddaaRead
import Derived.Deep.RegionWith
namespace Go.Proofs.Yteoiphjkkcjddaa
open Go.ChangeShapes Go.WideShapes Go.ChangeAt Go.RowKit
set_option linter.unusedVariables false

theorem okL_aw (L : List Int) : okL L = (decide (L.length ≤ 60) && aw L 0 6) := by
  rw [Bool.eq_iff_iff, okL_iff, Bool.and_eq_true, aw_iff, decide_eq_true_eq]
theorem gd_drew {a w : World} {row : Option Nat} (h : a.grownBy w row) : a.grownBy w.drew row := ⟨h.os, h.tape, h.output, h.size, h.block⟩

theorem Reverse_nil (w : World) (A : Option Addr) (C : Nat) :
    Calls Try.prog 57 #[.slice A 0 C] w fun e w' => e = .returned (.tuple #[]) ∧ w = w' := by
  go_enter Try.func57, Try.ntmps57
  go_wp2
  go_loopw [2, 3] (fun i j u => i = .int .i64 0 ∧ j = .int .i64 (-1) ∧ u = w) (fun _ _ _ => 0)
  case atStart => exact ⟨rfl, rfl, rfl⟩
  case round =>
    obtain ⟨rfl, rfl, rfl⟩ := hrel
    go_wp2
    go_end0
    exact ⟨rfl, rfl⟩
set_option maxHeartbeats 1000000 in
theorem Reverse_rvs (w : World) (B g c C p n : Nat) (M : List Int) (h : OL w 3 B (some ⟨g, 0, none⟩) c M) (hn : p + n ≤ M.length) (hm : M.length ≤ 1000000) :
    Calls Try.prog 57 #[.slice (some ⟨g, p, none⟩) n C] w fun e w' => e = .returned (.tuple #[]) ∧ (∃ t, n ≤ 2 * t + 1 ∧ t ≤ n ∧ OL w' 3 B (some ⟨g, 0, none⟩) c (rvs M p (p + n) t)) ∧ w.grownBy w' (some g) := by
  have H0 : Hid (OL w 3 B (some ⟨g, 0, none⟩) c (rvs M p (p + n) 0)) := hide (by rw [rvs_zero]; exact h)
  clear h
  go_enter Try.func57, Try.ntmps57
  go_wp2
  go_loopw [2, 3] (fun i j u => ∃ (t : Nat) (z : Int), (t : Int) + z = (n : Int) - 1 ∧ 2 * t ≤ n ∧ i = .int .i64 t ∧ j = .int .i64 z ∧ OL u 3 B (some ⟨g, 0, none⟩) c (rvs M p (p + n) t) ∧ w.grownBy u (some g)) (fun i _ _ => n - (intOf i).toNat)
  case atStart => exact ⟨0, (n : Int) - 1, by omega, by omega, rfl, rfl, H0.out, World.grownBy.refl _ _⟩
  case round =>
    obtain ⟨t, z, hz, ht, rfl, rfl, hol, hgr⟩ := hrel
    by_cases hlt : (t : Int) < z
    · obtain ⟨m, rfl⟩ := Int.eq_ofNat_of_zero_le (show 0 ≤ z by omega)
      have hlt' : p + t < p + n - 1 - t := by omega
      have hkm : p + n - 1 - t = p + m := by omega
      have R1 := rvs_lo hlt' (by omega)
      have R2 := rvs_hi hlt' (by omega)
      have R3 := rvs_step hlt' (by omega)
      have R4 := rvs_step' hlt' (by omega)
      rw [hkm] at R2 R3 R4
      obtain ⟨x, hx⟩ : ∃ x, x = ng M (p + t) := ⟨_, rfl⟩
      obtain ⟨y, hy⟩ : ∃ y, y = ng M (p + m) := ⟨_, rfl⟩
      rw [← hx] at R1 R3 R4
      rw [← hy] at R2 R3 R4
      clear hx hy
      obtain ⟨b, o, he, _, c0⟩ := hol.reads.at_ (i := p + t) (by rw [rvs_len]; omega)
      injection he with he
      cases he
      obtain ⟨b, o, he, _, c1⟩ := hol.reads.at_ (i := p + m) (by rw [rvs_len]; omega)
      injection he with he
      cases he
      rw [Nat.zero_add, R1] at c0
      rw [Nat.zero_add, R2] at c1
      obtain ⟨g', he', _, _, hfz⟩ := hol.frozen (by rw [rvs_len]; omega)
      injection he' with he'
      cases he'
      have f0 := hfz (p + t)
      have f1 := hfz (p + m)
      have S1 := hide (hol.set_ (p + t) y)
      have S2 := hide (S1.out.1.set_ (p + m) x)
      have S3 := hide (hol.set_ (p + m) x)
      have S4 := hide (S3.out.1.set_ (p + t) y)
      have HR3 := hide R3
      have HR4 := hide R4
      have HG := hide hgr
      clear hfz hol R1 R2 R3 R4 hgr hkm
      go_wp2
      go_region
      all_goals
        go_wp2
        go_roundw
        case rel =>
          first
          | exact ⟨t + 1, (m : Int) - 1, by omega, by omega, by go_num, by go_num, (by have := S2.out.1; rw [HR3.out] at this; exact this), gd_drew (on_set' (on_set' HG.out (.inl rfl) _) (.inl rfl) _)⟩
          | exact ⟨t + 1, (m : Int) - 1, by omega, by omega, by go_num, by go_num, (by have := S4.out.1; rw [HR4.out] at this; exact this), gd_drew (on_set' (on_set' HG.out (.inl rfl) _) (.inl rfl) _)⟩
          | exact ⟨t + 1, (m : Int) - 1, by omega, by omega, by go_num, by go_num, (by have := S2.out.1; rw [HR3.out] at this; exact this), (on_set' (on_set' HG.out (.inl rfl) _) (.inl rfl) _)⟩
          | exact ⟨t + 1, (m : Int) - 1, by omega, by omega, by go_num, by go_num, (by have := S4.out.1; rw [HR4.out] at this; exact this), (on_set' (on_set' HG.out (.inl rfl) _) (.inl rfl) _)⟩
        case measure => simp [intOf]; omega
    · have M' := hide hol
      clear hol
      go_wp2
      go_end0
      exact ⟨rfl, ⟨t, by omega, by omega, M'.out⟩, hgr⟩
theorem Reverse_ints (w : World) (B g c C : Nat) (P R S : List Int) (h : OL w 3 B (some ⟨g, 0, none⟩) c (P ++ R ++ S)) (hm : (P ++ R ++ S).length ≤ 1000000) :
    Calls Try.prog 57 #[.slice (some ⟨g, P.length, none⟩) R.length C] w fun e w' => e = .returned (.tuple #[]) ∧ OL w' 3 B (some ⟨g, 0, none⟩) c (P ++ R.reverse ++ S) ∧ w.grownBy w' (some g) := by
  refine (Reverse_rvs w B g c C P.length R.length _ h (by simp) hm).mono ?_
  rintro e w' ⟨he, ⟨t, h1, h2, h3⟩, hg⟩
  rw [rvs_done h1 h2] at h3
  exact ⟨he, h3, hg⟩

theorem cell_mid {u : World} {e : TypeId} {B g c : Nat} {P R S : List Int} {x : Int} (h : OL u e B (some ⟨g, 0, none⟩) c (P ++ R ++ x :: S)) : u.cell? ⟨g, P.length + R.length, none⟩ = some (.int .i64 x) := by
  obtain ⟨b, o, he, _, hc⟩ := h.reads.at_ (i := P.length + R.length) (by simp)
  injection he with he
  cases he
  rw [Nat.zero_add] at hc
  rw [hc]
  simp [ng, List.getD, List.getElem?_append]
theorem rr_mid {q : Int → Bool} {P R S T : List Int} {x : Int} (hT : T = P ++ rr q R.reverse (x :: S)) (hq : q x = false) : T = (P ++ R.reverse ++ [x]) ++ rr q [] S := by
  rw [hT, rr_no hq]; simp
theorem rr_more {q : Int → Bool} {P R S T : List Int} {x : Int} (hT : T = P ++ rr q R.reverse (x :: S)) (hq : q x = true) : T = P ++ rr q (R ++ [x]).reverse S := by
  rw [hT, rr_yes hq]; simp
set_option maxHeartbeats 1000000 in
theorem reverseRuns_i (v w : World) (A : Option Addr) (nL cL g c n : Nat) (L M : List Int) (hL : IL v A nL L) (hb : Below v.heap.size v w) (h : OL w 3 v.heap.size (some ⟨g, 0, none⟩) c M) (hi : Inx L.length M) (hl : L.length ≤ 60) (h0 : 0 < M.length) (hn6 : n ≤ 6) :
    Calls Try.prog 45 #[.slice (some ⟨g, 0, none⟩) M.length c, .slice A nL cL, .int .i64 n] w fun e w' => e = .returned (.tuple #[]) ∧ OL w' 3 v.heap.size (some ⟨g, 0, none⟩) c (rr (qv L n) [] M) ∧ w.grownBy w' (some g) := by
  obtain ⟨T, hT⟩ : ∃ T, T = rr (qv L n) [] M := ⟨_, rfl⟩
  rw [← hT]
  obtain rfl : nL = L.length := hL.1
  have hM := hi.1
  obtain ⟨g', he', hgB, hgw, hlc, hcm⟩ := h.form h0
  injection he' with he'
  cases he'
  obtain ⟨N, hN⟩ : ∃ N, N = M.length := ⟨_, rfl⟩
  rw [← hN] at hM hlc h0 ⊢
  have HT := hide hT
  have HL := hide hL
  have HN := hide hN
  have HI := hide hi
  have hN60 : N ≤ 60 := by omega
  have HM := hide hM
  clear hM
  have T0 : Hid (T = [] ++ rr (qv L n) [] M) := hide hT
  unfold maxLen at hcm
  clear hT hN hL hi
  go_enter Try.func45, Try.ntmps45
  go_wp2
  go_loopw [6, 11] (fun f i u => ∃ (P R S : List Int) (a b : Nat), a = P.length ∧ b = P.length + R.length ∧ P.length + R.length + S.length = N ∧ f = .int .i64 a ∧ i = .int .i64 b ∧ OL u 3 v.heap.size (some ⟨g, 0, none⟩) c (P ++ R ++ S) ∧ (∀ x ∈ R, qv L n x = true) ∧ (∀ x ∈ S, 0 ≤ x ∧ x < (L.length : Int)) ∧ T = P ++ rr (qv L n) R.reverse S ∧ w.grownBy u (some g)) (fun _ i _ => N - (intOf i).toNat)
  case atStart => exact ⟨[], [], M, 0, 0, rfl, rfl, by have := HN.out; simp; omega, rfl, rfl, h, by simp, HI.out.2, T0.out, World.grownBy.refl _ _⟩
  case round =>
    obtain ⟨P, R, S, a, b, hP, hR, hlen, rfl, rfl, hol, hrun, hin, hT, hgr⟩ := hrel
    have hB := hb.grown hgr hb.size (fun k hk => by injection hk with hk; omega)
    match S, hlen, hol, hin, hT with
    | x :: S, hlen, hol, hin, hT =>
      have hlt : b < N := by simp at hlen; omega
      have hc0 := cell_mid hol
      rw [← hR] at hc0
      obtain ⟨x0, x1⟩ := hin x (by simp)
      obtain ⟨k, rfl⟩ := Int.eq_ofNat_of_zero_le x0
      obtain ⟨b1, o1, rfl, _, hc1⟩ := HL.out.at_ (i := k) (by omega)
      have hc1 := keep_cell hB hc1
      have hk : k < L.length := by omega
      have hin2 : ∀ x ∈ S, 0 ≤ x ∧ x < (L.length : Int) := fun y hy => hin y (by simp [hy])
      have hab : a ≤ b := by omega
      have hbc : b ≤ c := by omega
      have hac : ¬ a = c := by omega
      obtain ⟨y, hy⟩ : ∃ y, y = ng L k := ⟨_, rfl⟩
      rw [← hy] at hc1
      have hq : qv L n (k : Int) = decide ((n : Int) ≤ y) := by rw [hy]; simp [qv]
      have HP := hide hP
      have HR := hide hR
      have HLN := hide hlen
      have HRUN := hide hrun
      have HIN := hide hin2
      by_cases hlv : y < (n : Int)
      · have T1 := hide (rr_mid hT (by rw [hq]; simp; omega))
        have O1 := hide hol
        have HG := hide hgr
        clear hT hq hrun hin hin2 hol hgr hP hR hlen hy
        go_wp2_with fail
        rw [HP.out, show b - P.length = R.length from by have := HR.out; omega]
        refine (Reverse_ints _ v.heap.size g c _ P R (k :: S) O1.out (by simp; have := HLN.out; simp at this; omega)).mono ?_
        rintro e w' ⟨rfl, ho1, hg1⟩
        go_wp2
        go_roundw
        case rel => exact ⟨P ++ R.reverse ++ [(k : Int)], [], S, b + 1, b + 1, by simp; have := HR.out; omega, by simp; have := HR.out; omega, by have := HLN.out; simp at this ⊢; omega, by go_num, by go_num, by simpa using ho1, by simp, HIN.out, T1.out, on_call hg1 HG.out⟩
        case measure => simp [intOf]; omega
      · have T1 := hide (rr_more hT (by rw [hq]; simp; omega))
        have O1 : Hid (OL wr 3 v.heap.size (some ⟨g, 0, none⟩) c (P ++ (R ++ [(k : Int)]) ++ S)) := hide (by simpa using hol)
        have HG := hide hgr
        have R1 : Hid (∀ x ∈ R ++ [(k : Int)], qv L n x = true) := hide (fun x hx => by
          rcases List.mem_append.1 hx with hx | hx
          · exact hrun x hx
          · simp at hx; subst hx; rw [hq]; simp; omega)
        clear hT hq hrun hin hin2 hol hgr hP hR hlen hy
        go_wp2
        go_roundw
        case rel => exact ⟨P, R ++ [(k : Int)], S, a, b + 1, HP.out, by simp; have := HR.out; omega, by have := HLN.out; simp at this ⊢; omega, rfl, by go_num, O1.out, R1.out, HIN.out, T1.out, HG.out⟩
        case measure => simp [intOf]; omega
    | [], hlen, hol, hin, hT =>
      have hbN : b = N := by simp at hlen; omega
      subst hbN
      have hT2 : T = P ++ R.reverse := by rw [hT, rr_nil]
      subst hT2
      have hac : a ≤ c := by omega
      rcases (by omega : a = b ∨ a < b) with hab | hab
      · have hR0 : R = [] := List.eq_nil_of_length_eq_zero (by omega)
        subst hR0
        have O1 : Hid (OL wr 3 v.heap.size (some ⟨g, 0, none⟩) c (P ++ [].reverse)) := hide (by simpa using hol)
        have HG := hide hgr
        clear hT hrun hin hol hgr hP hR hlen
        subst hab
        rcases (by omega : a = c ∨ ¬ a = c) with hc | hc
        all_goals
          go_wp2_with fail
          try simp only [Nat.sub_self]
          refine (Reverse_nil _ _ _).mono ?_
          rintro e w' ⟨rfl, rfl⟩
          go_wp2
          go_end0
          exact ⟨rfl, O1.out, HG.out⟩
      · have hc : ¬ a = c := by omega
        have O1 := hide hol
        have HG := hide hgr
        have HP := hide hP
        have HR := hide hR
        clear hT hrun hin hol hgr hP hR hlen
        go_wp2_with fail
        rw [HP.out, show b - P.length = R.length from by have := HR.out; omega]
        refine (Reverse_ints _ v.heap.size g c _ P R [] O1.out (by simp; have := HR.out; omega)).mono ?_
        rintro e w' ⟨rfl, ho1, hg1⟩
        rw [List.append_nil] at ho1
        go_wp2
        go_end0
        exact ⟨rfl, ho1, on_call hg1 HG.out⟩

theorem reverseRuns_nil (w : World) (X A : Option Addr) (nL cL n : Nat) (hn : n ≤ 6) :
    Calls Try.prog 45 #[.slice X 0 0, .slice A nL cL, .int .i64 n] w fun e w' => e = .returned (.tuple #[]) ∧ w = w' := by
  go_enter Try.func45, Try.ntmps45
  go_wp2
  go_loopw [6, 11] (fun f i u => f = .int .i64 0 ∧ i = .int .i64 0 ∧ u = w) (fun _ _ _ => 0)
  case atStart => exact ⟨rfl, rfl, rfl⟩
  case round =>
    obtain ⟨rfl, rfl, rfl⟩ := hrel
    go_wp2_with fail
    refine (Reverse_nil _ _ _).mono ?_
    rintro e w' ⟨rfl, rfl⟩
    go_wp2
    go_end0
    exact ⟨rfl, rfl⟩

set_option maxHeartbeats 1000000 in
theorem OrderOf_i (w : World) (A : Option Addr) (n cL : Nat) (L : List Int) (hL : IL w A n L) (hn : n ≤ 4611686018427387904) :
    Calls Try.prog 24 #[.slice A n cL] w fun e w' => ∃ A' c', e = .returned (.slice A' (ordO L).length c') ∧ OL w' 3 w.heap.size A' c' (ordO L) ∧ Below w.heap.size w w' := by
  obtain rfl : n = L.length := hL.1
  have E0 := okL_aw L
  rcases (by omega : 60 < L.length ∨ L.length ≤ 60) with hlen | hlen
  · have E := hide (ordO_no (L := L) (by rw [E0]; simp; intro h; omega))
    clear E0
    go_enter Try.func24, Try.ntmps24
    go_wp2
    go_ret
    rw [E.out]
    exact ⟨none, 0, rfl, OL.nil _ _ _, bl_refl _⟩
  · rw [show decide (L.length ≤ 60) = true by simpa using hlen, Bool.true_and] at E0
    cases q : aw L 0 6
    · have E := hide (ordO_no (L := L) (by rw [E0, q]))
      clear E0
      go_enter Try.func24, Try.ntmps24
      go_wp2_with (go_at_call 44; refine (allWithin_i _ _ _ _ _ _ _ hL hn).mono ?_; rintro e w' ⟨rfl, rfl⟩)
      go_ret
      rw [E.out]
      exact ⟨none, 0, rfl, OL.nil _ _ _, bl_refl _⟩
    · have E := hide (ordO_yes (L := L) (by rw [E0, q]))
      have HL := hide hL
      have hlR : (List.replicate L.length (0 : Int)).length = (upto 0 L.length).length := by rw [upto_len]; simp
      have HLR := hide hlR
      obtain ⟨i0, hi0, hz0, hz1, hz2⟩ := info_parts int_info
      clear E0 hlR
      go_enter Try.func24, Try.ntmps24
      go_wp2_with (first | (go_at_call 44; refine (allWithin_i _ _ _ _ _ _ _ hL hn).mono ?_; rintro e w' ⟨rfl, rfl⟩) | (refine wpList_make_full _ rfl _ _ _ rfl w.heap.size 3 i0 _ 1 Try.underlying22 hi0 hz0 hz1 .i64 .i64 _ _ L.length rfl rfl rfl rfl (by rw [hz2]; omega) (by unfold maxLen; omega) (Nat.le_refl _) ?_; intro w1 hown hgr))
      have H0 : Hid (OL w1 3 w.heap.size (some ⟨w.heap.size, 0, none⟩) L.length (mix (upto 0 L.length) (List.replicate L.length 0) 0)) := hide (by
        rw [mix_zero]; unfold OL
        have e1 : (madeCells (Value.int .i64 0).cells L.length).toList = List.replicate L.length (.int .i64 0) := toList_madeCells_one _ _
        simp only [Nat.mul_one, e1] at hown
        simpa using hown)
      have hb1 := below_new hgr
      have hz0 : w.heap.size ≤ w1.heap.size := hb1.size
      clear hown hgr hL
      go_wp2
      go_loopw [19] (fun i u => ∃ p : Nat, p ≤ L.length ∧ i = .int .i64 p ∧ OL u 3 w.heap.size (some ⟨w.heap.size, 0, none⟩) L.length (mix (upto 0 L.length) (List.replicate L.length 0) p) ∧ Below w.heap.size w u) (fun i _ => L.length - (intOf i).toNat)
      case atStart => exact ⟨0, by omega, rfl, H0.out, hb1⟩
      case round =>
        obtain ⟨p, hp, rfl, hol, hbl⟩ := hrel
        have hml : (mix (upto 0 L.length) (List.replicate L.length 0) p).length = L.length := (mix_len HLR.out p).trans (upto_len _ _)
        by_cases hlt : p < L.length
        · have M := hide (hol.set_ p (p : Int)).1
          have hc := hol.reads.at_ (i := p) (by omega)
          obtain ⟨b, o, he, hg, hc⟩ := hc
          obtain ⟨g', he', _, _, hfz⟩ := hol.frozen (by omega)
          injection he with he; injection he' with he'
          cases he; cases he'
          have fz := hfz p
          rw [Nat.zero_add] at hc
          clear hml hfz hol
          go_wp2
          go_roundw
          case rel =>
            refine ⟨p + 1, by omega, by go_num, ?_, bl_set hbl (Nat.le_refl _) _⟩
            have := M.out
            rwa [mix_put HLR.out (by rw [upto_len]; exact hlt) (by rw [upto_get hlt, Int.zero_add])] at this
          case measure => simp [intOf]; omega
        · have hpe : p = L.length := by omega
          have M : Hid (OL wr 3 w.heap.size (some ⟨w.heap.size, 0, none⟩) L.length (upto 0 L.length)) := hide (by
            rwa [hpe, mix_done HLR.out (upto_len _ _)] at hol)
          subst hpe
          clear hml hol
          go_wp2
          go_loopw [5] (fun i u => ∃ (k : Nat) (M : List Int), k ≤ 6 ∧ i = .int .i64 k ∧ OL u 3 w.heap.size (some ⟨w.heap.size, 0, none⟩) L.length M ∧ Inx L.length M ∧ ordN L k M = ordL L ∧ Below w.heap.size w u) (fun i _ => (intOf i).toNat)
          case atStart => exact ⟨6, _, by omega, rfl, M.out, upto_inx _, rfl, hbl⟩
          case round =>
            obtain ⟨k, M, hk, rfl, hol, hix, hor, hbl⟩ := hrel
            have hM := hix.1
            rcases Nat.eq_zero_or_pos k with hk0 | hk0
            · subst hk0
              have E2 : Hid (M = ordO L) := hide (by rw [E.out, ← hor]; rfl)
              have HM := hide hM
              have HO := hide hol
              clear hor hix hol hM
              go_wp2
              go_ret
              refine ⟨some ⟨w.heap.size, 0, none⟩, L.length, ?_, by rw [← E2.out]; exact HO.out, hbl⟩
              rw [← E2.out, HM.out]
              rfl
            · have hor2 : Hid (ordN L (k - 1) (rr (qv L k) [] M) = ordL L) := hide (by
                rw [← hor]
                obtain ⟨j, rfl⟩ : ∃ j, k = j + 1 := ⟨k - 1, by omega⟩
                rfl)
              have IX2 : Hid (Inx L.length (rr (qv L k) [] M)) := hide (rr_inx hix)
              rcases Nat.eq_zero_or_pos L.length with h0 | h0
              · have O2 : Hid (OL wr 3 w.heap.size (some ⟨w.heap.size, 0, none⟩) L.length (rr (qv L k) [] M)) := hide (by
                  have : M = [] := List.eq_nil_of_length_eq_zero (by omega)
                  subst this
                  rw [rr_nil]; exact hol)
                have RC : Hid (Calls Try.prog 45 #[.slice (some ⟨w.heap.size, 0, none⟩) L.length L.length, .slice A L.length cL, .int .i64 k] wr fun e w' => e = .returned (.tuple #[]) ∧ wr = w') := hide (by rw [h0]; exact reverseRuns_nil _ _ _ _ _ _ hk)
                clear hor hix hol hM h0
                go_wp2_with fail
                refine RC.out.mono ?_
                rintro e w' ⟨rfl, rfl⟩
                go_wp2
                go_roundw
                case rel => exact ⟨k - 1, _, by omega, by go_num, O2.out, IX2.out, hor2.out, hbl⟩
                case measure => simp [intOf]; omega
              · have RC := hide (reverseRuns_i w wr A L.length cL w.heap.size L.length k L M HL.out hbl hol hix hlen (by omega) hk)
                rw [hM] at RC
                clear hor hix hol hM
                go_wp2_with fail
                refine RC.out.mono ?_
                rintro e w' ⟨rfl, ho1, hg1⟩
                have hb2 := hbl.grown (row := some w.heap.size) hg1 hbl.size (fun k hk => by injection hk with hk; omega)
                go_wp2
                go_roundw
                case rel => exact ⟨k - 1, _, by omega, by go_num, ho1, IX2.out, hor2.out, hb2⟩
                case measure => simp [intOf]; omega
end Go.Proofs.Yteoiphjkkcjddaa
