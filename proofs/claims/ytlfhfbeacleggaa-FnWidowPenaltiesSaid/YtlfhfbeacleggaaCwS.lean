/- CountWidows in its model. -/
import Derived.Test.YtlfhfbeacleggaaCw
namespace Go.Proofs.Ytlfhfbeacleggaa
open Go.ChangeShapes Go.WideShapes Go.ChangeAt Go.RowKit
set_option linter.unusedVariables false
open Classical

theorem svc_no {l : List Int} {f : Int × Int → Bool} {k : Nat} (h : ¬ 1 < ng l k) : (svL l (k + 1)).countP f = (svL l k).countP f := by rw [svL_no h]
theorem svc_yes {l : List Int} {f : Int × Int → Bool} {k : Nat} (h : 1 < ng l k) : (svL l (k + 1)).countP f = (svL l k).countP f + if f (pfx l k, pfx l k + ng l k - 1) = true then 1 else 0 := by
  simp only [svL]
  rw [if_pos h, List.countP_append]
  simp [List.countP_cons]
theorem svc_le {l : List Int} {f : Int × Int → Bool} {k : Nat} : (svL l k).countP f ≤ k := Nat.le_trans (List.countP_le_length) svL_le
theorem cwN_all {l : List Int} {f : Int × Int → Bool} : cwN l f (svL l l.length).length = (svL l l.length).countP f := by unfold cwN; rw [List.take_length]
set_option maxHeartbeats 2000000 in
theorem CountWidows_s (w : World) (A B : Option Addr) (n c m d : Nat) (l E : List Int) (ha : IL w A n l) (hn : n ≤ 1048576) (hE : IL w B m E) (hm : m ≤ 1048576) :
    Calls Try.prog 44 #[.slice A n c, .slice B m d] w fun e w' => e = .returned (.tuple #[.int .i64 (cwV l E).1, .int .i64 (cwV l E).2]) ∧ w = w' := by
  obtain rfl : n = l.length := ha.1
  obtain rfl : m = E.length := hE.1
  have HA := hide ha
  have VP := hide (validParts_s w A l.length c l ha (by omega))
  have CT := hide (fun (x : Int) => endsAt_s w B E.length d E x hE (by omega))
  clear ha hE
  cases qo : okW l
  · have O := hide (cwV_no (E := E) qo)
    rw [qo] at VP
    rw [O.out]
    go_enter Try.func44, Try.ntmps44
    go_wp2_with (go_at_call 87; refine (VP.out).mono ?_; rintro e w' ⟨rfl, rfl⟩)
    go_ret2
    exact ⟨rfl, rfl⟩
  rw [qo] at VP
  have O := hide (cwV_yes (E := E) qo)
  obtain ⟨ok1, ok2, ok3⟩ := okW_iff.1 qo
  have hge := ok1.ge
  go_enter Try.func44, Try.ntmps44
  go_wp2_with (go_at_call 87; refine (VP.out).mono ?_; rintro e w' ⟨rfl, rfl⟩)
  go_loop [6, 7, 8, 9] (fun cl wi at' i => ∃ (k p1 p2 : Nat) (y : Int), k ≤ l.length ∧ cl = .int .i64 p1 ∧ wi = .int .i64 p2 ∧ p1 = (svL l k).countP (clF E) ∧ p2 = (svL l k).countP (wiF E) ∧ at' = .int .i64 y ∧ y = pfx l k ∧ 0 ≤ y ∧ i = .int .i64 k) (fun _ _ _ i => l.length - (intOf i).toNat)
  case atStart => exact ⟨0, 0, 0, 0, by omega, rfl, rfl, rfl, rfl, rfl, rfl, by omega, rfl⟩
  case round =>
    obtain ⟨k, p1, p2, y, hk, rfl, rfl, h1, h2, rfl, hy, hy0, rfl⟩ := hrel
    have b1 := svc_le (l := l) (f := clF E) (k := k)
    have b2 := svc_le (l := l) (f := wiF E) (k := k)
    rw [← h1] at b1
    rw [← h2] at b2
    by_cases hlt : k < l.length
    · obtain ⟨b, o, rfl, _, hc⟩ := HA.out.at_ hlt
      have q1 := ok1 k hlt
      have q2 := ok1.mono (k := k + 1) (by omega)
      have q3 : pfx l (k + 1) = pfx l k + ng l k := rfl
      have N := hide q3.symm
      rw [q3] at q2
      have NO1 := hide (fun h => svc_no (l := l) (f := clF E) (k := k) h)
      have NO2 := hide (fun h => svc_no (l := l) (f := wiF E) (k := k) h)
      have YE1 := hide (fun h => svc_yes (l := l) (f := clF E) (k := k) h)
      have YE2 := hide (fun h => svc_yes (l := l) (f := wiF E) (k := k) h)
      unfold clF at YE1
      unfold wiF at YE2
      simp only at YE1 YE2
      rw [← hy] at q2 N YE1 YE2
      obtain ⟨z, hz⟩ : ∃ z, z = ng l k := ⟨_, rfl⟩
      rw [← hz] at hc q1 q2 N NO1 NO2 YE1 YE2
      have H1 := hide h1
      have H2 := hide h2
      clear hy hz q3 h1 h2
      rcases (by omega : 1 < z ∨ z = 1) with q | q
      · have Y1 := hide (YE1.out q)
        have Y2 := hide (YE2.out q)
        clear NO1 NO2 YE1 YE2
        cases e1 : hasI E (y + 1) <;> cases e2 : hasI E (y + z - 1)
        · have M1 := hide (show p1 = (svL l (k + 1)).countP (clF E) by have := Y1.out; rw [e1] at this; rw [H1.out]; exact this.symm)
          have M2 := hide (show p2 = (svL l (k + 1)).countP (wiF E) by have := Y2.out; rw [e2] at this; rw [H2.out]; exact this.symm)
          clear Y1 Y2
          go_wp2_with (go_at_call 98; (with_reducible refine (CT.out _).mono ?_); rintro e w' ⟨rfl, rfl⟩)
          (go_round; (case rel => exact ⟨k + 1, p1, p2, y + z, by omega, rfl, rfl, M1.out, M2.out, rfl, N.out, by omega, by go_num⟩); (case measure => (simp [intOf]; omega)))
        · have M1 := hide (show p1 = (svL l (k + 1)).countP (clF E) by have := Y1.out; rw [e1] at this; rw [H1.out]; exact this.symm)
          have M2 := hide (show p2 + 1 = (svL l (k + 1)).countP (wiF E) by have := Y2.out; rw [e2] at this; rw [H2.out]; exact this.symm)
          clear Y1 Y2
          go_wp2_with (go_at_call 98; (with_reducible refine (CT.out _).mono ?_); rintro e w' ⟨rfl, rfl⟩)
          (go_round; (case rel => exact ⟨k + 1, p1, p2 + 1, y + z, by omega, rfl, rfl, M1.out, M2.out, rfl, N.out, by omega, by go_num⟩); (case measure => (simp [intOf]; omega)))
        · have M1 := hide (show p1 + 1 = (svL l (k + 1)).countP (clF E) by have := Y1.out; rw [e1] at this; rw [H1.out]; exact this.symm)
          have M2 := hide (show p2 = (svL l (k + 1)).countP (wiF E) by have := Y2.out; rw [e2] at this; rw [H2.out]; exact this.symm)
          clear Y1 Y2
          go_wp2_with (go_at_call 98; (with_reducible refine (CT.out _).mono ?_); rintro e w' ⟨rfl, rfl⟩)
          (go_round; (case rel => exact ⟨k + 1, p1 + 1, p2, y + z, by omega, rfl, rfl, M1.out, M2.out, rfl, N.out, by omega, by go_num⟩); (case measure => (simp [intOf]; omega)))
        · have M1 := hide (show p1 + 1 = (svL l (k + 1)).countP (clF E) by have := Y1.out; rw [e1] at this; rw [H1.out]; exact this.symm)
          have M2 := hide (show p2 + 1 = (svL l (k + 1)).countP (wiF E) by have := Y2.out; rw [e2] at this; rw [H2.out]; exact this.symm)
          clear Y1 Y2
          go_wp2_with (go_at_call 98; (with_reducible refine (CT.out _).mono ?_); rintro e w' ⟨rfl, rfl⟩)
          (go_round; (case rel => exact ⟨k + 1, p1 + 1, p2 + 1, y + z, by omega, rfl, rfl, M1.out, M2.out, rfl, N.out, by omega, by go_num⟩); (case measure => (simp [intOf]; omega)))
      · subst q
        have M1 := hide (H1.out.trans (NO1.out (by omega)).symm)
        have M2 := hide (H2.out.trans (NO2.out (by omega)).symm)
        clear NO1 NO2 YE1 YE2
        go_wp2
        go_round
        case rel => exact ⟨k + 1, p1, p2, y + 1, by omega, rfl, rfl, M1.out, M2.out, rfl, N.out, by omega, by go_num⟩
        case measure => simp [intOf]; omega
    · have hkl : k = l.length := by omega
      have R := hide (show cwV l E = ((p1 : Int), (p2 : Int)) by rw [O.out, cwN_all, cwN_all, h1, h2, hkl])
      clear h1 h2 hkl hy
      go_wp2
      go_ret2
      exact ⟨by rw [R.out]; rfl, rfl⟩
end Go.Proofs.Ytlfhfbeacleggaa
