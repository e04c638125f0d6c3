/- Lines of a paragraph, in the model. -/
import Derived.Test.YtafddofajfcffaaLnM
import Derived.Test.YtafddofajfcffaaLnS
import Derived.Test.YtafddofajfcffaaParI
import Derived.Deep.RegionHeld3
import Derived.Deep.CutRange
namespace Go.Proofs.Ytafddofajfcffaa
open Go.ChangeShapes Go.WideShapes Go.ChangeAt Go.RowKit
set_option linter.unusedVariables false

set_option maxRecDepth 8000 in
set_option maxHeartbeats 2000000 in
theorem lineStart_s (w : World) (A : Option Addr) (c : Nat) (L : List It) (h : TL w A L.length L) (hl : L.length ≤ 1048576) (a : Int) (p : Nat) (hp : a + 1 = (p : Int)) (hpl : p ≤ L.length) :
    Calls Try.prog 114 #[.slice A L.length c, .int .i64 a] w fun e w' => e = .returned (.int .i64 (stS L p : Nat)) ∧ w = w' := by
  have wp : IntKind.i64.wrap (a + 1) = (p : Int) := by rw [hp]; exact IntWalk.i64_in _ (by omega)
  have HI := hide h
  clear hp h
  go_enter Try.func114, Try.ntmps114
  go_wp2
  go_loop [5] (fun i => ∃ k : Nat, p ≤ k ∧ k ≤ L.length ∧ i = .int .i64 k ∧ ∀ j, p ≤ j → j < k → isB (tg L j) = false ∧ isF (tg L j) = false) (fun i => L.length - (intOf i).toNat)
  case atStart => exact ⟨p, by omega, hpl, rfl, fun j h1 h2 => by omega⟩
  case round =>
    obtain ⟨k, hpk, hk, rfl, hno⟩ := hrel
    have HNO := hide hno
    clear hno
    by_cases hlt : k < L.length
    · obtain ⟨b, o, rfl, hb0, c0, c1, c2, c3, c4, c5⟩ := HI.out.at6 hlt
      obtain ⟨x, hx⟩ : ∃ x, x = (tg L k).k := ⟨_, rfl⟩
      obtain ⟨y, hy⟩ : ∃ y, y = (tg L k).p := ⟨_, rfl⟩
      have EB := hide (show isB (tg L k) = decide (x = 1) by rw [hx]; rfl)
      have EF := hide (show isF (tg L k) = decide (x = 3 ∧ y = -1000) by rw [hx, hy]; rfl)
      rw [← hx] at c0
      rw [← hy] at c4
      clear hx hy c1 c2 c3 c5
      rcases (by omega : x = 1 ∨ (x = 3 ∧ y = -1000) ∨ (x = 3 ∧ y ≠ -1000) ∨ (x ≠ 1 ∧ x ≠ 3)) with rfl | ⟨rfl, rfl⟩ | ⟨rfl, hy⟩ | ⟨h1, h3⟩
      · have E := hide (stS_at hpk hk HNO.out (.inr (.inl (by rw [EB.out]; rfl))))
        go_wp2
        go_ret
        exact ⟨int_ret (by rw [E.out]), rfl⟩
      · have E := hide (stS_at hpk hk HNO.out (.inr (.inr (by rw [EF.out]; rfl))))
        go_wp2
        go_ret
        exact ⟨int_ret (by rw [E.out]), rfl⟩
      · have g := beq_eq_false_iff_ne.2 hy
        have N1 := hide (show isB (tg L k) = false ∧ isF (tg L k) = false from ⟨by rw [EB.out]; rfl, by rw [EF.out]; simp [hy]⟩)
        clear hy
        go_wp2
        go_round
        case rel => exact ⟨k + 1, by omega, by omega, by go_num, fun j a b => by rcases (by omega : j < k ∨ j = k) with e | e; exact HNO.out j a e; rw [e]; exact N1.out⟩
        case measure => simp [intOf]; omega
      · have g1 : (x == 1) = false := beq_eq_false_iff_ne.2 h1
        have g2 : (x != 1) = true := bne_iff_ne.2 h1
        have g3 : (x == 3) = false := beq_eq_false_iff_ne.2 h3
        have N1 := hide (show isB (tg L k) = false ∧ isF (tg L k) = false from ⟨by rw [EB.out]; simp [h1], by rw [EF.out]; simp [h3]⟩)
        clear h1 h3
        go_wp2
        go_round
        case rel => exact ⟨k + 1, by omega, by omega, by go_num, fun j a b => by rcases (by omega : j < k ∨ j = k) with e | e; exact HNO.out j a e; rw [e]; exact N1.out⟩
        case measure => simp [intOf]; omega
    · have hke : k = L.length := by omega
      have E := hide (stS_at hpk hk HNO.out (.inl hke))
      have q : ¬ k < L.length := hlt
      clear hke
      go_wp2
      go_ret
      exact ⟨int_ret (by rw [E.out]), rfl⟩
set_option maxRecDepth 8000 in
set_option maxHeartbeats 4000000 in
theorem validLine_s (w : World) (A : Option Addr) (n c : Nat) (L : List It) (h : TL w A n L) (hn : n ≤ 1048576) (a b : Int) (wa : -9223372036854775808 ≤ a ∧ a ≤ 9223372036854775807) (wb : -9223372036854775808 ≤ b ∧ b ≤ 9223372036854775807) :
    Calls Try.prog 68 #[.slice A n c, .int .i64 a, .int .i64 b] w fun e w' => e = .returned (.bool (okL L a b)) ∧ Below w.heap.size w w' := by
  obtain rfl : n = L.length := h.1
  have HI := hide h
  obtain ⟨wa1, wa2⟩ := wa
  obtain ⟨wb1, wb2⟩ := wb
  clear h
  have VI := hide (validItems_s w A L.length c L HI.out (by omega))
  cases hok : isOk L
  · have E := hide (show okL L a b = false by simp [okL, hok])
    rw [hok] at VI
    clear hok
    go_enter Try.func68, Try.ntmps68
    go_wp2_with fail
    (with_reducible refine VI.out.mono ?_)
    rintro e u1 ⟨rfl, hb⟩
    go_wp2
    go_ret
    exact ⟨bool_ret E.out.symm, hb⟩
  rw [hok] at VI
  have EO := hide (show okL L a b = hasL L a b by simp [okL, hok])
  have hl60 := (isOk_iff.1 hok).2.1
  clear hok
  rcases (by omega : a < -1 ∨ (-1 ≤ a ∧ b ≤ a) ∨ (-1 ≤ a ∧ a < b ∧ (L.length : Int) ≤ b) ∨ (-1 ≤ a ∧ a < b ∧ b < (L.length : Int))) with q | ⟨ha, q⟩ | ⟨ha, q, hb0⟩ | ⟨ha, q, hb0⟩
  · have E := hide (show okL L a b = false by rw [EO.out]; simp [hasL, show ¬ (-1 ≤ a) by omega])
    go_enter Try.func68, Try.ntmps68
    go_wp2_with fail
    (with_reducible refine VI.out.mono ?_)
    rintro e u1 ⟨rfl, hb⟩
    go_wp2
    go_ret
    exact ⟨bool_ret E.out.symm, hb⟩
  · have E := hide (show okL L a b = false by rw [EO.out]; simp [hasL, show ¬ (a < b) by omega])
    have d1 : decide (a < -1) = false := decide_eq_false (by omega)
    go_enter Try.func68, Try.ntmps68
    go_wp2_with fail
    (with_reducible refine VI.out.mono ?_)
    rintro e u1 ⟨rfl, hb⟩
    go_wp2
    go_ret
    exact ⟨bool_ret E.out.symm, hb⟩
  · have E := hide (show okL L a b = false by rw [EO.out]; simp [hasL, show ¬ (b < (L.length : Int)) by omega])
    have d1 : decide (a < -1) = false := decide_eq_false (by omega)
    have d2 : decide (b ≤ a) = false := decide_eq_false (by omega)
    go_enter Try.func68, Try.ntmps68
    go_wp2_with fail
    (with_reducible refine VI.out.mono ?_)
    rintro e u1 ⟨rfl, hb⟩
    go_wp2
    go_ret
    exact ⟨bool_ret E.out.symm, hb⟩
  · obtain ⟨k, rfl⟩ : ∃ k : Nat, b = (k : Int) := ⟨b.toNat, by omega⟩
    have hk : k < L.length := by omega
    have d1 : decide (a < -1) = false := decide_eq_false (by omega)
    have d2 : decide ((k : Int) ≤ a) = false := decide_eq_false (by omega)
    have d3 : decide ((L.length : Int) ≤ (k : Int)) = false := decide_eq_false (by omega)
    have d4 : decide (L.length ≤ k) = false := decide_eq_false (by omega)
    have BK := fun (u : World) (hu : TL u A L.length L) => isBreak_s u A c L hu k hk (by omega)
    obtain ⟨fk, hfk⟩ : ∃ fk, fk = mayE L k := ⟨_, rfl⟩
    rw [← hfk] at BK
    have HBK := hide BK
    have HFK := hide hfk
    clear BK hfk
    cases fk
    · have E := hide (show okL L a k = false by rw [EO.out]; simp [hasL, ← HFK.out])
      go_enter Try.func68, Try.ntmps68
      go_wp2_with fail
      (with_reducible refine VI.out.mono ?_)
      rintro e u1 ⟨rfl, hb⟩
      go_wp2_with fail
      (with_reducible refine (HBK.out _ (HI.out.below hb)).mono ?_)
      rintro e w' ⟨rfl, rfl⟩
      go_wp2
      go_ret
      exact ⟨bool_ret E.out.symm, hb⟩
    obtain ⟨p, hp⟩ : ∃ p : Nat, a + 1 = (p : Int) := ⟨(a + 1).toNat, by omega⟩
    have wp : IntKind.i64.wrap (a + 1) = (p : Int) := by rw [hp]; exact IntWalk.i64_in _ (by omega)
    have hpk : p ≤ k := by omega
    have LOOP : Hid (a = -1 ∨ mayE L a.toNat = true → okL L a k = decide (nF L p = nF L k)) := hide (fun hm => by
      rw [EO.out]
      simp only [hasL]
      rw [hp, decide_eq_true ha, decide_eq_true q, decide_eq_true hb0]
      simp only [Int.toNat_natCast, ← HFK.out, Bool.and_true, Bool.true_and]
      rcases hm with e | e
      · rw [e]; simp
      · rw [e]; simp)
    have NO : Hid (∀ j, p ≤ j → j < k → isF (tg L j) = true → ¬ nF L p = nF L k) := hide (fun j h1 h2 h3 h4 => by
      have := (nF_eq (L := L) hpk).1 h4 j h1 h2
      rw [h3] at this; cases this)
    rcases (by omega : a = -1 ∨ 0 ≤ a) with ha0 | ha0
    · have d5 : decide (0 ≤ a) = false := decide_eq_false (by omega)
      have d6 : decide (a < 0) = true := decide_eq_true (by omega)
      have LP := hide (LOOP.out (.inl ha0))
      clear LOOP ha0 hp q
      go_enter Try.func68, Try.ntmps68
      go_wp2_with fail
      (with_reducible refine VI.out.mono ?_)
      rintro e u1 ⟨rfl, hb⟩
      go_wp2_with fail
      (with_reducible refine (HBK.out _ (HI.out.below hb)).mono ?_)
      rintro e w' ⟨rfl, rfl⟩
      have HB := hide hb
      have HI1 := hide (HI.out.below hb)
      clear hb
      go_wp2
      clear d1 d2 d3 d4 d5 d6
      go_loop [7] (fun i => ∃ j : Nat, p ≤ j ∧ j ≤ k ∧ i = .int .i64 j ∧ ∀ r, p ≤ r → r < j → isF (tg L r) = false) (fun i => k - (intOf i).toNat)
      case atStart => exact ⟨p, Nat.le_refl _, hpk, rfl, fun r h1 h2 => by omega⟩
      case round =>
        obtain ⟨j, hpj, hj, rfl, hno⟩ := hrel
        have HNO := hide hno
        clear hno
        by_cases hlt : j < k
        · obtain ⟨b', o, rfl, hb', c0, c1, c2, c3, c4, c5⟩ := HI1.out.at6 (show j < L.length by omega)
          obtain ⟨x, hx⟩ : ∃ x, x = (tg L j).k := ⟨_, rfl⟩
          obtain ⟨y, hy⟩ : ∃ y, y = (tg L j).p := ⟨_, rfl⟩
          have EF := hide (show isF (tg L j) = decide (x = 3 ∧ y = -1000) by rw [hx, hy]; rfl)
          rw [← hx] at c0
          rw [← hy] at c4
          have hjl : j < L.length := by omega
          have hjl2 : (j : Int) < (L.length : Int) := by omega
          clear hx hy c1 c2 c3 c5
          rcases (by omega : (x = 3 ∧ y = -1000) ∨ (x = 3 ∧ y ≠ -1000) ∨ x ≠ 3) with ⟨rfl, rfl⟩ | ⟨rfl, hy⟩ | h3
          · have E := hide (show okL L _ k = false by rw [LP.out]; exact decide_eq_false (NO.out j hpj hlt (by rw [EF.out]; rfl)))
            go_wp2
            go_ret
            exact ⟨bool_ret E.out.symm, HB.out⟩
          · have g := beq_eq_false_iff_ne.2 hy
            have N1 := hide (show isF (tg L j) = false by rw [EF.out]; simp [hy])
            clear hy
            go_wp2
            go_round
            case rel => exact ⟨j + 1, by omega, by omega, by go_num, fun r a b => by rcases (by omega : r < j ∨ r = j) with e | e; exact HNO.out r a e; rw [e]; exact N1.out⟩
            case measure => simp [intOf]; omega
          · have g3 : (x == 3) = false := beq_eq_false_iff_ne.2 h3
            have N1 := hide (show isF (tg L j) = false by rw [EF.out]; simp [h3])
            clear h3
            go_wp2
            go_round
            case rel => exact ⟨j + 1, by omega, by omega, by go_num, fun r a b => by rcases (by omega : r < j ∨ r = j) with e | e; exact HNO.out r a e; rw [e]; exact N1.out⟩
            case measure => simp [intOf]; omega
        · have hje : j = k := by omega
          have E := hide (show okL L _ k = true by rw [LP.out]; exact decide_eq_true ((nF_eq (L := L) hpk).2 (by rw [← hje]; exact HNO.out)))
          clear hje
          go_wp2
          go_ret
          exact ⟨bool_ret E.out.symm, HB.out⟩
    · obtain ⟨m, rfl⟩ : ∃ m : Nat, a = (m : Int) := ⟨a.toNat, by omega⟩
      have hm : m < L.length := by omega
      have BM := fun (u : World) (hu : TL u A L.length L) => isBreak_s u A c L hu m hm (by omega)
      obtain ⟨fm, hfm⟩ : ∃ fm, fm = mayE L m := ⟨_, rfl⟩
      rw [← hfm] at BM
      have HBM := hide BM
      have HFM := hide hfm
      have d5 : decide ((0 : Int) ≤ (m : Int)) = true := decide_eq_true (by omega)
      have d7 : decide (k ≤ m) = false := decide_eq_false (by omega)
      have d8 : decide ((m : Int) < -1) = false := decide_eq_false (by omega)
      clear BM hfm
      cases fm
      · have E := hide (show okL L m k = false by rw [EO.out]; simp [hasL, ← HFM.out])
        go_enter Try.func68, Try.ntmps68
        go_wp2_with fail
        (with_reducible refine VI.out.mono ?_)
        rintro e u1 ⟨rfl, hb⟩
        go_wp2_with fail
        (with_reducible refine (HBK.out _ (HI.out.below hb)).mono ?_)
        rintro e w' ⟨rfl, rfl⟩
        go_wp2_with fail
        (with_reducible refine (HBM.out _ (HI.out.below hb)).mono ?_)
        rintro e w' ⟨rfl, rfl⟩
        go_wp2
        go_ret
        exact ⟨bool_ret E.out.symm, hb⟩
      · have LP := hide (LOOP.out (.inr (by simpa using HFM.out.symm)))
        clear LOOP hp q
        go_enter Try.func68, Try.ntmps68
        go_wp2_with fail
        (with_reducible refine VI.out.mono ?_)
        rintro e u1 ⟨rfl, hb⟩
        go_wp2_with fail
        (with_reducible refine (HBK.out _ (HI.out.below hb)).mono ?_)
        rintro e w' ⟨rfl, rfl⟩
        go_wp2_with fail
        (with_reducible refine (HBM.out _ (HI.out.below hb)).mono ?_)
        rintro e w' ⟨rfl, rfl⟩
        have HB := hide hb
        have HI1 := hide (HI.out.below hb)
        clear hb
        go_wp2
        clear d1 d2 d3 d4 d5 d7 d8
        go_loop [7] (fun i => ∃ j : Nat, p ≤ j ∧ j ≤ k ∧ i = .int .i64 j ∧ ∀ r, p ≤ r → r < j → isF (tg L r) = false) (fun i => k - (intOf i).toNat)
        case atStart => exact ⟨p, Nat.le_refl _, hpk, rfl, fun r h1 h2 => by omega⟩
        case round =>
          obtain ⟨j, hpj, hj, rfl, hno⟩ := hrel
          have HNO := hide hno
          clear hno
          by_cases hlt : j < k
          · obtain ⟨b', o, rfl, hb', c0, c1, c2, c3, c4, c5⟩ := HI1.out.at6 (show j < L.length by omega)
            obtain ⟨x, hx⟩ : ∃ x, x = (tg L j).k := ⟨_, rfl⟩
            obtain ⟨y, hy⟩ : ∃ y, y = (tg L j).p := ⟨_, rfl⟩
            have EF := hide (show isF (tg L j) = decide (x = 3 ∧ y = -1000) by rw [hx, hy]; rfl)
            rw [← hx] at c0
            rw [← hy] at c4
            have hjl : j < L.length := by omega
            have hjl2 : (j : Int) < (L.length : Int) := by omega
            clear hx hy c1 c2 c3 c5
            rcases (by omega : (x = 3 ∧ y = -1000) ∨ (x = 3 ∧ y ≠ -1000) ∨ x ≠ 3) with ⟨rfl, rfl⟩ | ⟨rfl, hy⟩ | h3
            · have E := hide (show okL L _ k = false by rw [LP.out]; exact decide_eq_false (NO.out j hpj hlt (by rw [EF.out]; rfl)))
              go_wp2
              go_ret
              exact ⟨bool_ret E.out.symm, HB.out⟩
            · have g := beq_eq_false_iff_ne.2 hy
              have N1 := hide (show isF (tg L j) = false by rw [EF.out]; simp [hy])
              clear hy
              go_wp2
              go_round
              case rel => exact ⟨j + 1, by omega, by omega, by go_num, fun r a b => by rcases (by omega : r < j ∨ r = j) with e | e; exact HNO.out r a e; rw [e]; exact N1.out⟩
              case measure => simp [intOf]; omega
            · have g3 : (x == 3) = false := beq_eq_false_iff_ne.2 h3
              have N1 := hide (show isF (tg L j) = false by rw [EF.out]; simp [h3])
              clear h3
              go_wp2
              go_round
              case rel => exact ⟨j + 1, by omega, by omega, by go_num, fun r a b => by rcases (by omega : r < j ∨ r = j) with e | e; exact HNO.out r a e; rw [e]; exact N1.out⟩
              case measure => simp [intOf]; omega
          · have hje : j = k := by omega
            have E := hide (show okL L _ k = true by rw [LP.out]; exact decide_eq_true ((nF_eq (L := L) hpk).2 (by rw [← hje]; exact HNO.out)))
            clear hje
            go_wp2
            go_ret
            exact ⟨bool_ret E.out.symm, HB.out⟩
end Go.Proofs.Ytafddofajfcffaa
