/- Whether pairs of glyphs are in order, in the model. -/
import Derived.Test.YtlfhfbeacleggabValPairs
namespace Go.Proofs.Ytlfhfbeacleggab
open Go.ChangeShapes Go.WideShapes Go.ChangeAt Go.RowKit
set_option linter.unusedSimpArgs false
set_option linter.unusedVariables false

set_option maxHeartbeats 40000000 in
theorem validPairs_s (w : World) (A : Option Addr) (n c : Nat) (L : List Gp) (h : TL w A n L) (hn : n ≤ 4611686018427387904) :
    Calls Try.prog 39 #[.slice A n c] w fun e w' => e = .returned (.bool (por L)) ∧ Below w.heap.size w w' := by
  obtain rfl : n = L.length := h.1
  have HI := hide h
  clear h
  go_enter Try.func39, Try.ntmps39
  go_wp2
  go_loopw [3] (fun i u => ∃ p : Nat, p ≤ L.length ∧ i = .int .i64 p ∧ POrTo L p ∧ Below w.heap.size w u) (fun i _ => L.length - (intOf i).toNat)
  case atStart => exact ⟨0, by omega, rfl, POrTo.zero _, bl_refl _⟩
  case round =>
    obtain ⟨p, hp, rfl, hpo, hbl⟩ := hrel
    have HP := hide hpo
    have HB := hide hbl
    clear hpo
    by_cases hlt : p < L.length
    · obtain ⟨b, o, rfl, hb0, c0, c1, c2⟩ := (HI.out.below hbl).at3 hlt
      clear hbl
      have BAD := hide (fun h => por_bad (L := L) hlt h)
      have NXT := hide (fun h => HP.out.step h)
      obtain ⟨a2, ha2⟩ : ∃ a2, a2 = (tg L p).a := ⟨_, rfl⟩
      obtain ⟨b2, hb2⟩ : ∃ b2, b2 = (tg L p).b := ⟨_, rfl⟩
      rw [← ha2] at c0
      rw [← hb2] at c1
      rw [← ha2, ← hb2] at BAD NXT
      have HK2 : Hid (kyOf L p = a2 * 36 + b2) := hide (by rw [ha2, hb2]; rfl)
      clear ha2 hb2 c2
      by_cases q1 : inB a2 0 35 = true
      · by_cases q2 : inB b2 0 35 = true
        · have k1 := inB_iff.1 q1
          have k2 := inB_iff.1 q2
          rcases Nat.eq_zero_or_pos p with hp0 | hp0
          · subst hp0
            have M := hide (NXT.out ⟨⟨k1, k2⟩, fun h => by omega⟩)
            have c0' : wr.cell? ⟨b, o, none⟩ = some (.int .i64 a2) := by simpa using c0
            have c1' : wr.cell? ⟨b, o + 1, none⟩ = some (.int .i64 b2) := by simpa using c1
            clear BAD NXT k1 k2
            go_wp2_with (go_at_call 30; refine (inRange_any _ _ _ _).mono ?_; rintro e w' ⟨rfl, rfl⟩)
            go_quiet (fail)
            go_wp2
            go_roundw
            case rel => exact ⟨1, by omega, by go_num, M.out, bl_drewN HB.out _⟩
            case measure => simp [intOf]; omega
          · obtain ⟨m, hpm⟩ : ∃ m, p = m + 1 := ⟨p - 1, by omega⟩
            have hml : m < L.length := by omega
            obtain ⟨b', o', e', hb0', d0, d1, d2⟩ := (HI.out.below HB.out).at3 (i := m) (by omega)
            injection e' with e'
            injection e' with e1 e2
            subst e1
            subst e2
            obtain ⟨a1, ha1⟩ : ∃ a1, a1 = (tg L m).a := ⟨_, rfl⟩
            obtain ⟨b1, hb1⟩ : ∃ b1, b1 = (tg L m).b := ⟨_, rfl⟩
            have k4 := (HP.out m (by omega)).1
            rw [← ha1] at d0 k4
            rw [← hb1] at d1 k4
            have HK1 : Hid (kyOf L m = a1 * 36 + b1) := hide (by rw [ha1, hb1]; rfl)
            clear ha1 hb1 d2
            have HPM : Hid (p = m + 1) := hide hpm
            have wk : IntKind.i64.wrap ((p : Int) - 1) = (m : Int) := (IntWalk.i64_in _ (by omega)).trans (by omega)
            have ek : ∀ h : 0 < p, kyOf L (p - 1) = kyOf L m := fun _ => by rw [hpm, Nat.add_sub_cancel]
            have EK := hide ek
            clear hpm ek
            rcases (by omega : a2 < a1 ∨ (a2 = a1 ∧ b2 ≤ b1) ∨ (a2 = a1 ∧ b1 < b2) ∨ a1 < a2) with h | ⟨h, h'⟩ | ⟨h, h'⟩ | h
            · have E := hide (BAD.out (fun x => by
                have := x.2 hp0
                rw [EK.out hp0, HK1.out, HK2.out] at this
                omega))
              clear BAD NXT k1 k2 k4
              go_wp2_with (go_at_call 30; refine (inRange_any _ _ _ _).mono ?_; rintro e w' ⟨rfl, rfl⟩)
              go_quiet (fail)
              go_wp2
              go_ret
              exact ⟨bool_ret E.out.symm, bl_drewN HB.out _⟩
            · have E := hide (BAD.out (fun x => by
                have := x.2 hp0
                rw [EK.out hp0, HK1.out, HK2.out] at this
                omega))
              have e1 : ¬ a2 < a1 := by omega
              have e2 : (a2 == a1) = true := by simp [h]
              clear BAD NXT k1 k2 k4 h
              go_wp2_with (go_at_call 30; refine (inRange_any _ _ _ _).mono ?_; rintro e w' ⟨rfl, rfl⟩)
              go_quiet (fail)
              go_wp2
              go_ret
              exact ⟨bool_ret E.out.symm, bl_drewN HB.out _⟩
            · have M := hide (NXT.out ⟨⟨k1, k2⟩, fun _ => by rw [EK.out hp0, HK1.out, HK2.out]; omega⟩)
              have e1 : ¬ a2 < a1 := by omega
              have e2 : (a2 == a1) = true := by simp [h]
              have e3 : ¬ b2 ≤ b1 := by omega
              clear BAD NXT k1 k2 k4 h
              go_wp2_with (go_at_call 30; refine (inRange_any _ _ _ _).mono ?_; rintro e w' ⟨rfl, rfl⟩)
              go_quiet (fail)
              go_wp2
              go_roundw
              case rel => exact ⟨p + 1, by omega, by go_num, M.out, bl_drewN HB.out _⟩
              case measure => simp [intOf]; omega
            · have M := hide (NXT.out ⟨⟨k1, k2⟩, fun _ => by rw [EK.out hp0, HK1.out, HK2.out]; omega⟩)
              have e1 : ¬ a2 < a1 := by omega
              have e2 : (a2 == a1) = false := beq_eq_false_iff_ne.2 (by omega)
              have d1 : decide (a2 < a1) = false := decide_eq_false (by omega)
              clear BAD NXT k1 k2 k4 h
              go_wp2_with (go_at_call 30; refine (inRange_any _ _ _ _).mono ?_; rintro e w' ⟨rfl, rfl⟩)
              go_quiet (fail)
              go_wp2
              go_roundw
              case rel => exact ⟨p + 1, by omega, by go_num, M.out, bl_drewN HB.out _⟩
              case measure => simp [intOf]; omega
        · have E := hide (BAD.out (fun h => q2 (inB_yes h.1.2.1 h.1.2.2)))
          clear BAD NXT
          have q2 : inB b2 0 35 = false := by simpa using q2
          cases p with
          | zero =>
            have c0' : wr.cell? ⟨b, o, none⟩ = some (.int .i64 a2) := by simpa using c0
            have c1' : wr.cell? ⟨b, o + 1, none⟩ = some (.int .i64 b2) := by simpa using c1
            go_wp2_with (go_at_call 30; refine (inRange_any _ _ _ _).mono ?_; rintro e w' ⟨rfl, rfl⟩)
            go_ret
            exact ⟨bool_ret E.out.symm, HB.out⟩
          | succ m =>
            go_wp2_with (go_at_call 30; refine (inRange_any _ _ _ _).mono ?_; rintro e w' ⟨rfl, rfl⟩)
            go_ret
            exact ⟨bool_ret E.out.symm, HB.out⟩
      · have E := hide (BAD.out (fun h => q1 (inB_yes h.1.1.1 h.1.1.2)))
        clear BAD NXT
        have q1 : inB a2 0 35 = false := by simpa using q1
        cases p with
        | zero =>
          have c0' : wr.cell? ⟨b, o, none⟩ = some (.int .i64 a2) := by simpa using c0
          go_wp2_with (go_at_call 30; refine (inRange_any _ _ _ _).mono ?_; rintro e w' ⟨rfl, rfl⟩)
          go_ret
          exact ⟨bool_ret E.out.symm, HB.out⟩
        | succ m =>
          go_wp2_with (go_at_call 30; refine (inRange_any _ _ _ _).mono ?_; rintro e w' ⟨rfl, rfl⟩)
          go_ret
          exact ⟨bool_ret E.out.symm, HB.out⟩
    · rcases (by omega : L.length ≤ 20 ∨ 20 < L.length) with h | h
      · have E := hide (por_iff.2 ⟨h, by rw [show L.length = p from by omega]; exact HP.out⟩ : por L = true)
        go_wp2
        go_ret
        exact ⟨bool_ret (E.out.symm ▸ (by simp; omega)), hbl⟩
      · have E : Hid (por L = false) := hide (by
          rw [Bool.eq_false_iff]
          intro hp
          have := (por_iff.1 hp).1
          omega)
        go_wp2
        go_ret
        exact ⟨bool_ret (E.out.symm ▸ (by simp; omega)), hbl⟩
end Go.Proofs.Ytlfhfbeacleggab
