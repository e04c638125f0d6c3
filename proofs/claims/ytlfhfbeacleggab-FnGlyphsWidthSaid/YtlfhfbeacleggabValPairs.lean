/- Whether pairs of glyphs are valid. -/
import Derived.Test.YtlfhfbeacleggabFontB
import Derived.Test.YtlfhfbeacleggabPairV
import Derived.Deep.RegionWith
import Derived.IntWalk
namespace Go.Proofs.Ytlfhfbeacleggab
open Go.ChangeShapes Go.WideShapes Go.ChangeAt Go.RowKit
set_option linter.unusedSimpArgs false
set_option linter.unusedVariables false
open Classical

/-- The first k pairs are pairs of glyphs with values in lo..hi, in order. -/
def POkTo (L : List Gp) (lo hi : Int) (k : Nat) : Prop := ∀ i, i < k → ((0 ≤ (tg L i).a ∧ (tg L i).a ≤ 35) ∧ (0 ≤ (tg L i).b ∧ (tg L i).b ≤ 35)) ∧ (lo ≤ (tg L i).v ∧ (tg L i).v ≤ hi) ∧ (0 < i → kyOf L (i - 1) < kyOf L i)
def POk (L : List Gp) (lo hi : Int) : Prop := L.length ≤ 20 ∧ POkTo L lo hi L.length
noncomputable def pok (L : List Gp) (lo hi : Int) : Bool := decide (POk L lo hi)
/-- .. without their values. -/
def POrTo (L : List Gp) (k : Nat) : Prop := ∀ i, i < k → ((0 ≤ (tg L i).a ∧ (tg L i).a ≤ 35) ∧ (0 ≤ (tg L i).b ∧ (tg L i).b ≤ 35)) ∧ (0 < i → kyOf L (i - 1) < kyOf L i)
noncomputable def por (L : List Gp) : Bool := decide (L.length ≤ 20 ∧ POrTo L L.length)
def VOkTo (L : List Gp) (lo hi : Int) (k : Nat) : Prop := ∀ i, i < k → lo ≤ (tg L i).v ∧ (tg L i).v ≤ hi
noncomputable def vok (L : List Gp) (lo hi : Int) : Bool := decide (VOkTo L lo hi L.length)
theorem pok_iff {L : List Gp} {lo hi : Int} : pok L lo hi = true ↔ POk L lo hi := ⟨of_decide_eq_true, decide_eq_true⟩
theorem por_iff {L : List Gp} : por L = true ↔ L.length ≤ 20 ∧ POrTo L L.length := ⟨of_decide_eq_true, decide_eq_true⟩
theorem vok_iff {L : List Gp} {lo hi : Int} : vok L lo hi = true ↔ VOkTo L lo hi L.length := ⟨of_decide_eq_true, decide_eq_true⟩
theorem pok_eq (L : List Gp) (lo hi : Int) : pok L lo hi = (por L && vok L lo hi) := by
  rw [Bool.eq_iff_iff, Bool.and_eq_true, pok_iff, por_iff, vok_iff]
  constructor
  · rintro ⟨h1, h2⟩
    exact ⟨⟨h1, fun i hi => ⟨(h2 i hi).1, (h2 i hi).2.2⟩⟩, fun i hi => (h2 i hi).2.1⟩
  · rintro ⟨⟨h1, h2⟩, h3⟩
    exact ⟨h1, fun i hi => ⟨(h2 i hi).1, h3 i hi, (h2 i hi).2⟩⟩
theorem POkTo.zero (L : List Gp) (lo hi : Int) : POkTo L lo hi 0 := fun i h => by omega
theorem POrTo.zero (L : List Gp) : POrTo L 0 := fun i h => by omega
theorem VOkTo.zero (L : List Gp) (lo hi : Int) : VOkTo L lo hi 0 := fun i h => by omega
theorem POkTo.step {L : List Gp} {lo hi : Int} {k : Nat} (h : POkTo L lo hi k) (h1 : ((0 ≤ (tg L k).a ∧ (tg L k).a ≤ 35) ∧ (0 ≤ (tg L k).b ∧ (tg L k).b ≤ 35)) ∧ (lo ≤ (tg L k).v ∧ (tg L k).v ≤ hi) ∧ (0 < k → kyOf L (k - 1) < kyOf L k)) : POkTo L lo hi (k + 1) := fun i hi => by
  rcases (by omega : i < k ∨ i = k) with e | e
  · exact h i e
  · rw [e]; exact h1
theorem POrTo.step {L : List Gp} {k : Nat} (h : POrTo L k) (h1 : ((0 ≤ (tg L k).a ∧ (tg L k).a ≤ 35) ∧ (0 ≤ (tg L k).b ∧ (tg L k).b ≤ 35)) ∧ (0 < k → kyOf L (k - 1) < kyOf L k)) : POrTo L (k + 1) := fun i hi => by
  rcases (by omega : i < k ∨ i = k) with e | e
  · exact h i e
  · rw [e]; exact h1
theorem VOkTo.step {L : List Gp} {lo hi : Int} {k : Nat} (h : VOkTo L lo hi k) (h1 : lo ≤ (tg L k).v ∧ (tg L k).v ≤ hi) : VOkTo L lo hi (k + 1) := fun i hi => by
  rcases (by omega : i < k ∨ i = k) with e | e
  · exact h i e
  · rw [e]; exact h1
theorem pok_bad {L : List Gp} {lo hi : Int} {k : Nat} (hk : k < L.length) (h : ¬ (((0 ≤ (tg L k).a ∧ (tg L k).a ≤ 35) ∧ (0 ≤ (tg L k).b ∧ (tg L k).b ≤ 35)) ∧ (lo ≤ (tg L k).v ∧ (tg L k).v ≤ hi) ∧ (0 < k → kyOf L (k - 1) < kyOf L k))) : pok L lo hi = false := decide_eq_false fun hp => h (hp.2 k hk)
theorem por_bad {L : List Gp} {k : Nat} (hk : k < L.length) (h : ¬ (((0 ≤ (tg L k).a ∧ (tg L k).a ≤ 35) ∧ (0 ≤ (tg L k).b ∧ (tg L k).b ≤ 35)) ∧ (0 < k → kyOf L (k - 1) < kyOf L k))) : por L = false := decide_eq_false fun hp => h (hp.2 k hk)
theorem vok_bad {L : List Gp} {lo hi : Int} {k : Nat} (hk : k < L.length) (h : ¬ (lo ≤ (tg L k).v ∧ (tg L k).v ≤ hi)) : vok L lo hi = false := decide_eq_false fun hp => h (hp k hk)
theorem PairsOk.of {L : List Gp} {lo hi : Int} (h : POk L lo hi) : PairsOk L := by
  refine ⟨fun i hi => (h.2 i hi).1, fun i j hij hj => ?_⟩
  induction j with
  | zero => omega
  | succ j ih =>
    have h1 := (h.2 (j + 1) hj).2.2 (by omega)
    rw [Nat.add_sub_cancel] at h1
    rcases (by omega : i < j ∨ i = j) with e | e
    · have := ih e (by omega)
      omega
    · rw [e]; exact h1

theorem validGlyph_i (z : Int) (w : World) :
    Calls Try.prog 28 #[.int .i64 z] w fun e w' => e = .returned (.bool (inB z 0 35)) ∧ w = w' := by
  go_enter Try.func28, Try.ntmps28
  go_wp2_with (go_at_call 33; refine (within_any _ _ _ _).mono ?_; rintro e w' ⟨rfl, rfl⟩)
  go_ret
  exact ⟨rfl, rfl⟩

set_option maxHeartbeats 8000000 in
theorem validPairs_i (w : World) (A : Option Addr) (n c : Nat) (L : List Gp) (lo hi : Int) (h : TL w A n L) (hn : n ≤ 4611686018427387904) :
    Calls Try.prog 35 #[.slice A n c, .int .i64 lo, .int .i64 hi] w fun e w' => e = .returned (.bool (pok L lo hi)) ∧ Below w.heap.size w w' := by
  obtain rfl : n = L.length := h.1
  rcases (by omega : 20 < L.length ∨ L.length ≤ 20) with hl | hl
  · have E : pok L lo hi = false := decide_eq_false fun hp => by have := hp.1; omega
    rw [E]
    clear E
    go_enter Try.func35, Try.ntmps35
    go_wp2
    go_ret
    exact ⟨rfl, bl_refl _⟩
  · have HI := hide h
    clear h
    go_enter Try.func35, Try.ntmps35
    go_wp2
    go_loopw [14] (fun i u => ∃ p : Nat, p ≤ L.length ∧ i = .int .i64 p ∧ POkTo L lo hi p ∧ Below w.heap.size w u) (fun i _ => L.length - (intOf i).toNat)
    case atStart => exact ⟨0, by omega, rfl, POkTo.zero _ _ _, bl_refl _⟩
    case round =>
      obtain ⟨p, hp, rfl, hpo, hbl⟩ := hrel
      have HP := hide hpo
      have HB := hide hbl
      clear hpo
      by_cases hlt : p < L.length
      · obtain ⟨b, o, rfl, hb0, c0, c1, c2⟩ := (HI.out.below hbl).at3 hlt
        clear hbl
        have BAD := hide (fun h => pok_bad (L := L) (lo := lo) (hi := hi) hlt h)
        have NXT := hide (fun h => HP.out.step h)
        obtain ⟨a2, ha2⟩ : ∃ a2, a2 = (tg L p).a := ⟨_, rfl⟩
        obtain ⟨b2, hb2⟩ : ∃ b2, b2 = (tg L p).b := ⟨_, rfl⟩
        obtain ⟨v2, hv2⟩ : ∃ v2, v2 = (tg L p).v := ⟨_, rfl⟩
        rw [← ha2] at c0
        rw [← hb2] at c1
        rw [← hv2] at c2
        rw [← ha2, ← hb2, ← hv2] at BAD NXT
        have HK2 : Hid (kyOf L p = a2 * 36 + b2) := hide (by rw [ha2, hb2]; rfl)
        clear ha2 hb2 hv2
        by_cases q1 : inB a2 0 35 = true
        · by_cases q2 : inB b2 0 35 = true
          · by_cases q3 : inB v2 lo hi = true
            · have k1 := inB_iff.1 q1
              have k2 := inB_iff.1 q2
              have k3 := inB_iff.1 q3
              have j1 : -1000000 ≤ a2 ∧ a2 ≤ 1000000 := by omega
              have j2 : -1000000 ≤ b2 ∧ b2 ≤ 1000000 := by omega
              cases p with
              | zero =>
                have M := hide (NXT.out ⟨⟨k1, k2⟩, k3, fun h => by omega⟩)
                have c0' : wr.cell? ⟨b, o, none⟩ = some (.int .i64 a2) := by simpa using c0
                have c1' : wr.cell? ⟨b, o + 1, none⟩ = some (.int .i64 b2) := by simpa using c1
                have c2' : wr.cell? ⟨b, o + 2, none⟩ = some (.int .i64 v2) := by simpa using c2
                clear BAD NXT k1 k2 k3 j1 j2
                go_wp2_with (first | (go_at_call 28; refine (validGlyph_i _ _).mono ?_; rintro e w' ⟨rfl, rfl⟩) | (go_at_call 33; refine (within_any _ _ _ _).mono ?_; rintro e w' ⟨rfl, rfl⟩))
                go_quiet (fail)
                go_wp2
                go_roundw
                case rel => exact ⟨1, by omega, by go_num, M.out, bl_drewN (bl_alloc HB.out _) _⟩
                case measure => simp [intOf]; omega
              | succ m =>
                obtain ⟨b', o', e', hb0', d0, d1, d2⟩ := (HI.out.below HB.out).at3 (i := m) (by omega)
                injection e' with e'
                injection e' with e1 e2
                subst e1
                subst e2
                obtain ⟨a1, ha1⟩ : ∃ a1, a1 = (tg L m).a := ⟨_, rfl⟩
                obtain ⟨b1, hb1⟩ : ∃ b1, b1 = (tg L m).b := ⟨_, rfl⟩
                obtain ⟨v1, hv1⟩ : ∃ v1, v1 = (tg L m).v := ⟨_, rfl⟩
                have k4 := (HP.out m (by omega)).1
                rw [← ha1] at d0 k4
                rw [← hb1] at d1 k4
                rw [← hv1] at d2
                have HK1 : Hid (kyOf L m = a1 * 36 + b1) := hide (by rw [ha1, hb1]; rfl)
                clear ha1 hb1 hv1
                have j3 : -1000000 ≤ a1 ∧ a1 ≤ 1000000 := by omega
                have j4 : -1000000 ≤ b1 ∧ b1 ≤ 1000000 := by omega
                have wk : IntKind.i64.wrap (((m + 1 : Nat) : Int) - 1) = (m : Int) := (IntWalk.i64_in _ (by omega)).trans (by omega)
                have wk2 : IntKind.i64.wrap ((m : Int) + 1 - 1) = (m : Int) := (IntWalk.i64_in _ (by omega)).trans (by omega)
                have wk3 : IntKind.i64.wrap (m : Int) = (m : Int) := IntWalk.i64_in _ (by omega)
                by_cases q4 : a1 * 36 + b1 < a2 * 36 + b2
                · have M := hide (NXT.out ⟨⟨k1, k2⟩, k3, fun h => by rw [Nat.add_sub_cancel, HK1.out, HK2.out]; exact q4⟩)
                  clear BAD NXT k1 k2 k3 k4
                  go_wp2_with (first | (go_at_call 28; refine (validGlyph_i _ _).mono ?_; rintro e w' ⟨rfl, rfl⟩) | (go_at_call 33; refine (within_any _ _ _ _).mono ?_; rintro e w' ⟨rfl, rfl⟩))
                  go_region_with (go_at_call 43; (with_reducible refine (key_i _ _ _ _ (by assumption) (by assumption)).mono ?_); rintro e w' ⟨rfl, hb⟩; obtain ⟨hc, hf⟩ := bcell hb; have hz := bl_sz hb; (try simp at hz))
                  all_goals
                    go_wp2
                    go_roundw
                    case rel =>
                      refine ⟨m + 1 + 1, by omega, by go_num, M.out, ?_⟩
                      have HB2 := HB.out
                      (repeat' (first | with_reducible exact bl_refl _ | with_reducible assumption | with_reducible refine bl_alloc ?_ _ | with_reducible refine bl_set ?_ ?_ _ | with_reducible refine bl_drewN ?_ _ | with_reducible refine bl_drew ?_ | with_reducible refine bl_call (by assumption) ?_))
                      (all_goals (first | omega | (simp; done) | (simp; omega)))
                    case measure => simp [intOf]; omega
                · have E := hide (BAD.out (fun h => q4 (by
                    have := h.2.2 (by omega)
                    rwa [Nat.add_sub_cancel, HK1.out, HK2.out] at this)))
                  clear BAD NXT k1 k2 k3 k4
                  go_wp2_with (first | (go_at_call 28; refine (validGlyph_i _ _).mono ?_; rintro e w' ⟨rfl, rfl⟩) | (go_at_call 33; refine (within_any _ _ _ _).mono ?_; rintro e w' ⟨rfl, rfl⟩))
                  go_region_with (go_at_call 43; (with_reducible refine (key_i _ _ _ _ (by assumption) (by assumption)).mono ?_); rintro e w' ⟨rfl, hb⟩; obtain ⟨hc, hf⟩ := bcell hb; have hz := bl_sz hb; (try simp at hz))
                  all_goals
                    go_wp2
                    go_ret
                    refine ⟨bool_ret E.out.symm, ?_⟩
                    have HB2 := HB.out
                    (repeat' (first | with_reducible exact bl_refl _ | with_reducible assumption | with_reducible refine bl_alloc ?_ _ | with_reducible refine bl_set ?_ ?_ _ | with_reducible refine bl_drewN ?_ _ | with_reducible refine bl_drew ?_ | with_reducible refine bl_call (by assumption) ?_))
                    (all_goals (first | omega | (simp; done) | (simp; omega)))
            all_goals
              have E := hide (BAD.out (fun h => by
                first
                | exact q3 (inB_yes h.2.1.1 h.2.1.2)))
              clear BAD NXT
              have q3 : inB v2 lo hi = false := by simpa using q3
              cases p with
              | zero =>
                have c0' : wr.cell? ⟨b, o, none⟩ = some (.int .i64 a2) := by simpa using c0
                have c1' : wr.cell? ⟨b, o + 1, none⟩ = some (.int .i64 b2) := by simpa using c1
                have c2' : wr.cell? ⟨b, o + 2, none⟩ = some (.int .i64 v2) := by simpa using c2
                go_wp2_with (first | (go_at_call 28; refine (validGlyph_i _ _).mono ?_; rintro e w' ⟨rfl, rfl⟩) | (go_at_call 33; refine (within_any _ _ _ _).mono ?_; rintro e w' ⟨rfl, rfl⟩))
                go_ret
                exact ⟨bool_ret E.out.symm, bl_alloc HB.out _⟩
              | succ m =>
                go_wp2_with (first | (go_at_call 28; refine (validGlyph_i _ _).mono ?_; rintro e w' ⟨rfl, rfl⟩) | (go_at_call 33; refine (within_any _ _ _ _).mono ?_; rintro e w' ⟨rfl, rfl⟩))
                go_ret
                exact ⟨bool_ret E.out.symm, bl_alloc HB.out _⟩
          · have E := hide (BAD.out (fun h => q2 (inB_yes h.1.2.1 h.1.2.2)))
            clear BAD NXT
            have q2 : inB b2 0 35 = false := by simpa using q2
            cases p with
            | zero =>
              have c0' : wr.cell? ⟨b, o, none⟩ = some (.int .i64 a2) := by simpa using c0
              have c1' : wr.cell? ⟨b, o + 1, none⟩ = some (.int .i64 b2) := by simpa using c1
              have c2' : wr.cell? ⟨b, o + 2, none⟩ = some (.int .i64 v2) := by simpa using c2
              go_wp2_with (first | (go_at_call 28; refine (validGlyph_i _ _).mono ?_; rintro e w' ⟨rfl, rfl⟩) | (go_at_call 33; refine (within_any _ _ _ _).mono ?_; rintro e w' ⟨rfl, rfl⟩))
              go_ret
              exact ⟨bool_ret E.out.symm, bl_alloc HB.out _⟩
            | succ m =>
              go_wp2_with (first | (go_at_call 28; refine (validGlyph_i _ _).mono ?_; rintro e w' ⟨rfl, rfl⟩) | (go_at_call 33; refine (within_any _ _ _ _).mono ?_; rintro e w' ⟨rfl, rfl⟩))
              go_ret
              exact ⟨bool_ret E.out.symm, bl_alloc HB.out _⟩
        · have E := hide (BAD.out (fun h => q1 (inB_yes h.1.1.1 h.1.1.2)))
          clear BAD NXT
          have q1 : inB a2 0 35 = false := by simpa using q1
          cases p with
          | zero =>
            have c0' : wr.cell? ⟨b, o, none⟩ = some (.int .i64 a2) := by simpa using c0
            have c1' : wr.cell? ⟨b, o + 1, none⟩ = some (.int .i64 b2) := by simpa using c1
            have c2' : wr.cell? ⟨b, o + 2, none⟩ = some (.int .i64 v2) := by simpa using c2
            go_wp2_with (first | (go_at_call 28; refine (validGlyph_i _ _).mono ?_; rintro e w' ⟨rfl, rfl⟩) | (go_at_call 33; refine (within_any _ _ _ _).mono ?_; rintro e w' ⟨rfl, rfl⟩))
            go_ret
            exact ⟨bool_ret E.out.symm, bl_alloc HB.out _⟩
          | succ m =>
            go_wp2_with (first | (go_at_call 28; refine (validGlyph_i _ _).mono ?_; rintro e w' ⟨rfl, rfl⟩) | (go_at_call 33; refine (within_any _ _ _ _).mono ?_; rintro e w' ⟨rfl, rfl⟩))
            go_ret
            exact ⟨bool_ret E.out.symm, bl_alloc HB.out _⟩
      · have E := hide (pok_iff.2 ⟨hl, by rw [show L.length = p from by omega]; exact HP.out⟩ : pok L lo hi = true)
        go_wp2
        go_ret
        exact ⟨bool_ret E.out.symm, hbl⟩
end Go.Proofs.Ytlfhfbeacleggab
