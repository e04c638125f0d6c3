/- How a line fits into a width, in the program and in the model. -/
import Derived.Test.YtafddofajfcffaaGlueB
import Derived.Test.YtafddofajfcffaaBxS
namespace Go.Proofs.Ytafddofajfcffaa
open Go.ChangeShapes Go.WideShapes Go.ChangeAt Go.RowKit
set_option linter.unusedVariables false

/-- What a line shows to its fit: no length over MaxLength. -/
def cl (x : Int) : Int := if x ≤ 10000 then x else 10000
theorem cl_in {x : Int} (h : 0 ≤ x) : 0 ≤ cl x ∧ cl x ≤ 10000 := by unfold cl; split <;> omega
theorem cl_way (x : Int) : (x ≤ 10000 ∧ cl x = x) ∨ (10000 < x ∧ cl x = 10000) := by unfold cl; split <;> omega
set_option maxHeartbeats 2000000 in
theorem clampGlue_s (x y z : Int) (w : World) :
    Calls Try.prog 89 #[gv x y z] w fun e w' => e = .returned (gv (cl x) (cl y) (cl z)) ∧ Below w.heap.size w w' := by
  rcases cl_way x with ⟨h1, e1⟩ | ⟨h1, e1⟩ <;> rcases cl_way y with ⟨h2, e2⟩ | ⟨h2, e2⟩ <;> rcases cl_way z with ⟨h3, e3⟩ | ⟨h3, e3⟩
  all_goals
    rw [e1, e2, e3]
    clear e1 e2 e3
    go_enter Try.func89, Try.ntmps89
    go_wp2
    refine bodyPost_ret (v := _) (by simp [results, Try.results89, go_sem, *]; try rfl) rfl ⟨rfl, ?_⟩
    repeat' (first | with_reducible exact bl_refl _ | with_reducible assumption | with_reducible refine bl_alloc ?_ _ | with_reducible refine bl_set ?_ ?_ _ | with_reducible refine bl_drewN ?_ _ | with_reducible refine bl_drew ?_ | with_reducible refine bl_call (by assumption) ?_)
    all_goals (first | omega | (simp; done) | (simp; omega))
theorem validWidth_ii (h : Int) (w : World) : Calls Try.prog 73 #[.int .i64 h] w fun e w' => e = .returned (.bool (inB h 1 10000)) ∧ w = w' := by
  go_enter Try.func73, Try.ntmps73
  go_wp2_with (go_at_call 119; refine (within_any _ _ _ _).mono ?_; rintro e w' ⟨rfl, rfl⟩)
  go_ret
  exact ⟨rfl, rfl⟩
theorem validWidth_ss (h : Int) (w : World) : Calls Try.prog 69 #[.int .i64 h] w fun e w' => e = .returned (.bool (inB h 1 10000)) ∧ w = w' := by
  go_enter Try.func69, Try.ntmps69
  go_wp2_with (go_at_call 96; refine (inRange_any _ _ _ _).mono ?_; rintro e w' ⟨rfl, rfl⟩)
  go_ret
  exact ⟨rfl, rfl⟩
/-- The fit and the badness of a line. -/
noncomputable def ftL (L : List It) (a b d : Int) : Int × Int := if hasL L a b && inB d 1 10000 then fitOf (cl (lgW L a b)) (cl (lgT L a b)) (cl (lgS L a b)) d else (0, -1)
theorem ftL_no {L : List It} {a b d : Int} (h : (hasL L a b && inB d 1 10000) = false) : ftL L a b d = (0, -1) := by simp [ftL, h]
theorem ftL_yes {L : List It} {a b d : Int} (h : (hasL L a b && inB d 1 10000) = true) : ftL L a b d = fitOf (cl (lgW L a b)) (cl (lgT L a b)) (cl (lgS L a b)) d := by simp only [ftL, h, if_true]
theorem lg_eqs {L : List It} {a : Int} {p q : Nat} (hp : a + 1 = (p : Int)) : lgW L a q = sW L q - sW L (min (fBx L p) q) + atW (tg L q) ∧ lgT L a q = sT L q - sT L (min (fBx L p) q) ∧ lgS L a q = sS L q - sS L (min (fBx L p) q) := by
  unfold lgW lgT lgS stA
  rw [hp]; exact ⟨rfl, rfl, rfl⟩
theorem lg_bd {L : List It} (hall : ∀ i, i < L.length → itOk (tg L i) = true) {p q : Nat} (hq : q < L.length) (m : Nat) (hm : m ≤ q) : (0 ≤ sW L q - sW L m + atW (tg L q)) ∧ (0 ≤ sT L q - sT L m) ∧ (0 ≤ sS L q - sS L m) := by
  have h1 := s_mono hall (a := m) (k := q) hm (by omega)
  have h2 : 0 ≤ atW (tg L q) := by
    rcases iok_iff.1 (hall q hq) with h | h | h <;> (unfold atW; split <;> omega)
  omega
set_option maxRecDepth 8000 in
set_option maxHeartbeats 4000000 in
theorem fit_i (w : World) {B gp g c1 gs gf gb : Nat} (L : List It) (hps : PS w B gp g c1 gs gf gb L) (hall : ∀ i, i < L.length → itOk (tg L i) = true) (h1 : 1 ≤ L.length ∧ L.length ≤ 60) (a b d : Int) (wa : -9223372036854775808 ≤ a ∧ a ≤ 9223372036854775807) (wb : -9223372036854775808 ≤ b ∧ b ≤ 9223372036854775807) :
    Calls Try.prog 85 #[.agg #[.slice (some ⟨g, 0, none⟩) L.length c1, .slice (some ⟨gs, 0, none⟩) (L.length + 1) (L.length + 1), .slice (some ⟨gf, 0, none⟩) (L.length + 1) (L.length + 1), .slice (some ⟨gb, 0, none⟩) (L.length + 1) (L.length + 1)], .int .i64 a, .int .i64 b, .int .i64 d] w fun e w' => e = .returned (.tuple #[.int .i64 (ftL L a b d).1, .int .i64 (ftL L a b d).2]) ∧ Below w.heap.size w w' := by
  have HPS := hide (ps_made hps.row hps.pr)
  have PH := HPS.out.hasLine hall h1 a b wa wb
  have HALL := hide hall
  have HB0 := hide (bl_alloc (bl_refl w) (.cells #[.slice (some ⟨g, 0, none⟩) L.length c1, .slice (some ⟨gs, 0, none⟩) (L.length + 1) (L.length + 1), .slice (some ⟨gf, 0, none⟩) (L.length + 1) (L.length + 1), .slice (some ⟨gb, 0, none⟩) (L.length + 1) (L.length + 1)] 92))
  have k0 := HPS.out.k0; have k1 := HPS.out.k1; have k2 := HPS.out.k2; have k3 := HPS.out.k3
  clear hps wa wb hall
  cases q1 : inB d 1 10000
  · have E := hide (ftL_no (L := L) (a := a) (b := b) (d := d) (by simp [q1]))
    clear PH
    go_enter Try.func85, Try.ntmps85
    go_wp2_with (go_at_call 73; refine (validWidth_ii _ _).mono ?_; rintro e w' ⟨rfl, rfl⟩)
    go_ret2
    exact ⟨by rw [E.out]; rfl, HB0.out⟩
  cases hh : hasL L a b
  · have E := hide (ftL_no (L := L) (a := a) (b := b) (d := d) (by simp [hh]))
    rw [hh] at PH
    have HPH := hide PH
    clear PH hh
    go_enter Try.func85, Try.ntmps85
    go_wp2_with (go_at_call 73; refine (validWidth_ii _ _).mono ?_; rintro e w' ⟨rfl, rfl⟩)
    (with_reducible refine HPH.out.mono ?_)
    rintro e u2 ⟨rfl, hb⟩
    have HB2 := hide (bl_call hb HB0.out)
    clear hb
    go_wp2
    go_ret2
    exact ⟨by rw [E.out]; rfl, HB2.out⟩
  · have E := ftL_yes (L := L) (a := a) (b := b) (d := d) (by simp [hh, q1])
    rw [hh] at PH
    have HPH := hide PH
    obtain ⟨p, q, hp, rfl, hpq, hq, _⟩ := hasL_of hh
    obtain ⟨e1, e2, e3⟩ := lg_eqs (L := L) (q := q) hp
    obtain ⟨b1, b2, b3⟩ := lg_bd (p := p) HALL.out hq (min (fBx L p) q) (Nat.min_le_right _ _)
    rw [e1, e2, e3] at E
    have LG := fun (u : World) (hu : PS u B w.heap.size g c1 gs gf gb L) => hu.lineGlue HALL.out h1 a p q hp (by omega) hq
    obtain ⟨z0, hz0⟩ : ∃ z, z = sW L q - sW L (min (fBx L p) q) + atW (tg L q) := ⟨_, rfl⟩
    obtain ⟨z1, hz1⟩ : ∃ z, z = sT L q - sT L (min (fBx L p) q) := ⟨_, rfl⟩
    obtain ⟨z2, hz2⟩ : ∃ z, z = sS L q - sS L (min (fBx L p) q) := ⟨_, rfl⟩
    rw [← hz0, ← hz1, ← hz2] at E LG
    rw [← hz0] at b1
    rw [← hz1] at b2
    rw [← hz2] at b3
    have HLG := hide LG
    have i1 := cl_in b1
    have i2 := cl_in b2
    have i3 := cl_in b3
    have hd := inB_iff.1 q1
    have FV : fitv (cl z0) (cl z1) (cl z2) d = fitOf (cl z0) (cl z1) (cl z2) d := fitv_yes (by
      rw [Bool.and_eq_true]
      exact ⟨vg_iff.2 ⟨⟨by omega, i1.2⟩, i2, i3⟩, inB_yes (by omega) hd.2⟩)
    have FG := fun (u : World) => FitGlue_i (cl z0) (cl z1) (cl z2) d u
    rw [FV, ← E] at FG
    obtain ⟨R1, hR1⟩ : ∃ R, R = (ftL L a q d).1 := ⟨_, rfl⟩
    obtain ⟨R2, hR2⟩ : ∃ R, R = (ftL L a q d).2 := ⟨_, rfl⟩
    rw [← hR1, ← hR2] at FG ⊢
    clear PH hh E e1 e2 e3 LG hz0 hz1 hz2 hp FV hR1 hR2 hd i1 i2 i3
    rcases cl_way z0 with ⟨g1, e1⟩ | ⟨g1, e1⟩ <;> rcases cl_way z1 with ⟨g2, e2⟩ | ⟨g2, e2⟩ <;> rcases cl_way z2 with ⟨g3, e3⟩ | ⟨g3, e3⟩
    all_goals
      rw [e1, e2, e3] at FG
      have HFG := hide FG
      clear FG e1 e2 e3
      go_enter Try.func85, Try.ntmps85
      go_wp2_with (go_at_call 73; refine (validWidth_ii _ _).mono ?_; rintro e w' ⟨rfl, rfl⟩)
      (with_reducible refine HPH.out.mono ?_)
      rintro e u2 ⟨rfl, hb⟩
      have HB2 := hide (bl_call hb HB0.out)
      have HPS2 := hide (HPS.out.below hb)
      have k0 := keep_cell hb k0
      have k1 := keep_cell hb k1
      have k2 := keep_cell hb k2
      have k3 := keep_cell hb k3
      clear hb
      go_wp2_with fail
      (with_reducible refine (HLG.out _ HPS2.out).mono ?_)
      rintro e u3 ⟨rfl, hb⟩
      have HB3 := hide (bl_alloc (bl_call hb HB2.out) (.cells #[.int .i64 z0, .int .i64 z1, .int .i64 z2] 70))
      clear hb k0 k1 k2 k3
      go_wp2_with fail
      (with_reducible refine (HFG.out _).mono ?_)
      rintro e u4 ⟨rfl, hb⟩
      have HB4 := hide (bl_call hb HB3.out)
      clear hb
      go_wp2
      go_ret2
      exact ⟨rfl, HB4.out⟩
end Go.Proofs.Ytafddofajfcffaa
