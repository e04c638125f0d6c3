/- The least number of lines, in the program. -/
import Derived.Test.YtmncdpiojhgcdaaBb
namespace Go.Proofs.Ytmncdpiojhgcdaa
open Go.ChangeShapes Go.WideShapes Go.ChangeAt Go.RowKit
set_option linter.unusedVariables false
set_option linter.unusedSimpArgs false
open Classical

/-- What LeastLines answers. -/
noncomputable def llC (L : List It) (d t : Int) : Int → Int → Int × Bool := fun a b => (1, (coL L a b d t).2)
noncomputable def llO (L : List It) (d t : Int) : Int := if isOk L then (dpR (gB (llC L d t)) ndB L.length).2.1 else 0
theorem llO_no {L : List It} {d t : Int} (h : isOk L = false) : llO L d t = 0 := by simp [llO, h]
theorem llO_yes {L : List It} {d t : Int} (h : isOk L = true) : llO L d t = (dpR (gB (llC L d t)) ndB L.length).2.1 := by simp [llO, h]
set_option maxRecDepth 8000 in
set_option maxHeartbeats 4000000 in
theorem count1_i (w : World) {B gp bw bt g c1 gs gf gb : Nat} (L : List It) (hps : PS w B gp g c1 gs gf gb L) (hall : ∀ i, i < L.length → itOk (tg L i) = true) (h1 : 1 ≤ L.length ∧ L.length ≤ 60) (x a b d t : Int) (wa : -9223372036854775808 ≤ a ∧ a ≤ 9223372036854775807) (wb : -9223372036854775808 ≤ b ∧ b ≤ 9223372036854775807)
    (kw : w.cell? ⟨bw, 0, none⟩ = some (.int .i64 d)) (kt : w.cell? ⟨bt, 0, none⟩ = some (.int .i64 t)) :
    Calls Try.prog 68 #[.int .i64 x, .int .i64 a, .int .i64 b, .pointer (some ⟨gp, 0, none⟩), .pointer (some ⟨bw, 0, none⟩), .pointer (some ⟨bt, 0, none⟩)] w fun e w' => e = .returned (.tuple #[.int .i64 (llC L d t a b).1, .bool (llC L d t a b).2]) ∧ Below w.heap.size w w' := by
  have k0 := hps.k0
  have k1 := hps.k1
  have k2 := hps.k2
  have k3 := hps.k3
  have HC := hide (cost_i w L hps hall h1 a b d t wa wb)
  show Calls _ _ _ _ fun e w' => e = .returned (.tuple #[.int .i64 1, .bool (coL L a b d t).2]) ∧ Below w.heap.size w w'
  obtain ⟨v, hv⟩ : ∃ v, v = coL L a b d t := ⟨_, rfl⟩
  rw [← hv] at HC ⊢
  obtain ⟨v1, v2⟩ := v
  clear hv hps hall wa wb
  go_enter Try.func68, Try.ntmps68
  go_wp2_with fail
  (with_reducible refine HC.out.mono ?_)
  rintro e u1 ⟨rfl, hb⟩
  go_wp2
  go_ret2
  exact ⟨rfl, hb⟩
set_option maxRecDepth 8000 in
set_option maxHeartbeats 4000000 in
theorem LeastLines_i (w : World) (A : Option Addr) (n c : Nat) (L : List It) (d t : Int) (h : TL w A n L) (hn : n ≤ 1048576) :
    Calls Try.prog 21 #[.slice A n c, .int .i64 d, .int .i64 t] w fun e w' => e = .returned (.int .i64 (llO L d t)) ∧ Below w.heap.size w w' := by
  have ME := hide (measure_i ((w.alloc (.cells #[.int .i64 d] 3)).alloc (.cells #[.int .i64 t] 3)) A n c L ((h.alloc _).alloc _) (by omega))
  have HB0 := hide (bl_alloc (bl_alloc (bl_refl w) (.cells #[.int .i64 d] 3)) (.cells #[.int .i64 t] 3))
  have kd0 : ((w.alloc (.cells #[.int .i64 d] 3)).alloc (.cells #[.int .i64 t] 3)).cell? ⟨w.heap.size, 0, none⟩ = some (.int .i64 d) := by simp [go_sem]
  have kt0 : ((w.alloc (.cells #[.int .i64 d] 3)).alloc (.cells #[.int .i64 t] 3)).cell? ⟨w.heap.size + 1, 0, none⟩ = some (.int .i64 t) := by simp [go_sem]
  obtain rfl : n = L.length := h.1
  clear h
  cases hok : isOk L
  · have O := hide (llO_no (d := d) (t := t) hok)
    rw [hok] at ME
    clear hok kd0 kt0
    go_enter Try.func21, Try.ntmps21
    go_wp2_with fail
    (with_reducible refine ME.out.mono ?_)
    rintro e u1 ⟨v, rfl, hv, hv0, hb⟩
    obtain rfl := hv0 (by trivial)
    have HB1 := hide (bl_call hb HB0.out)
    clear hv hv0 hb
    go_wp2
    go_ret
    exact ⟨by rw [O.out]; rfl, bl_alloc HB1.out _⟩
  · have HK := isOk_iff.1 hok
    have HALL := hide HK.1
    have hl60 := HK.2.1
    have HOK := hide hok
    have O := hide (llO_yes (d := d) (t := t) hok)
    rw [hok] at ME
    rw [O.out]
    obtain ⟨R, hR⟩ : ∃ R, R = dpR (gB (llC L d t)) ndB L.length := ⟨_, rfl⟩
    rw [← hR]
    have HR := hide hR
    clear hR HK hok
    go_enter Try.func21, Try.ntmps21
    go_wp2_with fail
    (with_reducible refine ME.out.mono ?_)
    rintro e u1 ⟨v, rfl, hv, hv0, hb⟩
    obtain ⟨g, c1, gs, gf, gb, rfl, hrow, hpr⟩ := hv (by trivial)
    have HPS := hide (ps_made hrow hpr)
    have HB1 := hide (bl_alloc (bl_call hb HB0.out) (.cells #[.slice (some ⟨g, 0, none⟩) L.length c1, .slice (some ⟨gs, 0, none⟩) (L.length + 1) (L.length + 1), .slice (some ⟨gf, 0, none⟩) (L.length + 1) (L.length + 1), .slice (some ⟨gb, 0, none⟩) (L.length + 1) (L.length + 1)] 82))
    have kd := keep_alloc (keep_cell hb kd0) (.cells #[.slice (some ⟨g, 0, none⟩) L.length c1, .slice (some ⟨gs, 0, none⟩) (L.length + 1) (L.length + 1), .slice (some ⟨gf, 0, none⟩) (L.length + 1) (L.length + 1), .slice (some ⟨gb, 0, none⟩) (L.length + 1) (L.length + 1)] 82)
    have kt := keep_alloc (keep_cell hb kt0) (.cells #[.slice (some ⟨g, 0, none⟩) L.length c1, .slice (some ⟨gs, 0, none⟩) (L.length + 1) (L.length + 1), .slice (some ⟨gf, 0, none⟩) (L.length + 1) (L.length + 1), .slice (some ⟨gb, 0, none⟩) (L.length + 1) (L.length + 1)] 82)
    clear hv hv0 hb hrow hpr kd0 kt0
    have k0 := HPS.out.k0
    have k1 := HPS.out.k1
    have k2 := HPS.out.k2
    have k3 := HPS.out.k3
    have HP2 := hide (show PS ((u1.alloc (.cells #[.slice (some ⟨g, 0, none⟩) L.length c1, .slice (some ⟨gs, 0, none⟩) (L.length + 1) (L.length + 1), .slice (some ⟨gf, 0, none⟩) (L.length + 1) (L.length + 1), .slice (some ⟨gb, 0, none⟩) (L.length + 1) (L.length + 1)] 82)).alloc (.cells #[.slice (some ⟨g, 0, none⟩) L.length c1, .slice (some ⟨gs, 0, none⟩) (L.length + 1) (L.length + 1), .slice (some ⟨gf, 0, none⟩) (L.length + 1) (L.length + 1), .slice (some ⟨gb, 0, none⟩) (L.length + 1) (L.length + 1)] 82)) _ (u1.heap.size + 1) g c1 gs gf gb L from by
      have h5 := HPS.out.copy
      rw [show (u1.alloc (.cells #[.slice (some ⟨g, 0, none⟩) L.length c1, .slice (some ⟨gs, 0, none⟩) (L.length + 1) (L.length + 1), .slice (some ⟨gf, 0, none⟩) (L.length + 1) (L.length + 1), .slice (some ⟨gb, 0, none⟩) (L.length + 1) (L.length + 1)] 82)).heap.size = u1.heap.size + 1 by simp] at h5
      exact h5)
    have kd2 := keep_alloc kd (.cells #[.slice (some ⟨g, 0, none⟩) L.length c1, .slice (some ⟨gs, 0, none⟩) (L.length + 1) (L.length + 1), .slice (some ⟨gf, 0, none⟩) (L.length + 1) (L.length + 1), .slice (some ⟨gb, 0, none⟩) (L.length + 1) (L.length + 1)] 82)
    have kt2 := keep_alloc kt (.cells #[.slice (some ⟨g, 0, none⟩) L.length c1, .slice (some ⟨gs, 0, none⟩) (L.length + 1) (L.length + 1), .slice (some ⟨gf, 0, none⟩) (L.length + 1) (L.length + 1), .slice (some ⟨gb, 0, none⟩) (L.length + 1) (L.length + 1)] 82)
    have HP1 := hide (HPS.out.below (bl_alloc (bl_refl _) (.cells #[.slice (some ⟨g, 0, none⟩) L.length c1, .slice (some ⟨gs, 0, none⟩) (L.length + 1) (L.length + 1), .slice (some ⟨gf, 0, none⟩) (L.length + 1) (L.length + 1), .slice (some ⟨gb, 0, none⟩) (L.length + 1) (L.length + 1)] 82)))
    have LP := least_counts ((u1.alloc (.cells #[.slice (some ⟨g, 0, none⟩) L.length c1, .slice (some ⟨gs, 0, none⟩) (L.length + 1) (L.length + 1), .slice (some ⟨gf, 0, none⟩) (L.length + 1) (L.length + 1), .slice (some ⟨gb, 0, none⟩) (L.length + 1) (L.length + 1)] 82)).alloc (.cells #[.slice (some ⟨g, 0, none⟩) L.length c1, .slice (some ⟨gs, 0, none⟩) (L.length + 1) (L.length + 1), .slice (some ⟨gf, 0, none⟩) (L.length + 1) (L.length + 1), .slice (some ⟨gb, 0, none⟩) (L.length + 1) (L.length + 1)] 82)) L HP2.out HOK.out (llC L d t) (fun a b h => cl_has (d := d) (t := t) a b h) (fun a b => by show -200000000 ≤ (1 : Int) ∧ (1 : Int) ≤ 200000000; omega) (.pointer (some ⟨u1.heap.size, 0, none⟩)) (.pointer (some ⟨w.heap.size, 0, none⟩)) (.pointer (some ⟨w.heap.size + 1, 0, none⟩))
      (fun v hv x a b wa wb => count1_i v L (HP1.out.below hv) HALL.out hl60 x a b d t (by omega) (by omega) (keep_cell hv kd2) (keep_cell hv kt2))
    rw [← HR.out] at LP
    obtain ⟨R1, R2, R3⟩ := R
    unfold RetW at LP
    have HLP := hide LP
    clear LP HR O HP1 HP2 kd2 kt2 ME
    go_wp2_with (first | (go_at_call 71; (with_reducible refine (places_i _ _ _ _ _).mono ?_); rintro e w' ⟨rfl, rfl⟩) | (go_at_call 70; (with_reducible refine HLP.out.mono ?_); rintro e u2 ⟨A2, c2, rfl, ho2, hb⟩; have HB2 := hide (bl_call hb (bl_alloc HB1.out (.cells #[.slice (some ⟨g, 0, none⟩) L.length c1, .slice (some ⟨gs, 0, none⟩) (L.length + 1) (L.length + 1), .slice (some ⟨gf, 0, none⟩) (L.length + 1) (L.length + 1), .slice (some ⟨gb, 0, none⟩) (L.length + 1) (L.length + 1)] 82))); clear hb ho2))
    all_goals go_ret
    all_goals exact ⟨rfl, HB2.out⟩
end Go.Proofs.Ytmncdpiojhgcdaa
