/- The first pair of placed texts that overlap, in the program and in its model. -/
import Derived.Test.YtpgcpmfnidjhnaaOvM
import Derived.Test.YtpgcpmfnidjhnaaPlS
import Derived.BigQuiet
namespace Go.Proofs.Ytpgcpmfnidjhnaa
open Go.ChangeShapes Go.WideShapes Go.ChangeAt Go.RowKit
set_option linter.unusedVariables false
open Classical

/-- What a valid text is bounded by. -/
def PB (p : Pl) : Prop := (0 ≤ p.x ∧ p.x ≤ 60) ∧ p.t.size ≤ 60
theorem PLs.pb {L : List Pl} {w h : Int} (a : PLs L w h) {k : Nat} (hk : k < L.length) : PB (tg L k) := by
  obtain ⟨_, a2, a3, _⟩ := a.2.2.2 k hk
  obtain ⟨b, _⟩ := a
  refine ⟨⟨a3.1, by omega⟩, by omega⟩
theorem end_i (p : Pl) (u : World) (hp : PB p) :
    Calls Try.prog 109 #[plv p] u fun e u' => e = .returned (.int .i64 (p.x + p.t.size)) ∧ Below u.heap.size u u' := by
  obtain ⟨x, y, t⟩ := p
  obtain ⟨⟨h0, h1⟩, h2⟩ := hp
  simp only at h0 h1 h2
  go_enter Try.func109, Try.ntmps109
  go_wp2
  go_ret
  exact ⟨rfl, (by (repeat' (first | with_reducible exact bl_refl _ | with_reducible assumption | with_reducible refine bl_alloc ?_ _ | with_reducible refine bl_set ?_ ?_ _ | with_reducible refine bl_drewN ?_ _ | with_reducible refine bl_drew ?_ | with_reducible refine bl_call (by assumption) ?_)); (all_goals (first | omega | (simp; done) | (simp; omega))))⟩
set_option maxHeartbeats 2000000 in
theorem overlaps_i (p q : Pl) (u : World) (hp : PB p) (hq : PB q) :
    Calls Try.prog 82 #[plv p, plv q] u fun e u' => e = .returned (.bool (ovb p q)) ∧ Below u.heap.size u u' := by
  have CE := hide (fun (v : World) => end_i q v hq)
  have CF := hide (fun (v : World) => end_i p v hp)
  obtain ⟨x, y, t⟩ := p
  obtain ⟨x', y', t'⟩ := q
  obtain ⟨⟨h0, h1⟩, h2⟩ := hp
  obtain ⟨⟨h0', h1'⟩, h2'⟩ := hq
  simp only at h0 h1 h2 h0' h1' h2'
  by_cases e : y = y'
  · subst e
    have q1 : (y == y) = true := by simp
    by_cases e1 : x < x' + t'.size
    · have q2 : decide (x < x' + (t'.size : Int)) = true := decide_eq_true e1
      have E : Hid (ovb ⟨x, y, t⟩ ⟨x', y, t'⟩ = decide (x' < x + (t.size : Int))) := hide (by
        by_cases e2 : x' < x + t.size
        · rw [decide_eq_true e2]; exact ovb_iff.2 ⟨rfl, e1, e2⟩
        · rw [decide_eq_false e2]; exact ovb_no (fun a => e2 a.2.2))
      have HB3 := hide (bl_alloc (bl_alloc (bl_refl u) (.cells #[.int .i64 x, .int .i64 y, .string t] 58)) (.cells #[.int .i64 x', .int .i64 y, .string t'] 58))
      have ka0 : ((u.alloc (.cells #[.int .i64 x, .int .i64 y, .string t] 58)).alloc (.cells #[.int .i64 x', .int .i64 y, .string t'] 58)).cell? ⟨u.heap.size, 0, none⟩ = some (.int .i64 x) := by simp [go_sem]
      have ka1 : ((u.alloc (.cells #[.int .i64 x, .int .i64 y, .string t] 58)).alloc (.cells #[.int .i64 x', .int .i64 y, .string t'] 58)).cell? ⟨u.heap.size, 1, none⟩ = some (.int .i64 y) := by simp [go_sem]
      have ka2 : ((u.alloc (.cells #[.int .i64 x, .int .i64 y, .string t] 58)).alloc (.cells #[.int .i64 x', .int .i64 y, .string t'] 58)).cell? ⟨u.heap.size, 2, none⟩ = some (.string t) := by simp [go_sem]
      have kb0 : ((u.alloc (.cells #[.int .i64 x, .int .i64 y, .string t] 58)).alloc (.cells #[.int .i64 x', .int .i64 y, .string t'] 58)).cell? ⟨u.heap.size + 1, 0, none⟩ = some (.int .i64 x') := by simp [go_sem]
      have kb1 : ((u.alloc (.cells #[.int .i64 x, .int .i64 y, .string t] 58)).alloc (.cells #[.int .i64 x', .int .i64 y, .string t'] 58)).cell? ⟨u.heap.size + 1, 1, none⟩ = some (.int .i64 y) := by simp [go_sem]
      have kb2 : ((u.alloc (.cells #[.int .i64 x, .int .i64 y, .string t] 58)).alloc (.cells #[.int .i64 x', .int .i64 y, .string t'] 58)).cell? ⟨u.heap.size + 1, 2, none⟩ = some (.string t') := by simp [go_sem]
      go_enter Try.func82, Try.ntmps82
      go_wp2_with fail
      (go_region_held3 (fun v : World => (v.cell? ⟨u.heap.size, 0, none⟩ = some (.int .i64 x) ∧ v.cell? ⟨u.heap.size, 1, none⟩ = some (.int .i64 y) ∧ v.cell? ⟨u.heap.size, 2, none⟩ = some (.string t)) ∧ (v.cell? ⟨u.heap.size + 1, 0, none⟩ = some (.int .i64 x') ∧ v.cell? ⟨u.heap.size + 1, 1, none⟩ = some (.int .i64 y) ∧ v.cell? ⟨u.heap.size + 1, 2, none⟩ = some (.string t'))) (first | (simp [go_sem, *]; done) | exact ⟨⟨ka0, ka1, ka2⟩, ⟨kb0, kb1, kb2⟩⟩) (first | (go_at_call 109; (with_reducible refine (CE.out _).mono ?_); rintro e' w' ⟨rfl, hb⟩; (try (with_reducible have hb := bl_undrew hb)); (have ka0 := keep_cell hb ka0; have ka1 := keep_cell hb ka1; have ka2 := keep_cell hb ka2; have kb0 := keep_cell hb kb0; have kb1 := keep_cell hb kb1; have kb2 := keep_cell hb kb2; have HB3 := hide (bl_call hb HB3.out))) | (go_at_call 109; (with_reducible refine (CF.out _).mono ?_); rintro e' w' ⟨rfl, hb⟩; (try (with_reducible have hb := bl_undrew hb)); (have ka0 := keep_cell hb ka0; have ka1 := keep_cell hb ka1; have ka2 := keep_cell hb ka2; have kb0 := keep_cell hb kb0; have kb1 := keep_cell hb kb1; have kb2 := keep_cell hb kb2; have HB3 := hide (bl_call hb HB3.out)))))
      all_goals go_wp2
      all_goals go_ret
      all_goals exact ⟨bool_ret (by rw [E.out]), HB3.out⟩
    · have E := hide (ovb_no (a := ⟨x, y, t⟩) (b := ⟨x', y, t'⟩) (fun a => e1 a.2.1))
      have q2 : decide (x < x' + (t'.size : Int)) = false := decide_eq_false e1
      go_enter Try.func82, Try.ntmps82
      go_wp2_with fail
      (first | (go_region_with (go_at_call 109; (with_reducible refine (CE.out _).mono ?_); rintro e' w' ⟨rfl, hb⟩; (try (with_reducible have hb := bl_undrew hb)); obtain ⟨hc, hf⟩ := bcell hb; have hz := bl_sz hb; (try simp at hz); (try (have z0 : w.heap.size < w'.heap.size := (by omega); have y0 := Nat.le_of_lt z0)); (try (have z1 : w.heap.size + 1 < w'.heap.size := (by omega); have y1 := Nat.le_of_lt z1)); (try (have z2 : w.heap.size + 1 + 1 < w'.heap.size := (by omega); have y2 := Nat.le_of_lt z2)); (try (have z3 : w.heap.size + 1 + 1 + 1 < w'.heap.size := (by omega); have y3 := Nat.le_of_lt z3)); (try (have z4 : u1.heap.size < w'.heap.size := (by omega); have y4 := Nat.le_of_lt z4)); (try (have z5 : u1.heap.size + 1 < w'.heap.size := (by omega); have y5 := Nat.le_of_lt z5)); (try (have z6 : u2.heap.size < w'.heap.size := (by omega); have y6 := Nat.le_of_lt z6)); (try (have z7 : u2.heap.size + 1 < w'.heap.size := (by omega); have y7 := Nat.le_of_lt z7)); (try (have z8 : u3.heap.size < w'.heap.size := (by omega); have y8 := Nat.le_of_lt z8)); (try (have z9 : u3.heap.size + 1 < w'.heap.size := (by omega); have y9 := Nat.le_of_lt z9)); (try (have z10 : u4.heap.size < w'.heap.size := (by omega); have y10 := Nat.le_of_lt z10)); (try (have z11 : u4.heap.size + 1 < w'.heap.size := (by omega); have y11 := Nat.le_of_lt z11)); (try (have z12 : u5.heap.size < w'.heap.size := (by omega); have y12 := Nat.le_of_lt z12)); (try (have z13 : u5.heap.size + 1 < w'.heap.size := (by omega); have y13 := Nat.le_of_lt z13)); (try (have z14 : u6.heap.size < w'.heap.size := (by omega); have y14 := Nat.le_of_lt z14)); (try (have z15 : u6.heap.size + 1 < w'.heap.size := (by omega); have y15 := Nat.le_of_lt z15)); (try (have zg : g < w'.heap.size := (by omega); have yg := Nat.le_of_lt zg)); (try (have zc : wc.heap.size < w'.heap.size := (by omega); have yc := Nat.le_of_lt zc)); (try (have zd : wc.heap.size + 1 < w'.heap.size := (by omega); have yd := Nat.le_of_lt zd)); (first | (have _k := u7; clear _k; rename World => u8) | (have _k := u6; clear _k; rename World => u7) | (have _k := u5; clear _k; rename World => u6) | (have _k := u4; clear _k; rename World => u5) | (have _k := u3; clear _k; rename World => u4) | (have _k := u2; clear _k; rename World => u3) | (have _k := u1; clear _k; rename World => u2) | (rename World => u1)))) | fail)
      (all_goals go_wp2; all_goals go_ret; all_goals exact ⟨bool_ret (by rw [E.out]), (by (repeat' (first | with_reducible exact bl_refl _ | with_reducible assumption | with_reducible refine bl_alloc ?_ _ | with_reducible refine bl_set ?_ ?_ _ | with_reducible refine bl_drewN ?_ _ | with_reducible refine bl_drew ?_ | with_reducible refine bl_call (by assumption) ?_)); (all_goals (first | omega | (simp; done) | (simp; omega))))⟩)
  · have E := hide (ovb_no (a := ⟨x, y, t⟩) (b := ⟨x', y', t'⟩) (fun a => e a.1))
    have q1 : (y == y') = false := beq_eq_false_iff_ne.2 e
    clear e
    go_enter Try.func82, Try.ntmps82
    go_wp2_with fail
    go_quiet (fail)
    go_wp2
    go_ret
    exact ⟨bool_ret E.out.symm, (by (repeat' (first | with_reducible exact bl_refl _ | with_reducible assumption | with_reducible refine bl_alloc ?_ _ | with_reducible refine bl_set ?_ ?_ _ | with_reducible refine bl_drewN ?_ _ | with_reducible refine bl_drew ?_ | with_reducible refine bl_call (by assumption) ?_)); (all_goals (first | omega | (simp; done) | (simp; omega))))⟩
end Go.Proofs.Ytpgcpmfnidjhnaa
