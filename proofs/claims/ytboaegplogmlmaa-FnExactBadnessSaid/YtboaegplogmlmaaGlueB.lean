/- Contracts of AddGlue, FitGlue and of the helpers of the exact laws on glue. -/
import Derived.Test.YtboaegplogmlmaaGlue
namespace Go.Proofs.Ytboaegplogmlmaa
open Go.ChangeShapes Go.WideShapes Go.ChangeAt Go.RowKit

theorem AddGlue_i (a b c x y z : Int) (w : World) :
    Calls Try.prog 13 #[gv a b c, gv x y z] w fun e w' => e = .returned (addv a b c x y z) ∧ Below w.heap.size w w' := by
  cases q1 : vg a b c
  · have E : Hid (addv a b c x y z = .tuple #[gv 0 0 0, .bool false]) := hide (by simp [addv, addOk, *])
    go_enter Try.func13, Try.ntmps13
    go_wp2_with (go_at_call 27; refine (valid_any _ _ _ _).mono ?_; rintro e w' ⟨rfl, hb⟩; obtain ⟨hc, hf⟩ := bcell hb; have hz := bl_sz hb; (try simp at hz); (try have z0 : w.heap.size < w'.heap.size := by omega); (try have z1 : w.heap.size + 1 < w'.heap.size := by omega); (try have z2 : w.heap.size + 1 + 1 < w'.heap.size := by omega); (try have z3 : w.heap.size + 1 + 1 + 1 < w'.heap.size := by omega); (try have z4 : u1.heap.size < w'.heap.size := by omega); (try have z5 : u1.heap.size + 1 < w'.heap.size := by omega); (try have z6 : u2.heap.size < w'.heap.size := by omega); (try have z7 : u2.heap.size + 1 < w'.heap.size := by omega); (try have z8 : u3.heap.size < w'.heap.size := by omega); (try have z9 : u3.heap.size + 1 < w'.heap.size := by omega))
    rw [E.out]
    refine bodyPost_ret (v := .tuple #[gv 0 0 0, .bool false]) (by simp [results, Try.results13, go_sem, *]) rfl ⟨rfl, ?_⟩
    repeat' (first | exact bl_refl _ | refine bl_alloc ?_ _ | refine bl_set ?_ ?_ _ | refine bl_drewN ?_ _ | refine bl_drew ?_ | refine bl_call (by assumption) ?_)
    all_goals (simp; try omega)
  · cases q2 : vg x y z
    · have E : Hid (addv a b c x y z = .tuple #[gv 0 0 0, .bool false]) := hide (by simp [addv, addOk, *])
      go_enter Try.func13, Try.ntmps13
      go_wp2_with (go_at_call 27; refine (valid_any _ _ _ _).mono ?_; rintro e w' ⟨rfl, hb⟩; obtain ⟨hc, hf⟩ := bcell hb; have hz := bl_sz hb; (try simp at hz); (try have z0 : w.heap.size < w'.heap.size := by omega); (try have z1 : w.heap.size + 1 < w'.heap.size := by omega); (try have z2 : w.heap.size + 1 + 1 < w'.heap.size := by omega); (try have z3 : w.heap.size + 1 + 1 + 1 < w'.heap.size := by omega); (try have z4 : u1.heap.size < w'.heap.size := by omega); (try have z5 : u1.heap.size + 1 < w'.heap.size := by omega); (try have z6 : u2.heap.size < w'.heap.size := by omega); (try have z7 : u2.heap.size + 1 < w'.heap.size := by omega); (try have z8 : u3.heap.size < w'.heap.size := by omega); (try have z9 : u3.heap.size + 1 < w'.heap.size := by omega))
      rw [E.out]
      refine bodyPost_ret (v := .tuple #[gv 0 0 0, .bool false]) (by simp [results, Try.results13, go_sem, *]) rfl ⟨rfl, ?_⟩
      repeat' (first | exact bl_refl _ | refine bl_alloc ?_ _ | refine bl_set ?_ ?_ _ | refine bl_drewN ?_ _ | refine bl_drew ?_ | refine bl_call (by assumption) ?_)
      all_goals (simp; try omega)
    · obtain ⟨h1, h2, h3⟩ := vg_iff.1 q1
      obtain ⟨k1, k2, k3⟩ := vg_iff.1 q2
      cases q3 : vg (a + x) (b + y) (c + z)
      · have E : Hid (addv a b c x y z = .tuple #[gv 0 0 0, .bool false]) := hide (by simp [addv, addOk, *])
        go_enter Try.func13, Try.ntmps13
        go_wp2_with (first | (go_at_call 27; refine (valid_any _ _ _ _).mono ?_; rintro e w' ⟨rfl, hb⟩; obtain ⟨hc, hf⟩ := bcell hb; have hz := bl_sz hb; (try simp at hz); (try have z0 : w.heap.size < w'.heap.size := by omega); (try have z1 : w.heap.size + 1 < w'.heap.size := by omega); (try have z2 : w.heap.size + 1 + 1 < w'.heap.size := by omega); (try have z3 : w.heap.size + 1 + 1 + 1 < w'.heap.size := by omega); (try have z4 : u1.heap.size < w'.heap.size := by omega); (try have z5 : u1.heap.size + 1 < w'.heap.size := by omega); (try have z6 : u2.heap.size < w'.heap.size := by omega); (try have z7 : u2.heap.size + 1 < w'.heap.size := by omega); (try have z8 : u3.heap.size < w'.heap.size := by omega); (try have z9 : u3.heap.size + 1 < w'.heap.size := by omega)) | (go_at_call 28; refine (plus_i _ _ _ _ _ _ _ h1 h2 h3 k1 k2 k3).mono ?_; rintro e w' ⟨rfl, hb⟩; obtain ⟨hc, hf⟩ := bcell hb; have hz := bl_sz hb; (try simp at hz); (try have z0 : w.heap.size < w'.heap.size := by omega); (try have z1 : w.heap.size + 1 < w'.heap.size := by omega); (try have z2 : w.heap.size + 1 + 1 < w'.heap.size := by omega); (try have z3 : w.heap.size + 1 + 1 + 1 < w'.heap.size := by omega); (try have z4 : u1.heap.size < w'.heap.size := by omega); (try have z5 : u1.heap.size + 1 < w'.heap.size := by omega); (try have z6 : u2.heap.size < w'.heap.size := by omega); (try have z7 : u2.heap.size + 1 < w'.heap.size := by omega); (try have z8 : u3.heap.size < w'.heap.size := by omega); (try have z9 : u3.heap.size + 1 < w'.heap.size := by omega)))
        rw [E.out]
        refine bodyPost_ret (v := .tuple #[gv 0 0 0, .bool false]) (by simp [results, Try.results13, go_sem, *]) rfl ⟨rfl, ?_⟩
        repeat' (first | exact bl_refl _ | refine bl_alloc ?_ _ | refine bl_set ?_ ?_ _ | refine bl_drewN ?_ _ | refine bl_drew ?_ | refine bl_call (by assumption) ?_)
        all_goals (simp; try omega)
      · have E : Hid (addv a b c x y z = .tuple #[gv (a + x) (b + y) (c + z), .bool true]) := hide (by simp [addv, addOk, *])
        go_enter Try.func13, Try.ntmps13
        go_wp2_with (first | (go_at_call 27; refine (valid_any _ _ _ _).mono ?_; rintro e w' ⟨rfl, hb⟩; obtain ⟨hc, hf⟩ := bcell hb; have hz := bl_sz hb; (try simp at hz); (try have z0 : w.heap.size < w'.heap.size := by omega); (try have z1 : w.heap.size + 1 < w'.heap.size := by omega); (try have z2 : w.heap.size + 1 + 1 < w'.heap.size := by omega); (try have z3 : w.heap.size + 1 + 1 + 1 < w'.heap.size := by omega); (try have z4 : u1.heap.size < w'.heap.size := by omega); (try have z5 : u1.heap.size + 1 < w'.heap.size := by omega); (try have z6 : u2.heap.size < w'.heap.size := by omega); (try have z7 : u2.heap.size + 1 < w'.heap.size := by omega); (try have z8 : u3.heap.size < w'.heap.size := by omega); (try have z9 : u3.heap.size + 1 < w'.heap.size := by omega)) | (go_at_call 28; refine (plus_i _ _ _ _ _ _ _ h1 h2 h3 k1 k2 k3).mono ?_; rintro e w' ⟨rfl, hb⟩; obtain ⟨hc, hf⟩ := bcell hb; have hz := bl_sz hb; (try simp at hz); (try have z0 : w.heap.size < w'.heap.size := by omega); (try have z1 : w.heap.size + 1 < w'.heap.size := by omega); (try have z2 : w.heap.size + 1 + 1 < w'.heap.size := by omega); (try have z3 : w.heap.size + 1 + 1 + 1 < w'.heap.size := by omega); (try have z4 : u1.heap.size < w'.heap.size := by omega); (try have z5 : u1.heap.size + 1 < w'.heap.size := by omega); (try have z6 : u2.heap.size < w'.heap.size := by omega); (try have z7 : u2.heap.size + 1 < w'.heap.size := by omega); (try have z8 : u3.heap.size < w'.heap.size := by omega); (try have z9 : u3.heap.size + 1 < w'.heap.size := by omega)))
        rw [E.out]
        refine bodyPost_ret (v := .tuple #[gv (a + x) (b + y) (c + z), .bool true]) (by simp [results, Try.results13, go_sem, *]) rfl ⟨rfl, ?_⟩
        repeat' (first | exact bl_refl _ | refine bl_alloc ?_ _ | refine bl_set ?_ ?_ _ | refine bl_drewN ?_ _ | refine bl_drew ?_ | refine bl_call (by assumption) ?_)
        all_goals (simp; try omega)

theorem addGlue_w (a b c x y z : Int) (w : World) :
    Calls Try.prog 29 #[gv a b c, gv x y z] w fun e w' => e = .returned (gv (wrap64 (a + x)) (wrap64 (b + y)) (wrap64 (c + z))) ∧ Below w.heap.size w w' := by
  go_enter Try.func29, Try.ntmps29
  go_wp2
  refine bodyPost_ret (v := gv (wrap64 (a + x)) (wrap64 (b + y)) (wrap64 (c + z))) (by simp [results, Try.results29, go_sem, *]) rfl ⟨rfl, ?_⟩
  repeat' (first | exact bl_refl _ | refine bl_alloc ?_ _ | refine bl_set ?_ ?_ _ | refine bl_drewN ?_ _ | refine bl_drew ?_ | refine bl_call (by assumption) ?_)
  all_goals (simp; try omega)

theorem AddGlue_s (a b c x y z : Int) (w : World) :
    Calls Try.prog 14 #[gv a b c, gv x y z] w fun e w' => e = .returned (addv a b c x y z) ∧ Below w.heap.size w w' := by
  cases q1 : vg a b c
  · have E : Hid (addv a b c x y z = .tuple #[gv 0 0 0, .bool false]) := hide (by simp [addv, addOk, *])
    go_enter Try.func14, Try.ntmps14
    go_wp2_with (first | (go_at_call 30; refine (validGlue_s _ _ _ _).mono ?_; rintro e w' ⟨rfl, hb⟩; obtain ⟨hc, hf⟩ := bcell hb; have hz := bl_sz hb; (try simp at hz); (try have z0 : w.heap.size < w'.heap.size := by omega); (try have z1 : w.heap.size + 1 < w'.heap.size := by omega); (try have z2 : w.heap.size + 1 + 1 < w'.heap.size := by omega); (try have z3 : w.heap.size + 1 + 1 + 1 < w'.heap.size := by omega); (try have z4 : u1.heap.size < w'.heap.size := by omega); (try have z5 : u1.heap.size + 1 < w'.heap.size := by omega); (try have z6 : u2.heap.size < w'.heap.size := by omega); (try have z7 : u2.heap.size + 1 < w'.heap.size := by omega); (try have z8 : u3.heap.size < w'.heap.size := by omega); (try have z9 : u3.heap.size + 1 < w'.heap.size := by omega)) | (go_at_call 29; refine (addGlue_w _ _ _ _ _ _ _).mono ?_; rintro e u1 ⟨rfl, hb⟩; obtain ⟨hc, hf⟩ := bcell hb; have hz := bl_sz hb; (try simp at hz); (try have z0 : w.heap.size < u1.heap.size := by omega); (try have z1 : w.heap.size + 1 < u1.heap.size := by omega); (try have z2 : w.heap.size + 1 + 1 < u1.heap.size := by omega); (try have z3 : w.heap.size + 1 + 1 + 1 < u1.heap.size := by omega); (try have z4 : u1.heap.size < u1.heap.size := by omega); (try have z5 : u1.heap.size + 1 < u1.heap.size := by omega); (try have z6 : u2.heap.size < u1.heap.size := by omega); (try have z7 : u2.heap.size + 1 < u1.heap.size := by omega); (try have z8 : u3.heap.size < u1.heap.size := by omega); (try have z9 : u3.heap.size + 1 < u1.heap.size := by omega)))
    rw [E.out]
    refine bodyPost_ret (v := .tuple #[gv 0 0 0, .bool false]) (by simp [results, Try.results14, go_sem, *]) rfl ⟨rfl, ?_⟩
    repeat' (first | exact bl_refl _ | refine bl_alloc ?_ _ | refine bl_set ?_ ?_ _ | refine bl_drewN ?_ _ | refine bl_drew ?_ | refine bl_call (by assumption) ?_)
    all_goals (simp; try omega)
  · cases q2 : vg x y z
    · have E : Hid (addv a b c x y z = .tuple #[gv 0 0 0, .bool false]) := hide (by simp [addv, addOk, *])
      go_enter Try.func14, Try.ntmps14
      go_wp2_with (first | (go_at_call 30; refine (validGlue_s _ _ _ _).mono ?_; rintro e w' ⟨rfl, hb⟩; obtain ⟨hc, hf⟩ := bcell hb; have hz := bl_sz hb; (try simp at hz); (try have z0 : w.heap.size < w'.heap.size := by omega); (try have z1 : w.heap.size + 1 < w'.heap.size := by omega); (try have z2 : w.heap.size + 1 + 1 < w'.heap.size := by omega); (try have z3 : w.heap.size + 1 + 1 + 1 < w'.heap.size := by omega); (try have z4 : u1.heap.size < w'.heap.size := by omega); (try have z5 : u1.heap.size + 1 < w'.heap.size := by omega); (try have z6 : u2.heap.size < w'.heap.size := by omega); (try have z7 : u2.heap.size + 1 < w'.heap.size := by omega); (try have z8 : u3.heap.size < w'.heap.size := by omega); (try have z9 : u3.heap.size + 1 < w'.heap.size := by omega)) | (go_at_call 29; refine (addGlue_w _ _ _ _ _ _ _).mono ?_; rintro e u1 ⟨rfl, hb⟩; obtain ⟨hc, hf⟩ := bcell hb; have hz := bl_sz hb; (try simp at hz); (try have z0 : w.heap.size < u1.heap.size := by omega); (try have z1 : w.heap.size + 1 < u1.heap.size := by omega); (try have z2 : w.heap.size + 1 + 1 < u1.heap.size := by omega); (try have z3 : w.heap.size + 1 + 1 + 1 < u1.heap.size := by omega); (try have z4 : u1.heap.size < u1.heap.size := by omega); (try have z5 : u1.heap.size + 1 < u1.heap.size := by omega); (try have z6 : u2.heap.size < u1.heap.size := by omega); (try have z7 : u2.heap.size + 1 < u1.heap.size := by omega); (try have z8 : u3.heap.size < u1.heap.size := by omega); (try have z9 : u3.heap.size + 1 < u1.heap.size := by omega)))
      rw [E.out]
      refine bodyPost_ret (v := .tuple #[gv 0 0 0, .bool false]) (by simp [results, Try.results14, go_sem, *]) rfl ⟨rfl, ?_⟩
      repeat' (first | exact bl_refl _ | refine bl_alloc ?_ _ | refine bl_set ?_ ?_ _ | refine bl_drewN ?_ _ | refine bl_drew ?_ | refine bl_call (by assumption) ?_)
      all_goals (simp; try omega)
    · obtain ⟨h1, h2, h3⟩ := vg_iff.1 q1
      obtain ⟨k1, k2, k3⟩ := vg_iff.1 q2
      cases q3 : vg (a + x) (b + y) (c + z)
      · have E : Hid (addv a b c x y z = .tuple #[gv 0 0 0, .bool false]) := hide (by simp [addv, addOk, *])
        go_enter Try.func14, Try.ntmps14
        go_wp2_with (first | (go_at_call 30; refine (validGlue_s _ _ _ _).mono ?_; rintro e w' ⟨rfl, hb⟩; obtain ⟨hc, hf⟩ := bcell hb; have hz := bl_sz hb; (try simp at hz); (try have z0 : w.heap.size < w'.heap.size := by omega); (try have z1 : w.heap.size + 1 < w'.heap.size := by omega); (try have z2 : w.heap.size + 1 + 1 < w'.heap.size := by omega); (try have z3 : w.heap.size + 1 + 1 + 1 < w'.heap.size := by omega); (try have z4 : u1.heap.size < w'.heap.size := by omega); (try have z5 : u1.heap.size + 1 < w'.heap.size := by omega); (try have z6 : u2.heap.size < w'.heap.size := by omega); (try have z7 : u2.heap.size + 1 < w'.heap.size := by omega); (try have z8 : u3.heap.size < w'.heap.size := by omega); (try have z9 : u3.heap.size + 1 < w'.heap.size := by omega)) | (go_at_call 29; refine (addGlue_s _ _ _ _ _ _ _ h1 h2 h3 k1 k2 k3).mono ?_; rintro e u1 ⟨rfl, hb⟩; obtain ⟨hc, hf⟩ := bcell hb; have hz := bl_sz hb; (try simp at hz); (try have z0 : w.heap.size < u1.heap.size := by omega); (try have z1 : w.heap.size + 1 < u1.heap.size := by omega); (try have z2 : w.heap.size + 1 + 1 < u1.heap.size := by omega); (try have z3 : w.heap.size + 1 + 1 + 1 < u1.heap.size := by omega); (try have z4 : u1.heap.size < u1.heap.size := by omega); (try have z5 : u1.heap.size + 1 < u1.heap.size := by omega); (try have z6 : u2.heap.size < u1.heap.size := by omega); (try have z7 : u2.heap.size + 1 < u1.heap.size := by omega); (try have z8 : u3.heap.size < u1.heap.size := by omega); (try have z9 : u3.heap.size + 1 < u1.heap.size := by omega)))
        rw [E.out]
        refine bodyPost_ret (v := .tuple #[gv 0 0 0, .bool false]) (by simp [results, Try.results14, go_sem, *]) rfl ⟨rfl, ?_⟩
        repeat' (first | exact bl_refl _ | refine bl_alloc ?_ _ | refine bl_set ?_ ?_ _ | refine bl_drewN ?_ _ | refine bl_drew ?_ | refine bl_call (by assumption) ?_)
        all_goals (simp; try omega)
      · have E : Hid (addv a b c x y z = .tuple #[gv (a + x) (b + y) (c + z), .bool true]) := hide (by simp [addv, addOk, *])
        go_enter Try.func14, Try.ntmps14
        go_wp2_with (first | (go_at_call 30; refine (validGlue_s _ _ _ _).mono ?_; rintro e w' ⟨rfl, hb⟩; obtain ⟨hc, hf⟩ := bcell hb; have hz := bl_sz hb; (try simp at hz); (try have z0 : w.heap.size < w'.heap.size := by omega); (try have z1 : w.heap.size + 1 < w'.heap.size := by omega); (try have z2 : w.heap.size + 1 + 1 < w'.heap.size := by omega); (try have z3 : w.heap.size + 1 + 1 + 1 < w'.heap.size := by omega); (try have z4 : u1.heap.size < w'.heap.size := by omega); (try have z5 : u1.heap.size + 1 < w'.heap.size := by omega); (try have z6 : u2.heap.size < w'.heap.size := by omega); (try have z7 : u2.heap.size + 1 < w'.heap.size := by omega); (try have z8 : u3.heap.size < w'.heap.size := by omega); (try have z9 : u3.heap.size + 1 < w'.heap.size := by omega)) | (go_at_call 29; refine (addGlue_s _ _ _ _ _ _ _ h1 h2 h3 k1 k2 k3).mono ?_; rintro e u1 ⟨rfl, hb⟩; obtain ⟨hc, hf⟩ := bcell hb; have hz := bl_sz hb; (try simp at hz); (try have z0 : w.heap.size < u1.heap.size := by omega); (try have z1 : w.heap.size + 1 < u1.heap.size := by omega); (try have z2 : w.heap.size + 1 + 1 < u1.heap.size := by omega); (try have z3 : w.heap.size + 1 + 1 + 1 < u1.heap.size := by omega); (try have z4 : u1.heap.size < u1.heap.size := by omega); (try have z5 : u1.heap.size + 1 < u1.heap.size := by omega); (try have z6 : u2.heap.size < u1.heap.size := by omega); (try have z7 : u2.heap.size + 1 < u1.heap.size := by omega); (try have z8 : u3.heap.size < u1.heap.size := by omega); (try have z9 : u3.heap.size + 1 < u1.heap.size := by omega)))
        rw [E.out]
        refine bodyPost_ret (v := .tuple #[gv (a + x) (b + y) (c + z), .bool true]) (by simp [results, Try.results14, go_sem, *]) rfl ⟨rfl, ?_⟩
        repeat' (first | exact bl_refl _ | refine bl_alloc ?_ _ | refine bl_set ?_ ?_ _ | refine bl_drewN ?_ _ | refine bl_drew ?_ | refine bl_call (by assumption) ?_)
        all_goals (simp; try omega)

/-- What FitGlue returns: the fit and the badness. -/
def fitOf (a b c d : Int) : Int × Int :=
  if d - a = 0 then (1, 0) else if 0 < d - a then (2, bad (d - a) b) else if -(d - a) ≤ c then (3, bad (-(d - a)) c) else (4, 10000)
def fitv (a b c d : Int) : Int × Int := if vg a b c && inB d 0 10000 then fitOf a b c d else (0, -1)
theorem fit_cases (a b c d : Int) : (d - a = 0 ∧ fitOf a b c d = (1, 0)) ∨ (0 < d - a ∧ fitOf a b c d = (2, bad (d - a) b)) ∨
    (d - a < 0 ∧ -(d - a) ≤ c ∧ fitOf a b c d = (3, bad (-(d - a)) c)) ∨ (d - a < 0 ∧ c < -(d - a) ∧ fitOf a b c d = (4, 10000)) := by
  unfold fitOf
  repeat' split
  all_goals (simp; try omega)
theorem fitv_no {a b c d : Int} (h : (vg a b c && inB d 0 10000) = false) : fitv a b c d = (0, -1) := by simp [fitv, h]
theorem fitv_yes {a b c d : Int} (h : (vg a b c && inB d 0 10000) = true) : fitv a b c d = fitOf a b c d := by simp only [fitv, h, if_true]

theorem FitGlue_i (a b c d : Int) (w : World) :
    Calls Try.prog 20 #[gv a b c, .int .i64 d] w fun e w' => e = .returned (.tuple #[.int .i64 (fitv a b c d).1, .int .i64 (fitv a b c d).2]) ∧ Below w.heap.size w w' := by
  cases q1 : vg a b c
  · have E := hide (fitv_no (a := a) (b := b) (c := c) (d := d) (by simp [*]))
    go_enter Try.func20, Try.ntmps20
    go_wp2_with (first | (go_at_call 27; refine (valid_any _ _ _ _).mono ?_; rintro e w' ⟨rfl, hb⟩; obtain ⟨hc, hf⟩ := bcell hb; have hz := bl_sz hb; (try simp at hz); (try have z0 : w.heap.size < w'.heap.size := by omega); (try have z1 : w.heap.size + 1 < w'.heap.size := by omega); (try have z2 : w.heap.size + 1 + 1 < w'.heap.size := by omega); (try have z3 : w.heap.size + 1 + 1 + 1 < w'.heap.size := by omega); (try have z4 : u1.heap.size < w'.heap.size := by omega); (try have z5 : u1.heap.size + 1 < w'.heap.size := by omega); (try have z6 : u2.heap.size < w'.heap.size := by omega); (try have z7 : u2.heap.size + 1 < w'.heap.size := by omega); (try have z8 : u3.heap.size < w'.heap.size := by omega); (try have z9 : u3.heap.size + 1 < w'.heap.size := by omega)) | (go_at_call 32; refine (within_any _ _ _ _).mono ?_; rintro e w' ⟨rfl, rfl⟩))
    go_ret2
    refine ⟨by rw [E.out]; rfl, ?_⟩
    repeat' (first | exact bl_refl _ | refine bl_alloc ?_ _ | refine bl_set ?_ ?_ _ | refine bl_drewN ?_ _ | refine bl_drew ?_ | refine bl_call (by assumption) ?_)
  · cases q2 : inB d 0 10000
    · have E := hide (fitv_no (a := a) (b := b) (c := c) (d := d) (by simp [*]))
      go_enter Try.func20, Try.ntmps20
      go_wp2_with (first | (go_at_call 27; refine (valid_any _ _ _ _).mono ?_; rintro e w' ⟨rfl, hb⟩; obtain ⟨hc, hf⟩ := bcell hb; have hz := bl_sz hb; (try simp at hz); (try have z0 : w.heap.size < w'.heap.size := by omega); (try have z1 : w.heap.size + 1 < w'.heap.size := by omega); (try have z2 : w.heap.size + 1 + 1 < w'.heap.size := by omega); (try have z3 : w.heap.size + 1 + 1 + 1 < w'.heap.size := by omega); (try have z4 : u1.heap.size < w'.heap.size := by omega); (try have z5 : u1.heap.size + 1 < w'.heap.size := by omega); (try have z6 : u2.heap.size < w'.heap.size := by omega); (try have z7 : u2.heap.size + 1 < w'.heap.size := by omega); (try have z8 : u3.heap.size < w'.heap.size := by omega); (try have z9 : u3.heap.size + 1 < w'.heap.size := by omega)) | (go_at_call 32; refine (within_any _ _ _ _).mono ?_; rintro e w' ⟨rfl, rfl⟩))
      go_ret2
      refine ⟨by rw [E.out]; rfl, ?_⟩
      repeat' (first | exact bl_refl _ | refine bl_alloc ?_ _ | refine bl_set ?_ ?_ _ | refine bl_drewN ?_ _ | refine bl_drew ?_ | refine bl_call (by assumption) ?_)
    · have E0 := fitv_yes (a := a) (b := b) (c := c) (d := d) (by simp [*])
      obtain ⟨h1, h2, h3⟩ := vg_iff.1 q1
      have h4 := inB_iff.1 q2
      rcases fit_cases a b c d with ⟨f1, f2⟩ | ⟨f1, f2⟩ | ⟨f1, f3, f2⟩ | ⟨f1, f3, f2⟩
      all_goals
        rw [f2] at E0
        have E := hide E0
        clear E0 f2
        go_enter Try.func20, Try.ntmps20
        go_wp2_with (first | (go_at_call 27; refine (valid_any _ _ _ _).mono ?_; rintro e w' ⟨rfl, hb⟩; obtain ⟨hc, hf⟩ := bcell hb; have hz := bl_sz hb; (try simp at hz); (try have z0 : w.heap.size < w'.heap.size := by omega); (try have z1 : w.heap.size + 1 < w'.heap.size := by omega); (try have z2 : w.heap.size + 1 + 1 < w'.heap.size := by omega); (try have z3 : w.heap.size + 1 + 1 + 1 < w'.heap.size := by omega); (try have z4 : u1.heap.size < w'.heap.size := by omega); (try have z5 : u1.heap.size + 1 < w'.heap.size := by omega); (try have z6 : u2.heap.size < w'.heap.size := by omega); (try have z7 : u2.heap.size + 1 < w'.heap.size := by omega); (try have z8 : u3.heap.size < w'.heap.size := by omega); (try have z9 : u3.heap.size + 1 < w'.heap.size := by omega)) | (go_at_call 32; refine (within_any _ _ _ _).mono ?_; rintro e w' ⟨rfl, rfl⟩) | (go_at_call 33; refine (badnessOf_any _ _ _ (by omega) (by omega) (by omega) (by omega)).mono ?_; rintro e w' ⟨rfl, rfl⟩))
        go_ret2
        refine ⟨by rw [E.out]; rfl, ?_⟩
        repeat' (first | exact bl_refl _ | refine bl_alloc ?_ _ | refine bl_set ?_ ?_ _ | refine bl_drewN ?_ _ | refine bl_drew ?_ | refine bl_call (by assumption) ?_)

theorem fitGlue_s (a b c d : Int) (w : World) (h1 : -10000 ≤ a ∧ a ≤ 10000) (h2 : 0 ≤ b ∧ b ≤ 10000) (h3 : 0 ≤ c ∧ c ≤ 10000) (h4 : 0 ≤ d ∧ d ≤ 10000) :
    Calls Try.prog 37 #[gv a b c, .int .i64 d] w fun e w' => e = .returned (.tuple #[.int .i64 (fitOf a b c d).1, .int .i64 (fitOf a b c d).2]) ∧ Below w.heap.size w w' := by
  rcases fit_cases a b c d with ⟨f1, f2⟩ | ⟨f1, f2⟩ | ⟨f1, f3, f2⟩ | ⟨f1, f3, f2⟩
  all_goals
    have E := hide f2
    clear f2
    go_enter Try.func37, Try.ntmps37
    go_wp2_with ((go_at_call 35; refine (badness_s _ _ _ (by omega) (by omega) (by omega) (by omega)).mono ?_; rintro e w' ⟨rfl, rfl⟩))
    go_ret2
    refine ⟨by rw [E.out]; rfl, ?_⟩
    repeat' (first | exact bl_refl _ | refine bl_alloc ?_ _ | refine bl_set ?_ ?_ _ | refine bl_drewN ?_ _ | refine bl_drew ?_ | refine bl_call (by assumption) ?_)

theorem FitGlue_s (a b c d : Int) (w : World) :
    Calls Try.prog 21 #[gv a b c, .int .i64 d] w fun e w' => e = .returned (.tuple #[.int .i64 (fitv a b c d).1, .int .i64 (fitv a b c d).2]) ∧ Below w.heap.size w w' := by
  cases q1 : vg a b c
  · have E := hide (fitv_no (a := a) (b := b) (c := c) (d := d) (by simp [*]))
    go_enter Try.func21, Try.ntmps21
    go_wp2_with (first | (go_at_call 30; refine (validGlue_s _ _ _ _).mono ?_; rintro e w' ⟨rfl, hb⟩; obtain ⟨hc, hf⟩ := bcell hb; have hz := bl_sz hb; (try simp at hz); (try have z0 : w.heap.size < w'.heap.size := by omega); (try have z1 : w.heap.size + 1 < w'.heap.size := by omega); (try have z2 : w.heap.size + 1 + 1 < w'.heap.size := by omega); (try have z3 : w.heap.size + 1 + 1 + 1 < w'.heap.size := by omega); (try have z4 : u1.heap.size < w'.heap.size := by omega); (try have z5 : u1.heap.size + 1 < w'.heap.size := by omega); (try have z6 : u2.heap.size < w'.heap.size := by omega); (try have z7 : u2.heap.size + 1 < w'.heap.size := by omega); (try have z8 : u3.heap.size < w'.heap.size := by omega); (try have z9 : u3.heap.size + 1 < w'.heap.size := by omega)) | (go_at_call 34; refine (inRange_any _ _ _ _).mono ?_; rintro e w' ⟨rfl, rfl⟩))
    go_ret2
    refine ⟨by rw [E.out]; rfl, ?_⟩
    repeat' (first | exact bl_refl _ | refine bl_alloc ?_ _ | refine bl_set ?_ ?_ _ | refine bl_drewN ?_ _ | refine bl_drew ?_ | refine bl_call (by assumption) ?_)
  · cases q2 : inB d 0 10000
    · have E := hide (fitv_no (a := a) (b := b) (c := c) (d := d) (by simp [*]))
      go_enter Try.func21, Try.ntmps21
      go_wp2_with (first | (go_at_call 30; refine (validGlue_s _ _ _ _).mono ?_; rintro e w' ⟨rfl, hb⟩; obtain ⟨hc, hf⟩ := bcell hb; have hz := bl_sz hb; (try simp at hz); (try have z0 : w.heap.size < w'.heap.size := by omega); (try have z1 : w.heap.size + 1 < w'.heap.size := by omega); (try have z2 : w.heap.size + 1 + 1 < w'.heap.size := by omega); (try have z3 : w.heap.size + 1 + 1 + 1 < w'.heap.size := by omega); (try have z4 : u1.heap.size < w'.heap.size := by omega); (try have z5 : u1.heap.size + 1 < w'.heap.size := by omega); (try have z6 : u2.heap.size < w'.heap.size := by omega); (try have z7 : u2.heap.size + 1 < w'.heap.size := by omega); (try have z8 : u3.heap.size < w'.heap.size := by omega); (try have z9 : u3.heap.size + 1 < w'.heap.size := by omega)) | (go_at_call 34; refine (inRange_any _ _ _ _).mono ?_; rintro e w' ⟨rfl, rfl⟩))
      go_ret2
      refine ⟨by rw [E.out]; rfl, ?_⟩
      repeat' (first | exact bl_refl _ | refine bl_alloc ?_ _ | refine bl_set ?_ ?_ _ | refine bl_drewN ?_ _ | refine bl_drew ?_ | refine bl_call (by assumption) ?_)
    · have E := hide (fitv_yes (a := a) (b := b) (c := c) (d := d) (by simp [*]))
      obtain ⟨h1, h2, h3⟩ := vg_iff.1 q1
      have h4 := inB_iff.1 q2
      go_enter Try.func21, Try.ntmps21
      go_wp2_with (first | (go_at_call 30; refine (validGlue_s _ _ _ _).mono ?_; rintro e w' ⟨rfl, hb⟩; obtain ⟨hc, hf⟩ := bcell hb; have hz := bl_sz hb; (try simp at hz); (try have z0 : w.heap.size < w'.heap.size := by omega); (try have z1 : w.heap.size + 1 < w'.heap.size := by omega); (try have z2 : w.heap.size + 1 + 1 < w'.heap.size := by omega); (try have z3 : w.heap.size + 1 + 1 + 1 < w'.heap.size := by omega); (try have z4 : u1.heap.size < w'.heap.size := by omega); (try have z5 : u1.heap.size + 1 < w'.heap.size := by omega); (try have z6 : u2.heap.size < w'.heap.size := by omega); (try have z7 : u2.heap.size + 1 < w'.heap.size := by omega); (try have z8 : u3.heap.size < w'.heap.size := by omega); (try have z9 : u3.heap.size + 1 < w'.heap.size := by omega)) | (go_at_call 34; refine (inRange_any _ _ _ _).mono ?_; rintro e w' ⟨rfl, rfl⟩) | (go_at_call 37; refine (fitGlue_s _ _ _ _ _ h1 h2 h3 h4).mono ?_; rintro e w' ⟨rfl, hb⟩; obtain ⟨hc, hf⟩ := bcell hb; have hz := bl_sz hb; (try simp at hz); (try have z0 : w.heap.size < w'.heap.size := by omega); (try have z1 : w.heap.size + 1 < w'.heap.size := by omega); (try have z2 : w.heap.size + 1 + 1 < w'.heap.size := by omega); (try have z3 : w.heap.size + 1 + 1 + 1 < w'.heap.size := by omega); (try have z4 : u1.heap.size < w'.heap.size := by omega); (try have z5 : u1.heap.size + 1 < w'.heap.size := by omega); (try have z6 : u2.heap.size < w'.heap.size := by omega); (try have z7 : u2.heap.size + 1 < w'.heap.size := by omega); (try have z8 : u3.heap.size < w'.heap.size := by omega); (try have z9 : u3.heap.size + 1 < w'.heap.size := by omega)))
      go_ret2
      refine ⟨by rw [E.out]; rfl, ?_⟩
      repeat' (first | exact bl_refl _ | refine bl_alloc ?_ _ | refine bl_set ?_ ?_ _ | refine bl_drewN ?_ _ | refine bl_drew ?_ | refine bl_call (by assumption) ?_)

theorem toGlue_l (a b c : Int) (w : World) :
    Calls Try.prog 23 #[gv a b c] w fun e w' => e = .returned (gv a b c) ∧ Below w.heap.size w w' := by
  go_enter Try.func23, Try.ntmps23
  go_wp2
  refine bodyPost_ret (v := gv a b c) (by simp [results, Try.results23, go_sem, *]) rfl ⟨rfl, ?_⟩
  repeat' (first | exact bl_refl _ | refine bl_alloc ?_ _ | refine bl_set ?_ ?_ _ | refine bl_drewN ?_ _ | refine bl_drew ?_ | refine bl_call (by assumption) ?_)
  all_goals (simp; try omega)

theorem eqGlue_same (a b c : Int) (w : World) :
    Calls Try.prog 24 #[gv a b c, gv a b c] w fun e w' => e = .returned (.bool true) ∧ Below w.heap.size w w' := by
  go_enter Try.func24, Try.ntmps24
  go_wp2
  go_ret
  refine ⟨rfl, ?_⟩
  repeat' (first | exact bl_refl _ | refine bl_alloc ?_ _ | refine bl_set ?_ ?_ _ | refine bl_drewN ?_ _ | refine bl_drew ?_ | refine bl_call (by assumption) ?_)
end Go.Proofs.Ytboaegplogmlmaa
