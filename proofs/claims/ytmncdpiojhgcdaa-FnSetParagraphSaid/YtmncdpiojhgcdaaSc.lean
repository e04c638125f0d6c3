/- Several texts of one claim, one behind the other. -/
import Derived.Test.YtmncdpiojhgcdaaSb
/- Contracts of AddGlue, FitGlue and of the helpers of the exact laws on glue. -/
namespace Go.Proofs.Ytmncdpiojhgcdaa
open Go.ChangeShapes Go.WideShapes Go.ChangeAt Go.RowKit


/-- What FitGlue returns: the fit and the badness. -/
def fitOf (a b c d : Int) : Int × Int :=
  if d - a = 0 then (1, 0) else if 0 < d - a then (2, bad (d - a) b) else if -(d - a) ≤ c then (3, bad (-(d - a)) c) else (4, 10000)
def fitv (a b c d : Int) : Int × Int := if vg a b c && inB d 0 10000 then fitOf a b c d else (0, -1)
theorem fit_cases (a b c d : Int) : (d - a = 0 ∧ fitOf a b c d = (1, 0)) ∨ (0 < d - a ∧ fitOf a b c d = (2, bad (d - a) b)) ∨
    (d - a < 0 ∧ -(d - a) ≤ c ∧ fitOf a b c d = (3, bad (-(d - a)) c)) ∨ (d - a < 0 ∧ c < -(d - a) ∧ fitOf a b c d = (4, 10000)) := by
  unfold fitOf
  repeat' split
  all_goals (simp; try omega)
theorem fitv_no {a b c d : Int} (h : (vg a b c && inB d 0 10000) = false) : fitv a b c d = (0, -1) := by simp [fitv, h]
theorem fitv_yes {a b c d : Int} (h : (vg a b c && inB d 0 10000) = true) : fitv a b c d = fitOf a b c d := by simp only [fitv, h, if_true]

theorem FitGlue_i (a b c d : Int) (w : World) :
    Calls Try.prog 144 #[gv a b c, .int .i64 d] w fun e w' => e = .returned (.tuple #[.int .i64 (fitv a b c d).1, .int .i64 (fitv a b c d).2]) ∧ Below w.heap.size w w' := by
  cases q1 : vg a b c
  · have E := hide (fitv_no (a := a) (b := b) (c := c) (d := d) (by simp [*]))
    go_enter Try.func144, Try.ntmps144
    go_wp2_with (first | (go_at_call 153; refine (valid_any _ _ _ _).mono ?_; rintro e w' ⟨rfl, hb⟩; (try (with_reducible have hb := bl_undrew hb)); obtain ⟨hc, hf⟩ := bcell hb; (try ((with_reducible have hq := bcell1 hb); obtain ⟨hc, hf⟩ := hq)); (try ((with_reducible have hq := bcell2 hb); obtain ⟨hc, hf⟩ := hq)); have hz := bl_sz hb; (try simp at hz); (try (have z0 : w.heap.size < w'.heap.size := (by omega); have y0 := Nat.le_of_lt z0)); (try (have z1 : w.heap.size + 1 < w'.heap.size := (by omega); have y1 := Nat.le_of_lt z1)); (try (have z2 : w.heap.size + 1 + 1 < w'.heap.size := (by omega); have y2 := Nat.le_of_lt z2)); (try (have z3 : w.heap.size + 1 + 1 + 1 < w'.heap.size := (by omega); have y3 := Nat.le_of_lt z3)); (try (have z4 : u1.heap.size < w'.heap.size := (by omega); have y4 := Nat.le_of_lt z4)); (try (have z5 : u1.heap.size + 1 < w'.heap.size := (by omega); have y5 := Nat.le_of_lt z5)); (try (have z6 : u2.heap.size < w'.heap.size := (by omega); have y6 := Nat.le_of_lt z6)); (try (have z7 : u2.heap.size + 1 < w'.heap.size := (by omega); have y7 := Nat.le_of_lt z7)); (try (have z8 : u3.heap.size < w'.heap.size := (by omega); have y8 := Nat.le_of_lt z8)); (try (have z9 : u3.heap.size + 1 < w'.heap.size := (by omega); have y9 := Nat.le_of_lt z9)); (try (have z10 : u4.heap.size < w'.heap.size := (by omega); have y10 := Nat.le_of_lt z10)); (try (have z11 : u4.heap.size + 1 < w'.heap.size := (by omega); have y11 := Nat.le_of_lt z11)); (try (have z12 : u5.heap.size < w'.heap.size := (by omega); have y12 := Nat.le_of_lt z12)); (try (have z13 : u5.heap.size + 1 < w'.heap.size := (by omega); have y13 := Nat.le_of_lt z13)); (try (have z14 : u6.heap.size < w'.heap.size := (by omega); have y14 := Nat.le_of_lt z14)); (try (have z15 : u6.heap.size + 1 < w'.heap.size := (by omega); have y15 := Nat.le_of_lt z15)); (try (have zg : g < w'.heap.size := (by omega); have yg := Nat.le_of_lt zg)); (try (have zc : wc.heap.size < w'.heap.size := (by omega); have yc := Nat.le_of_lt zc)); (try (have zd : wc.heap.size + 1 < w'.heap.size := (by omega); have yd := Nat.le_of_lt zd)); (first | (have _k := u7; clear _k; rename World => u8) | (have _k := u6; clear _k; rename World => u7) | (have _k := u5; clear _k; rename World => u6) | (have _k := u4; clear _k; rename World => u5) | (have _k := u3; clear _k; rename World => u4) | (have _k := u2; clear _k; rename World => u3) | (have _k := u1; clear _k; rename World => u2) | (rename World => u1))) | (go_at_call 113; refine (within_any _ _ _ _).mono ?_; rintro e w' ⟨rfl, rfl⟩))
    go_ret2
    refine ⟨by rw [E.out]; rfl, ?_⟩
    repeat' (first | with_reducible exact bl_refl _ | with_reducible assumption | with_reducible refine bl_alloc ?_ _ | with_reducible refine bl_set ?_ ?_ _ | with_reducible refine bl_drewN ?_ _ | with_reducible refine bl_drew ?_ | with_reducible refine bl_call (by assumption) ?_)
  · cases q2 : inB d 0 10000
    · have E := hide (fitv_no (a := a) (b := b) (c := c) (d := d) (by simp [*]))
      go_enter Try.func144, Try.ntmps144
      go_wp2_with (first | (go_at_call 153; refine (valid_any _ _ _ _).mono ?_; rintro e w' ⟨rfl, hb⟩; (try (with_reducible have hb := bl_undrew hb)); obtain ⟨hc, hf⟩ := bcell hb; (try ((with_reducible have hq := bcell1 hb); obtain ⟨hc, hf⟩ := hq)); (try ((with_reducible have hq := bcell2 hb); obtain ⟨hc, hf⟩ := hq)); have hz := bl_sz hb; (try simp at hz); (try (have z0 : w.heap.size < w'.heap.size := (by omega); have y0 := Nat.le_of_lt z0)); (try (have z1 : w.heap.size + 1 < w'.heap.size := (by omega); have y1 := Nat.le_of_lt z1)); (try (have z2 : w.heap.size + 1 + 1 < w'.heap.size := (by omega); have y2 := Nat.le_of_lt z2)); (try (have z3 : w.heap.size + 1 + 1 + 1 < w'.heap.size := (by omega); have y3 := Nat.le_of_lt z3)); (try (have z4 : u1.heap.size < w'.heap.size := (by omega); have y4 := Nat.le_of_lt z4)); (try (have z5 : u1.heap.size + 1 < w'.heap.size := (by omega); have y5 := Nat.le_of_lt z5)); (try (have z6 : u2.heap.size < w'.heap.size := (by omega); have y6 := Nat.le_of_lt z6)); (try (have z7 : u2.heap.size + 1 < w'.heap.size := (by omega); have y7 := Nat.le_of_lt z7)); (try (have z8 : u3.heap.size < w'.heap.size := (by omega); have y8 := Nat.le_of_lt z8)); (try (have z9 : u3.heap.size + 1 < w'.heap.size := (by omega); have y9 := Nat.le_of_lt z9)); (try (have z10 : u4.heap.size < w'.heap.size := (by omega); have y10 := Nat.le_of_lt z10)); (try (have z11 : u4.heap.size + 1 < w'.heap.size := (by omega); have y11 := Nat.le_of_lt z11)); (try (have z12 : u5.heap.size < w'.heap.size := (by omega); have y12 := Nat.le_of_lt z12)); (try (have z13 : u5.heap.size + 1 < w'.heap.size := (by omega); have y13 := Nat.le_of_lt z13)); (try (have z14 : u6.heap.size < w'.heap.size := (by omega); have y14 := Nat.le_of_lt z14)); (try (have z15 : u6.heap.size + 1 < w'.heap.size := (by omega); have y15 := Nat.le_of_lt z15)); (try (have zg : g < w'.heap.size := (by omega); have yg := Nat.le_of_lt zg)); (try (have zc : wc.heap.size < w'.heap.size := (by omega); have yc := Nat.le_of_lt zc)); (try (have zd : wc.heap.size + 1 < w'.heap.size := (by omega); have yd := Nat.le_of_lt zd)); (first | (have _k := u7; clear _k; rename World => u8) | (have _k := u6; clear _k; rename World => u7) | (have _k := u5; clear _k; rename World => u6) | (have _k := u4; clear _k; rename World => u5) | (have _k := u3; clear _k; rename World => u4) | (have _k := u2; clear _k; rename World => u3) | (have _k := u1; clear _k; rename World => u2) | (rename World => u1))) | (go_at_call 113; refine (within_any _ _ _ _).mono ?_; rintro e w' ⟨rfl, rfl⟩))
      go_ret2
      refine ⟨by rw [E.out]; rfl, ?_⟩
      repeat' (first | with_reducible exact bl_refl _ | with_reducible assumption | with_reducible refine bl_alloc ?_ _ | with_reducible refine bl_set ?_ ?_ _ | with_reducible refine bl_drewN ?_ _ | with_reducible refine bl_drew ?_ | with_reducible refine bl_call (by assumption) ?_)
    · have E0 := fitv_yes (a := a) (b := b) (c := c) (d := d) (by simp [*])
      obtain ⟨h1, h2, h3⟩ := vg_iff.1 q1
      have h4 := inB_iff.1 q2
      rcases fit_cases a b c d with ⟨f1, f2⟩ | ⟨f1, f2⟩ | ⟨f1, f3, f2⟩ | ⟨f1, f3, f2⟩
      all_goals
        rw [f2] at E0
        have E := hide E0
        clear E0 f2
        go_enter Try.func144, Try.ntmps144
        go_wp2_with (first | (go_at_call 153; refine (valid_any _ _ _ _).mono ?_; rintro e w' ⟨rfl, hb⟩; (try (with_reducible have hb := bl_undrew hb)); obtain ⟨hc, hf⟩ := bcell hb; (try ((with_reducible have hq := bcell1 hb); obtain ⟨hc, hf⟩ := hq)); (try ((with_reducible have hq := bcell2 hb); obtain ⟨hc, hf⟩ := hq)); have hz := bl_sz hb; (try simp at hz); (try (have z0 : w.heap.size < w'.heap.size := (by omega); have y0 := Nat.le_of_lt z0)); (try (have z1 : w.heap.size + 1 < w'.heap.size := (by omega); have y1 := Nat.le_of_lt z1)); (try (have z2 : w.heap.size + 1 + 1 < w'.heap.size := (by omega); have y2 := Nat.le_of_lt z2)); (try (have z3 : w.heap.size + 1 + 1 + 1 < w'.heap.size := (by omega); have y3 := Nat.le_of_lt z3)); (try (have z4 : u1.heap.size < w'.heap.size := (by omega); have y4 := Nat.le_of_lt z4)); (try (have z5 : u1.heap.size + 1 < w'.heap.size := (by omega); have y5 := Nat.le_of_lt z5)); (try (have z6 : u2.heap.size < w'.heap.size := (by omega); have y6 := Nat.le_of_lt z6)); (try (have z7 : u2.heap.size + 1 < w'.heap.size := (by omega); have y7 := Nat.le_of_lt z7)); (try (have z8 : u3.heap.size < w'.heap.size := (by omega); have y8 := Nat.le_of_lt z8)); (try (have z9 : u3.heap.size + 1 < w'.heap.size := (by omega); have y9 := Nat.le_of_lt z9)); (try (have z10 : u4.heap.size < w'.heap.size := (by omega); have y10 := Nat.le_of_lt z10)); (try (have z11 : u4.heap.size + 1 < w'.heap.size := (by omega); have y11 := Nat.le_of_lt z11)); (try (have z12 : u5.heap.size < w'.heap.size := (by omega); have y12 := Nat.le_of_lt z12)); (try (have z13 : u5.heap.size + 1 < w'.heap.size := (by omega); have y13 := Nat.le_of_lt z13)); (try (have z14 : u6.heap.size < w'.heap.size := (by omega); have y14 := Nat.le_of_lt z14)); (try (have z15 : u6.heap.size + 1 < w'.heap.size := (by omega); have y15 := Nat.le_of_lt z15)); (try (have zg : g < w'.heap.size := (by omega); have yg := Nat.le_of_lt zg)); (try (have zc : wc.heap.size < w'.heap.size := (by omega); have yc := Nat.le_of_lt zc)); (try (have zd : wc.heap.size + 1 < w'.heap.size := (by omega); have yd := Nat.le_of_lt zd)); (first | (have _k := u7; clear _k; rename World => u8) | (have _k := u6; clear _k; rename World => u7) | (have _k := u5; clear _k; rename World => u6) | (have _k := u4; clear _k; rename World => u5) | (have _k := u3; clear _k; rename World => u4) | (have _k := u2; clear _k; rename World => u3) | (have _k := u1; clear _k; rename World => u2) | (rename World => u1))) | (go_at_call 113; refine (within_any _ _ _ _).mono ?_; rintro e w' ⟨rfl, rfl⟩) | (go_at_call 154; refine (badnessOf_any _ _ _ (by omega) (by omega) (by omega) (by omega)).mono ?_; rintro e w' ⟨rfl, rfl⟩))
        go_ret2
        refine ⟨by rw [E.out]; rfl, ?_⟩
        repeat' (first | with_reducible exact bl_refl _ | with_reducible assumption | with_reducible refine bl_alloc ?_ _ | with_reducible refine bl_set ?_ ?_ _ | with_reducible refine bl_drewN ?_ _ | with_reducible refine bl_drew ?_ | with_reducible refine bl_call (by assumption) ?_)

theorem fitGlue_s (a b c d : Int) (w : World) (h1 : -10000 ≤ a ∧ a ≤ 10000) (h2 : 0 ≤ b ∧ b ≤ 10000) (h3 : 0 ≤ c ∧ c ≤ 10000) (h4 : 0 ≤ d ∧ d ≤ 10000) :
    Calls Try.prog 107 #[gv a b c, .int .i64 d] w fun e w' => e = .returned (.tuple #[.int .i64 (fitOf a b c d).1, .int .i64 (fitOf a b c d).2]) ∧ Below w.heap.size w w' := by
  rcases fit_cases a b c d with ⟨f1, f2⟩ | ⟨f1, f2⟩ | ⟨f1, f3, f2⟩ | ⟨f1, f3, f2⟩
  all_goals
    have E := hide f2
    clear f2
    go_enter Try.func107, Try.ntmps107
    go_wp2_with ((go_at_call 147; refine (badness_s _ _ _ (by omega) (by omega) (by omega) (by omega)).mono ?_; rintro e w' ⟨rfl, rfl⟩))
    go_ret2
    refine ⟨by rw [E.out]; rfl, ?_⟩
    repeat' (first | with_reducible exact bl_refl _ | with_reducible assumption | with_reducible refine bl_alloc ?_ _ | with_reducible refine bl_set ?_ ?_ _ | with_reducible refine bl_drewN ?_ _ | with_reducible refine bl_drew ?_ | with_reducible refine bl_call (by assumption) ?_)

theorem toGlue_l (a b c : Int) (w : World) :
    Calls Try.prog 110 #[gv a b c] w fun e w' => e = .returned (gv a b c) ∧ Below w.heap.size w w' := by
  go_enter Try.func110, Try.ntmps110
  go_wp2
  refine bodyPost_ret (v := gv a b c) (by simp [results, Try.results110, go_sem, *]) rfl ⟨rfl, ?_⟩
  repeat' (first | with_reducible exact bl_refl _ | with_reducible assumption | with_reducible refine bl_alloc ?_ _ | with_reducible refine bl_set ?_ ?_ _ | with_reducible refine bl_drewN ?_ _ | with_reducible refine bl_drew ?_ | with_reducible refine bl_call (by assumption) ?_)
  all_goals (first | omega | (simp; done) | (simp; omega))

theorem eqGlue_same (a b c : Int) (w : World) :
    Calls Try.prog 123 #[gv a b c, gv a b c] w fun e w' => e = .returned (.bool true) ∧ Below w.heap.size w w' := by
  go_enter Try.func123, Try.ntmps123
  go_wp2
  go_ret
  refine ⟨rfl, ?_⟩
  repeat' (first | with_reducible exact bl_refl _ | with_reducible assumption | with_reducible refine bl_alloc ?_ _ | with_reducible refine bl_set ?_ ?_ _ | with_reducible refine bl_drewN ?_ _ | with_reducible refine bl_drew ?_ | with_reducible refine bl_call (by assumption) ?_)
end Go.Proofs.Ytmncdpiojhgcdaa

/- The laws' helpers on slices of items. -/
namespace Go.Proofs.Ytmncdpiojhgcdaa
open Go.ChangeShapes Go.WideShapes Go.ChangeAt Go.RowKit
set_option linter.unusedVariables false

theorem it_info : (Try.prog.info? 45).map (fun i => (i.zero, i.size, i.bytes)) = some (some (.agg #[.int .i64 0, .int .i64 0, .int .i64 0, .int .i64 0, .int .i64 0, .bool false]), 6, 48) := by kernel_rfl

/-- Six cells of an own row are stored, one behind the other. -/
theorem own_put6 {w : World} {B g n c p : Nat} {e : TypeId} {F M : List Value} {a b d x y v : Value} (h : w.ownsRow B e 6 (.slice (some ⟨g, 0, none⟩) n c) n (vmix F M (p * 6))) (hl : M.length = F.length)
    (h0 : F[p * 6]? = some a) (h1 : F[p * 6 + 1]? = some b) (h2 : F[p * 6 + 2]? = some d) (h3 : F[p * 6 + 3]? = some x) (h4 : F[p * 6 + 4]? = some y) (h5 : F[p * 6 + 5]? = some v) :
    ((((((w.setCell ⟨g, p * 6, none⟩ a).setCell ⟨g, p * 6 + 1, none⟩ b).setCell ⟨g, p * 6 + 2, none⟩ d).setCell ⟨g, p * 6 + 3, none⟩ x).setCell ⟨g, p * 6 + 4, none⟩ y).setCell ⟨g, p * 6 + 5, none⟩ v).ownsRow B e 6 (.slice (some ⟨g, 0, none⟩) n c) n (vmix F M ((p + 1) * 6)) := by
  have s0 := (World.ownsRow.stored h (p * 6) a).1
  rw [vmix_put hl h0] at s0
  have s1 := (World.ownsRow.stored s0 (p * 6 + 1) b).1
  rw [vmix_put hl h1] at s1
  have s2 := (World.ownsRow.stored s1 (p * 6 + 2) d).1
  rw [vmix_put hl h2] at s2
  have s3 := (World.ownsRow.stored s2 (p * 6 + 3) x).1
  rw [vmix_put hl h3] at s3
  have s4 := (World.ownsRow.stored s3 (p * 6 + 4) y).1
  rw [vmix_put hl h4] at s4
  have s5 := (World.ownsRow.stored s4 (p * 6 + 5) v).1
  rw [vmix_put hl h5] at s5
  rw [show (p + 1) * 6 = p * 6 + 5 + 1 from by omega]
  exact s5

theorem szItemS_l (w : World) (A : Option Addr) (n c : Nat) (z : Int) (hn : n ≤ 9223372036854775807) (z0 : 0 ≤ z) (z1 : z ≤ 1048576) :
    Calls Try.prog 18 #[.slice A n c, .int .i64 z] w fun e w' => e = .returned (.int .i64 (if z - n < 0 then -1 else z - n)) ∧ w = w' := by
  rcases (by omega : z - (n : Int) < 0 ∨ 0 ≤ z - (n : Int)) with h | h
  · rw [if_pos h]
    go_enter Try.func18, Try.ntmps18
    go_wp2
    go_ret
    exact ⟨rfl, rfl⟩
  · rw [if_neg (by omega)]
    go_enter Try.func18, Try.ntmps18
    go_wp2
    go_ret
    exact ⟨rfl, rfl⟩

theorem toItem_l (x : It) (w : World) :
    Calls Try.prog 66 #[itv x] w fun e w' => e = .returned (itv x) ∧ Below w.heap.size w w' := by
  obtain ⟨a, b, c, d, e, f⟩ := x
  go_enter Try.func66, Try.ntmps66
  go_wp2_with (go_at_call 110; refine (toGlue_h _ _ _ _).mono ?_; rintro e w' ⟨rfl, hb⟩; (try (with_reducible have hb := bl_undrew hb)); obtain ⟨hc, hf⟩ := bcell hb; (try ((with_reducible have hq := bcell1 hb); obtain ⟨hc, hf⟩ := hq)); (try ((with_reducible have hq := bcell2 hb); obtain ⟨hc, hf⟩ := hq)); have hz := bl_sz hb; (try simp at hz); (try (have z0 : w.heap.size < w'.heap.size := (by omega); have y0 := Nat.le_of_lt z0)); (try (have z1 : w.heap.size + 1 < w'.heap.size := (by omega); have y1 := Nat.le_of_lt z1)); (try (have z2 : w.heap.size + 1 + 1 < w'.heap.size := (by omega); have y2 := Nat.le_of_lt z2)); (try (have z3 : w.heap.size + 1 + 1 + 1 < w'.heap.size := (by omega); have y3 := Nat.le_of_lt z3)); (try (have z4 : u1.heap.size < w'.heap.size := (by omega); have y4 := Nat.le_of_lt z4)); (try (have z5 : u1.heap.size + 1 < w'.heap.size := (by omega); have y5 := Nat.le_of_lt z5)); (try (have z6 : u2.heap.size < w'.heap.size := (by omega); have y6 := Nat.le_of_lt z6)); (try (have z7 : u2.heap.size + 1 < w'.heap.size := (by omega); have y7 := Nat.le_of_lt z7)); (try (have z8 : u3.heap.size < w'.heap.size := (by omega); have y8 := Nat.le_of_lt z8)); (try (have z9 : u3.heap.size + 1 < w'.heap.size := (by omega); have y9 := Nat.le_of_lt z9)); (try (have z10 : u4.heap.size < w'.heap.size := (by omega); have y10 := Nat.le_of_lt z10)); (try (have z11 : u4.heap.size + 1 < w'.heap.size := (by omega); have y11 := Nat.le_of_lt z11)); (try (have z12 : u5.heap.size < w'.heap.size := (by omega); have y12 := Nat.le_of_lt z12)); (try (have z13 : u5.heap.size + 1 < w'.heap.size := (by omega); have y13 := Nat.le_of_lt z13)); (try (have z14 : u6.heap.size < w'.heap.size := (by omega); have y14 := Nat.le_of_lt z14)); (try (have z15 : u6.heap.size + 1 < w'.heap.size := (by omega); have y15 := Nat.le_of_lt z15)); (try (have zg : g < w'.heap.size := (by omega); have yg := Nat.le_of_lt zg)); (try (have zc : wc.heap.size < w'.heap.size := (by omega); have yc := Nat.le_of_lt zc)); (try (have zd : wc.heap.size + 1 < w'.heap.size := (by omega); have yd := Nat.le_of_lt zd)); (first | (have _k := u7; clear _k; rename World => u8) | (have _k := u6; clear _k; rename World => u7) | (have _k := u5; clear _k; rename World => u6) | (have _k := u4; clear _k; rename World => u5) | (have _k := u3; clear _k; rename World => u4) | (have _k := u2; clear _k; rename World => u3) | (have _k := u1; clear _k; rename World => u2) | (rename World => u1)))
  refine bodyPost_ret (v := itv ⟨a, b, c, d, e, f⟩) (by simp [results, Try.results66, go_sem, *]) rfl ⟨rfl, ?_⟩
  repeat' (first | with_reducible exact bl_refl _ | with_reducible assumption | with_reducible refine bl_alloc ?_ _ | with_reducible refine bl_set ?_ ?_ _ | with_reducible refine bl_drewN ?_ _ | with_reducible refine bl_drew ?_ | with_reducible refine bl_call (by assumption) ?_)
  all_goals (first | omega | (simp; done) | (simp; omega))
theorem eqItem_l (x : It) (w : World) :
    Calls Try.prog 72 #[itv x, itv x] w fun e w' => e = .returned (.bool true) ∧ Below w.heap.size w w' := by
  obtain ⟨a, b, c, d, e, f⟩ := x
  go_enter Try.func72, Try.ntmps72
  go_wp2_with (go_at_call 123; refine (eqGlue_h _ _ _ _).mono ?_; rintro e w' ⟨rfl, hb⟩; (try (with_reducible have hb := bl_undrew hb)); obtain ⟨hc, hf⟩ := bcell hb; (try ((with_reducible have hq := bcell1 hb); obtain ⟨hc, hf⟩ := hq)); (try ((with_reducible have hq := bcell2 hb); obtain ⟨hc, hf⟩ := hq)); have hz := bl_sz hb; (try simp at hz); (try (have z0 : w.heap.size < w'.heap.size := (by omega); have y0 := Nat.le_of_lt z0)); (try (have z1 : w.heap.size + 1 < w'.heap.size := (by omega); have y1 := Nat.le_of_lt z1)); (try (have z2 : w.heap.size + 1 + 1 < w'.heap.size := (by omega); have y2 := Nat.le_of_lt z2)); (try (have z3 : w.heap.size + 1 + 1 + 1 < w'.heap.size := (by omega); have y3 := Nat.le_of_lt z3)); (try (have z4 : u1.heap.size < w'.heap.size := (by omega); have y4 := Nat.le_of_lt z4)); (try (have z5 : u1.heap.size + 1 < w'.heap.size := (by omega); have y5 := Nat.le_of_lt z5)); (try (have z6 : u2.heap.size < w'.heap.size := (by omega); have y6 := Nat.le_of_lt z6)); (try (have z7 : u2.heap.size + 1 < w'.heap.size := (by omega); have y7 := Nat.le_of_lt z7)); (try (have z8 : u3.heap.size < w'.heap.size := (by omega); have y8 := Nat.le_of_lt z8)); (try (have z9 : u3.heap.size + 1 < w'.heap.size := (by omega); have y9 := Nat.le_of_lt z9)); (try (have z10 : u4.heap.size < w'.heap.size := (by omega); have y10 := Nat.le_of_lt z10)); (try (have z11 : u4.heap.size + 1 < w'.heap.size := (by omega); have y11 := Nat.le_of_lt z11)); (try (have z12 : u5.heap.size < w'.heap.size := (by omega); have y12 := Nat.le_of_lt z12)); (try (have z13 : u5.heap.size + 1 < w'.heap.size := (by omega); have y13 := Nat.le_of_lt z13)); (try (have z14 : u6.heap.size < w'.heap.size := (by omega); have y14 := Nat.le_of_lt z14)); (try (have z15 : u6.heap.size + 1 < w'.heap.size := (by omega); have y15 := Nat.le_of_lt z15)); (try (have zg : g < w'.heap.size := (by omega); have yg := Nat.le_of_lt zg)); (try (have zc : wc.heap.size < w'.heap.size := (by omega); have yc := Nat.le_of_lt zc)); (try (have zd : wc.heap.size + 1 < w'.heap.size := (by omega); have yd := Nat.le_of_lt zd)); (first | (have _k := u7; clear _k; rename World => u8) | (have _k := u6; clear _k; rename World => u7) | (have _k := u5; clear _k; rename World => u6) | (have _k := u4; clear _k; rename World => u5) | (have _k := u3; clear _k; rename World => u4) | (have _k := u2; clear _k; rename World => u3) | (have _k := u1; clear _k; rename World => u2) | (rename World => u1)))
  go_ret
  refine ⟨rfl, ?_⟩
  repeat' (first | with_reducible exact bl_refl _ | with_reducible assumption | with_reducible refine bl_alloc ?_ _ | with_reducible refine bl_set ?_ ?_ _ | with_reducible refine bl_drewN ?_ _ | with_reducible refine bl_drew ?_ | with_reducible refine bl_call (by assumption) ?_)

theorem toItemS_l (w : World) (A : Option Addr) (n c : Nat) (L : List It) (ha : TL w A n L) (hn : n ≤ 1048576) :
    Calls Try.prog 20 #[.slice A n c] w fun e w' => ∃ A' c', e = .returned (.slice A' L.length c') ∧ TO w' 45 w.heap.size A' c' L ∧ Below w.heap.size w w' := by
  obtain ⟨i0, hi0, hz0, hz1, hz2⟩ := info_parts it_info
  obtain rfl : n = L.length := ha.1
  go_enter Try.func20, Try.ntmps20
  go_wp2_with (refine wpList_make_full _ rfl _ _ _ rfl w.heap.size 45 i0 _ 6 Try.underlying25 hi0 hz0 hz1 .i64 .i64 _ _ L.length rfl rfl rfl rfl (by rw [hz2]; omega) (by unfold maxLen; omega) (Nat.le_refl _) ?_; intro w1 hown hgr)
  obtain ⟨M, hM⟩ : ∃ M, M = (madeCells (Value.agg #[.int .i64 0, .int .i64 0, .int .i64 0, .int .i64 0, .int .i64 0, .bool false]).cells (L.length * 6)).toList := ⟨_, rfl⟩
  rw [← hM] at hown
  clear hM
  obtain ⟨F, hF⟩ : ∃ F, F = L.flatMap Rec.cells := ⟨_, rfl⟩
  have hFl : F.length = L.length * 6 := by rw [hF]; exact flat_len L
  have hMl : M.length = F.length := by rw [hFl, ← hown.1]
  have HF := hide (fun i (hi : i < L.length) j (hj : j < 6) => show F[i * 6 + j]? = (Rec.cells (tg L i))[j]? by rw [hF]; exact flat_get L hi hj)
  have HM := hide hMl
  have HL := hide hFl
  have HE := hide hF
  have H0 : Hid (w1.ownsRow w.heap.size 45 6 (.slice (some ⟨w.heap.size, 0, none⟩) L.length L.length) L.length (vmix F M (0 * 6))) := hide (by rw [Nat.zero_mul, vmix_zero]; exact hown)
  have hb1 := below_new hgr
  have hz0 : w.heap.size ≤ w1.heap.size := hb1.size
  have HI := hide ha
  clear hown hgr ha hF hFl hMl
  go_wp2
  go_loopw [4] (fun i u => ∃ p : Nat, p ≤ L.length ∧ i = .int .i64 p ∧ u.ownsRow w.heap.size 45 6 (.slice (some ⟨w.heap.size, 0, none⟩) L.length L.length) L.length (vmix F M (p * 6)) ∧ Below w.heap.size w u) (fun i _ => L.length - (intOf i).toNat)
  case atStart => exact ⟨0, by omega, rfl, H0.out, hb1⟩
  case round =>
    obtain ⟨p, hp, rfl, hol, hbl⟩ := hrel
    by_cases hlt : p < L.length
    · obtain ⟨b, o, rfl, hb0, c0, c1, c2, c3, c4, c5⟩ := (HI.out.below hbl).at6 hlt
      have HO := hide hol
      have HB := hide hbl
      clear hol hbl
      go_wp2_with fail
      refine (toItem_l (tg L p) _).mono ?_
      rintro e u1 ⟨rfl, hb⟩
      have ho1 := own_below HO.out hb
      have HB1 := hide (bl_call hb HB.out)
      obtain ⟨_, d0⟩ := own_cell (j := p * 6) ho1 (by omega)
      obtain ⟨_, d1⟩ := own_cell (j := p * 6 + 1) ho1 (by omega)
      obtain ⟨_, d2⟩ := own_cell (j := p * 6 + 2) ho1 (by omega)
      obtain ⟨_, d3⟩ := own_cell (j := p * 6 + 3) ho1 (by omega)
      obtain ⟨_, d4⟩ := own_cell (j := p * 6 + 4) ho1 (by omega)
      obtain ⟨_, d5⟩ := own_cell (j := p * 6 + 5) ho1 (by omega)
      have f0 := World.ownsRow.frozenAt ho1 (p * 6)
      have f1 := World.ownsRow.frozenAt ho1 (p * 6 + 1)
      have f2 := World.ownsRow.frozenAt ho1 (p * 6 + 2)
      have f3 := World.ownsRow.frozenAt ho1 (p * 6 + 3)
      have f4 := World.ownsRow.frozenAt ho1 (p * 6 + 4)
      have f5 := World.ownsRow.frozenAt ho1 (p * 6 + 5)
      have M1 := hide (own_put6 ho1 HM.out (HF.out p hlt 0 (by decide)) (HF.out p hlt 1 (by decide)) (HF.out p hlt 2 (by decide)) (HF.out p hlt 3 (by decide)) (HF.out p hlt 4 (by decide)) (HF.out p hlt 5 (by decide)))
      clear ho1 hb
      go_wp2
      go_roundw
      case rel => exact ⟨p + 1, by omega, by go_num, M1.out, bl_set (bl_set (bl_set (bl_set (bl_set (bl_set HB1.out (Nat.le_refl _) _) (Nat.le_refl _) _) (Nat.le_refl _) _) (Nat.le_refl _) _) (Nat.le_refl _) _) (Nat.le_refl _) _⟩
      case measure => simp [intOf]; omega
    · have hpe : p = L.length := by omega
      have M1 : Hid (TO wr 45 w.heap.size (some ⟨w.heap.size, 0, none⟩) L.length L) := hide (by
        rw [hpe, vmix_all HM.out HL.out, HE.out] at hol
        exact hol)
      clear hol
      go_wp2
      go_ret
      exact ⟨_, _, rfl, M1.out, hbl⟩

theorem eqItemS_l (w : World) (A A' : Option Addr) (n c c' : Nat) (L : List It) (ha : TL w A n L) (hb : TL w A' n L) (hn : n ≤ 1048576) :
    Calls Try.prog 22 #[.slice A n c, .slice A' n c'] w fun e w' => e = .returned (.bool true) ∧ Below w.heap.size w w' := by
  obtain rfl : n = L.length := ha.1
  have HA := hide ha
  have HB := hide hb
  clear ha hb
  go_enter Try.func22, Try.ntmps22
  go_wp2
  go_loopw [5] (fun i u => ∃ p : Nat, p ≤ L.length ∧ i = .int .i64 p ∧ Below w.heap.size w u) (fun i _ => L.length - (intOf i).toNat)
  case atStart => exact ⟨0, by omega, rfl, bl_refl _⟩
  case round =>
    obtain ⟨p, hp, rfl, hbl⟩ := hrel
    by_cases hlt : p < L.length
    · obtain ⟨b, o, rfl, hb0, c0, c1, c2, c3, c4, c5⟩ := (HA.out.below hbl).at6 hlt
      obtain ⟨b', o', rfl, hb0', d0, d1, d2, d3, d4, d5⟩ := (HB.out.below hbl).at6 hlt
      have HBL := hide hbl
      clear hbl
      go_wp2_with fail
      go_region_with (go_at_call 72; (with_reducible refine (eqItem_l (tg L p) _).mono ?_); rintro e w' ⟨rfl, hbq⟩)
      all_goals
        go_wp2
        go_roundw
        case rel => exact ⟨p + 1, by omega, by go_num, bl_call hbq (bl_drew HBL.out)⟩
        case measure => simp [intOf]; omega
    · go_wp2
      go_ret
      exact ⟨rfl, hbl⟩

theorem markItemS_l (w : World) (e : TypeId) (B : Nat) (A : Option Addr) (c : Nat) (L : List It) (z : Int) (ha : TO w e B A c L) (hn : L.length ≤ 2000000) (z0 : 0 ≤ z) (z1 : z ≤ 1000000000) :
    Calls Try.prog 38 #[.slice A L.length c, .int .i64 z] w fun e' w' => e' = .returned (.int .i64 (z + 6 * (L.length : Int))) ∧ w.grownBy w' (Value.slice A L.length c).ownBlock := by
  rcases Nat.eq_zero_or_pos L.length with h0 | h0
  · rw [h0]
    go_enter Try.func38, Try.ntmps38
    go_wp2
    go_loop [1, 5] (fun k i => k = .int .i64 z ∧ i = .int .i64 0) (fun _ _ => 0)
    case atStart => exact ⟨rfl, rfl⟩
    case round =>
      obtain ⟨rfl, rfl⟩ := hrel
      go_wp2
      go_ret
      exact ⟨int_ret (by simp), World.grownBy.refl _ _⟩
  · obtain ⟨g, rfl, hB, hg, hfz⟩ := ha.frozen h0
    have H0 : Hid (∃ xs, w.ownsRow B e 6 (.slice (some ⟨g, 0, none⟩) L.length c) L.length xs) := hide ⟨_, ha⟩
    clear ha hfz
    go_enter Try.func38, Try.ntmps38
    go_wp2
    go_loopw [1, 5] (fun k i u => ∃ p : Nat, p ≤ L.length ∧ k = .int .i64 (z + 6 * p) ∧ i = .int .i64 p ∧ (∃ xs, u.ownsRow B e 6 (.slice (some ⟨g, 0, none⟩) L.length c) L.length xs) ∧ w.grownBy u (some g)) (fun _ i _ => L.length - (intOf i).toNat)
    case atStart => exact ⟨0, by omega, by go_num, rfl, H0.out, World.grownBy.refl _ _⟩
    case round =>
      obtain ⟨p, hp, rfl, rfl, ⟨xs, hol⟩, hgr⟩ := hrel
      by_cases hlt : p < L.length
      · obtain ⟨_, d0⟩ := own_cell (j := p * 6) hol (by omega)
        obtain ⟨_, d1⟩ := own_cell (j := p * 6 + 1) hol (by omega)
        obtain ⟨_, d2⟩ := own_cell (j := p * 6 + 2) hol (by omega)
        obtain ⟨_, d3⟩ := own_cell (j := p * 6 + 3) hol (by omega)
        obtain ⟨_, d4⟩ := own_cell (j := p * 6 + 4) hol (by omega)
        obtain ⟨_, d5⟩ := own_cell (j := p * 6 + 5) hol (by omega)
        have f0 := World.ownsRow.frozenAt hol (p * 6)
        have f1 := World.ownsRow.frozenAt hol (p * 6 + 1)
        have f2 := World.ownsRow.frozenAt hol (p * 6 + 2)
        have f3 := World.ownsRow.frozenAt hol (p * 6 + 3)
        have f4 := World.ownsRow.frozenAt hol (p * 6 + 4)
        have f5 := World.ownsRow.frozenAt hol (p * 6 + 5)
        have M := hide (fun a b d x y v => World.ownsRow.stored (World.ownsRow.stored (World.ownsRow.stored (World.ownsRow.stored (World.ownsRow.stored (World.ownsRow.stored hol (p * 6) a).1 (p * 6 + 1) b).1 (p * 6 + 2) d).1 (p * 6 + 3) x).1 (p * 6 + 4) y).1 (p * 6 + 5) v)
        have HG := hide hgr
        clear hol hgr
        go_wp2
        go_roundw
        case rel => exact ⟨p + 1, by omega, by go_num, by go_num, ⟨_, (M.out _ _ _ _ _ _).1⟩, on_set' (on_set' (on_set' (on_set' (on_set' (on_set' HG.out (.inl rfl) _) (.inl rfl) _) (.inl rfl) _) (.inl rfl) _) (.inl rfl) _) (.inl rfl) _⟩
        case measure => simp [intOf]; omega
      · go_wp2
        go_ret
        exact ⟨int_ret (by omega), hgr⟩
end Go.Proofs.Ytmncdpiojhgcdaa

/- Whether items are valid, in the model. -/
namespace Go.Proofs.Ytmncdpiojhgcdaa
open Go.ChangeShapes Go.WideShapes Go.ChangeAt Go.RowKit
set_option linter.unusedVariables false
open Classical

/-- Whether an item is valid. -/
def IOk (k w st sh p : Int) (f : Bool) : Prop :=
  (k = 1 ∧ (0 ≤ w ∧ w ≤ 1000) ∧ st = 0 ∧ sh = 0 ∧ p = 0 ∧ f = false) ∨ (k = 2 ∧ (0 ≤ w ∧ w ≤ 1000) ∧ (0 ≤ st ∧ st ≤ 1000) ∧ (0 ≤ sh ∧ sh ≤ w) ∧ p = 0 ∧ f = false) ∨ (k = 3 ∧ (0 ≤ w ∧ w ≤ 1000) ∧ st = 0 ∧ sh = 0 ∧ (-1000 ≤ p ∧ p ≤ 1000))
noncomputable def iok (k w st sh p : Int) (f : Bool) : Bool := decide (IOk k w st sh p f)
theorem iok_yes {k w st sh p : Int} {f : Bool} (h : IOk k w st sh p f) : iok k w st sh p f = true := decide_eq_true h
theorem iok_no {k w st sh p : Int} {f : Bool} (h : ¬ IOk k w st sh p f) : iok k w st sh p f = false := decide_eq_false h
theorem iok_iff {k w st sh p : Int} {f : Bool} : iok k w st sh p f = true ↔ IOk k w st sh p f := ⟨of_decide_eq_true, decide_eq_true⟩
noncomputable def itOk (x : It) : Bool := iok x.k x.w x.st x.sh x.p x.f

set_option maxHeartbeats 1000000 in
theorem validItem_c (k b c d e : Int) (f : Bool) (w : World) :
    Calls Try.prog 106 #[.agg #[.int .i64 k, .int .i64 b, .int .i64 c, .int .i64 d, .int .i64 e, .bool f]] w fun e' w' => e' = .returned (.bool (iok k b c d e f)) ∧ Below w.heap.size w w' := by
  rcases (by omega : k = 1 ∨ k = 2 ∨ k = 3 ∨ (k ≠ 1 ∧ k ≠ 2 ∧ k ≠ 3)) with rfl | rfl | rfl | ⟨h1, h2, h3⟩
  · cases q1 : inB b 0 1000
    · have r1 : ¬ (0 ≤ b ∧ b ≤ 1000) := fun h => by rw [inB_yes h.1 h.2] at q1; cases q1
      have E : iok 1 b c d e f = false := (iok_no (fun x => by rcases x with ⟨x1, x2, x3, x4, x5, x6⟩ | ⟨x1, x2, x3, x4, x5, x6⟩ | ⟨x1, x2, x3, x4, x5⟩ <;> first | omega | (cases x6; done)))
      clear r1
      (rw [E]; clear E; go_enter Try.func106, Try.ntmps106; go_wp2_with (go_at_call 62; refine (inRange_any _ _ _ _).mono ?_; rintro e w' ⟨rfl, rfl⟩); go_ret; exact ⟨rfl, bl_alloc (bl_refl _) _⟩)
    have r1 := inB_iff.1 q1
    rcases (by omega : c ≠ 0 ∨ c = 0) with h | rfl
    · have E : iok 1 b c d e f = false := (iok_no (fun x => by rcases x with ⟨x1, x2, x3, x4, x5, x6⟩ | ⟨x1, x2, x3, x4, x5, x6⟩ | ⟨x1, x2, x3, x4, x5⟩ <;> first | omega | (cases x6; done)))
      have g : (c == 0) = false := beq_eq_false_iff_ne.2 h
      clear h
      (rw [E]; clear E; go_enter Try.func106, Try.ntmps106; go_wp2_with (go_at_call 62; refine (inRange_any _ _ _ _).mono ?_; rintro e w' ⟨rfl, rfl⟩); go_ret; exact ⟨rfl, bl_alloc (bl_refl _) _⟩)
    rcases (by omega : d ≠ 0 ∨ d = 0) with h | rfl
    · have E : iok 1 b 0 d e f = false := (iok_no (fun x => by rcases x with ⟨x1, x2, x3, x4, x5, x6⟩ | ⟨x1, x2, x3, x4, x5, x6⟩ | ⟨x1, x2, x3, x4, x5⟩ <;> first | omega | (cases x6; done)))
      have g : (d == 0) = false := beq_eq_false_iff_ne.2 h
      clear h
      (rw [E]; clear E; go_enter Try.func106, Try.ntmps106; go_wp2_with (go_at_call 62; refine (inRange_any _ _ _ _).mono ?_; rintro e w' ⟨rfl, rfl⟩); go_ret; exact ⟨rfl, bl_alloc (bl_refl _) _⟩)
    rcases (by omega : e ≠ 0 ∨ e = 0) with h | rfl
    · have E : iok 1 b 0 0 e f = false := (iok_no (fun x => by rcases x with ⟨x1, x2, x3, x4, x5, x6⟩ | ⟨x1, x2, x3, x4, x5, x6⟩ | ⟨x1, x2, x3, x4, x5⟩ <;> first | omega | (cases x6; done)))
      have g : (e == 0) = false := beq_eq_false_iff_ne.2 h
      clear h
      (rw [E]; clear E; go_enter Try.func106, Try.ntmps106; go_wp2_with (go_at_call 62; refine (inRange_any _ _ _ _).mono ?_; rintro e w' ⟨rfl, rfl⟩); go_ret; exact ⟨rfl, bl_alloc (bl_refl _) _⟩)
    cases f
    · have E : iok 1 b 0 0 0 false = true := iok_yes (.inl ⟨rfl, r1, rfl, rfl, rfl, rfl⟩)
      (rw [E]; clear E; go_enter Try.func106, Try.ntmps106; go_wp2_with (go_at_call 62; refine (inRange_any _ _ _ _).mono ?_; rintro e w' ⟨rfl, rfl⟩); go_ret; exact ⟨rfl, bl_alloc (bl_refl _) _⟩)
    · have E : iok 1 b 0 0 0 true = false := (iok_no (fun x => by rcases x with ⟨x1, x2, x3, x4, x5, x6⟩ | ⟨x1, x2, x3, x4, x5, x6⟩ | ⟨x1, x2, x3, x4, x5⟩ <;> first | omega | (cases x6; done)))
      (rw [E]; clear E; go_enter Try.func106, Try.ntmps106; go_wp2_with (go_at_call 62; refine (inRange_any _ _ _ _).mono ?_; rintro e w' ⟨rfl, rfl⟩); go_ret; exact ⟨rfl, bl_alloc (bl_refl _) _⟩)
  · cases q1 : inB b 0 1000
    · have r1 : ¬ (0 ≤ b ∧ b ≤ 1000) := fun h => by rw [inB_yes h.1 h.2] at q1; cases q1
      have E : iok 2 b c d e f = false := (iok_no (fun x => by rcases x with ⟨x1, x2, x3, x4, x5, x6⟩ | ⟨x1, x2, x3, x4, x5, x6⟩ | ⟨x1, x2, x3, x4, x5⟩ <;> first | omega | (cases x6; done)))
      clear r1
      (rw [E]; clear E; go_enter Try.func106, Try.ntmps106; go_wp2_with (go_at_call 62; refine (inRange_any _ _ _ _).mono ?_; rintro e w' ⟨rfl, rfl⟩); go_ret; exact ⟨rfl, bl_alloc (bl_refl _) _⟩)
    have r1 := inB_iff.1 q1
    cases q2 : inB c 0 1000
    · have r2 : ¬ (0 ≤ c ∧ c ≤ 1000) := fun h => by rw [inB_yes h.1 h.2] at q2; cases q2
      have E : iok 2 b c d e f = false := (iok_no (fun x => by rcases x with ⟨x1, x2, x3, x4, x5, x6⟩ | ⟨x1, x2, x3, x4, x5, x6⟩ | ⟨x1, x2, x3, x4, x5⟩ <;> first | omega | (cases x6; done)))
      clear r2
      (rw [E]; clear E; go_enter Try.func106, Try.ntmps106; go_wp2_with (go_at_call 62; refine (inRange_any _ _ _ _).mono ?_; rintro e w' ⟨rfl, rfl⟩); go_ret; exact ⟨rfl, bl_alloc (bl_refl _) _⟩)
    have r2 := inB_iff.1 q2
    cases q3 : inB d 0 b
    · have r3 : ¬ (0 ≤ d ∧ d ≤ b) := fun h => by rw [inB_yes h.1 h.2] at q3; cases q3
      have E : iok 2 b c d e f = false := (iok_no (fun x => by rcases x with ⟨x1, x2, x3, x4, x5, x6⟩ | ⟨x1, x2, x3, x4, x5, x6⟩ | ⟨x1, x2, x3, x4, x5⟩ <;> first | omega | (cases x6; done)))
      clear r3
      (rw [E]; clear E; go_enter Try.func106, Try.ntmps106; go_wp2_with (go_at_call 62; refine (inRange_any _ _ _ _).mono ?_; rintro e w' ⟨rfl, rfl⟩); go_ret; exact ⟨rfl, bl_alloc (bl_refl _) _⟩)
    have r3 := inB_iff.1 q3
    rcases (by omega : e ≠ 0 ∨ e = 0) with h | rfl
    · have E : iok 2 b c d e f = false := (iok_no (fun x => by rcases x with ⟨x1, x2, x3, x4, x5, x6⟩ | ⟨x1, x2, x3, x4, x5, x6⟩ | ⟨x1, x2, x3, x4, x5⟩ <;> first | omega | (cases x6; done)))
      have g : (e == 0) = false := beq_eq_false_iff_ne.2 h
      clear h
      (rw [E]; clear E; go_enter Try.func106, Try.ntmps106; go_wp2_with (go_at_call 62; refine (inRange_any _ _ _ _).mono ?_; rintro e w' ⟨rfl, rfl⟩); go_ret; exact ⟨rfl, bl_alloc (bl_refl _) _⟩)
    cases f
    · have E : iok 2 b c d 0 false = true := iok_yes (.inr (.inl ⟨rfl, r1, r2, r3, rfl, rfl⟩))
      (rw [E]; clear E; go_enter Try.func106, Try.ntmps106; go_wp2_with (go_at_call 62; refine (inRange_any _ _ _ _).mono ?_; rintro e w' ⟨rfl, rfl⟩); go_ret; exact ⟨rfl, bl_alloc (bl_refl _) _⟩)
    · have E : iok 2 b c d 0 true = false := (iok_no (fun x => by rcases x with ⟨x1, x2, x3, x4, x5, x6⟩ | ⟨x1, x2, x3, x4, x5, x6⟩ | ⟨x1, x2, x3, x4, x5⟩ <;> first | omega | (cases x6; done)))
      (rw [E]; clear E; go_enter Try.func106, Try.ntmps106; go_wp2_with (go_at_call 62; refine (inRange_any _ _ _ _).mono ?_; rintro e w' ⟨rfl, rfl⟩); go_ret; exact ⟨rfl, bl_alloc (bl_refl _) _⟩)
  · cases q1 : inB b 0 1000
    · have r1 : ¬ (0 ≤ b ∧ b ≤ 1000) := fun h => by rw [inB_yes h.1 h.2] at q1; cases q1
      have E : iok 3 b c d e f = false := (iok_no (fun x => by rcases x with ⟨x1, x2, x3, x4, x5, x6⟩ | ⟨x1, x2, x3, x4, x5, x6⟩ | ⟨x1, x2, x3, x4, x5⟩ <;> first | omega | (cases x6; done)))
      clear r1
      (rw [E]; clear E; go_enter Try.func106, Try.ntmps106; go_wp2_with (go_at_call 62; refine (inRange_any _ _ _ _).mono ?_; rintro e w' ⟨rfl, rfl⟩); go_ret; exact ⟨rfl, bl_alloc (bl_refl _) _⟩)
    have r1 := inB_iff.1 q1
    rcases (by omega : c ≠ 0 ∨ c = 0) with h | rfl
    · have E : iok 3 b c d e f = false := (iok_no (fun x => by rcases x with ⟨x1, x2, x3, x4, x5, x6⟩ | ⟨x1, x2, x3, x4, x5, x6⟩ | ⟨x1, x2, x3, x4, x5⟩ <;> first | omega | (cases x6; done)))
      have g : (c == 0) = false := beq_eq_false_iff_ne.2 h
      clear h
      (rw [E]; clear E; go_enter Try.func106, Try.ntmps106; go_wp2_with (go_at_call 62; refine (inRange_any _ _ _ _).mono ?_; rintro e w' ⟨rfl, rfl⟩); go_ret; exact ⟨rfl, bl_alloc (bl_refl _) _⟩)
    rcases (by omega : d ≠ 0 ∨ d = 0) with h | rfl
    · have E : iok 3 b 0 d e f = false := (iok_no (fun x => by rcases x with ⟨x1, x2, x3, x4, x5, x6⟩ | ⟨x1, x2, x3, x4, x5, x6⟩ | ⟨x1, x2, x3, x4, x5⟩ <;> first | omega | (cases x6; done)))
      have g : (d == 0) = false := beq_eq_false_iff_ne.2 h
      clear h
      (rw [E]; clear E; go_enter Try.func106, Try.ntmps106; go_wp2_with (go_at_call 62; refine (inRange_any _ _ _ _).mono ?_; rintro e w' ⟨rfl, rfl⟩); go_ret; exact ⟨rfl, bl_alloc (bl_refl _) _⟩)
    cases q2 : inB e (-1000) 1000
    · have r2 : ¬ (-1000 ≤ e ∧ e ≤ 1000) := fun h => by rw [inB_yes h.1 h.2] at q2; cases q2
      have E : iok 3 b 0 0 e f = false := (iok_no (fun x => by rcases x with ⟨x1, x2, x3, x4, x5, x6⟩ | ⟨x1, x2, x3, x4, x5, x6⟩ | ⟨x1, x2, x3, x4, x5⟩ <;> first | omega | (cases x6; done)))
      clear r2
      (rw [E]; clear E; go_enter Try.func106, Try.ntmps106; go_wp2_with (go_at_call 62; refine (inRange_any _ _ _ _).mono ?_; rintro e w' ⟨rfl, rfl⟩); go_ret; exact ⟨rfl, bl_alloc (bl_refl _) _⟩)
    · have E : iok 3 b 0 0 e f = true := iok_yes (.inr (.inr ⟨rfl, r1, rfl, rfl, inB_iff.1 q2⟩))
      (rw [E]; clear E; go_enter Try.func106, Try.ntmps106; go_wp2_with (go_at_call 62; refine (inRange_any _ _ _ _).mono ?_; rintro e w' ⟨rfl, rfl⟩); go_ret; exact ⟨rfl, bl_alloc (bl_refl _) _⟩)
  · have E : iok k b c d e f = false := (iok_no (fun x => by rcases x with ⟨x1, x2, x3, x4, x5, x6⟩ | ⟨x1, x2, x3, x4, x5, x6⟩ | ⟨x1, x2, x3, x4, x5⟩ <;> first | omega | (cases x6; done)))
    have g1 : (k == 1) = false := beq_eq_false_iff_ne.2 h1
    have g2 : (k == 2) = false := beq_eq_false_iff_ne.2 h2
    have g3 : (k == 3) = false := beq_eq_false_iff_ne.2 h3
    clear h1 h2 h3
    (rw [E]; clear E; go_enter Try.func106, Try.ntmps106; go_wp2_with (go_at_call 62; refine (inRange_any _ _ _ _).mono ?_; rintro e w' ⟨rfl, rfl⟩); go_ret; exact ⟨rfl, bl_alloc (bl_refl _) _⟩)
theorem validItem_s (x : It) (w : World) :
    Calls Try.prog 106 #[itv x] w fun e' w' => e' = .returned (.bool (itOk x)) ∧ Below w.heap.size w w' := validItem_c x.k x.w x.st x.sh x.p x.f w

/-- Whether items are a paragraph. -/
def IsOk (L : List It) : Prop := (∀ i, i < L.length → itOk (tg L i) = true) ∧ (1 ≤ L.length ∧ L.length ≤ 60) ∧ (tg L (L.length - 1)).k = 3 ∧ (tg L (L.length - 1)).p = -1000
noncomputable def isOk (L : List It) : Bool := decide (IsOk L)
theorem isOk_iff {L : List It} : isOk L = true ↔ IsOk L := ⟨of_decide_eq_true, decide_eq_true⟩
theorem isOk_no {L : List It} (h : ¬ IsOk L) : isOk L = false := decide_eq_false h
def OTo (L : List It) (k : Nat) : Prop := ∀ i, i < k → itOk (tg L i) = true
theorem OTo.zero (L : List It) : OTo L 0 := fun i h => by omega
theorem OTo.step {L : List It} {k : Nat} (h : OTo L k) (hk : itOk (tg L k) = true) : OTo L (k + 1) := fun i hi => by
  rcases (by omega : i < k ∨ i = k) with e | e
  · exact h i e
  · rw [e]; exact hk

set_option maxHeartbeats 1000000 in
theorem validItems_s (w : World) (A : Option Addr) (n c : Nat) (L : List It) (h : TL w A n L) (hn : n ≤ 4611686018427387904) :
    Calls Try.prog 60 #[.slice A n c] w fun e w' => e = .returned (.bool (isOk L)) ∧ Below w.heap.size w w' := by
  obtain rfl : n = L.length := h.1
  have HI := hide h
  clear h
  go_enter Try.func60, Try.ntmps60
  go_wp2
  go_loopw [3] (fun i u => ∃ p : Nat, p ≤ L.length ∧ i = .int .i64 p ∧ OTo L p ∧ Below w.heap.size w u) (fun i _ => L.length - (intOf i).toNat)
  case atStart => exact ⟨0, by omega, rfl, OTo.zero _, bl_refl _⟩
  case round =>
    obtain ⟨p, hp, rfl, hpo, hbl⟩ := hrel
    have HP := hide hpo
    have HB := hide hbl
    clear hpo
    by_cases hlt : p < L.length
    · obtain ⟨b, o, rfl, hb0, c0, c1, c2, c3, c4, c5⟩ := (HI.out.below hbl).at6 hlt
      have VI := fun (u : World) => validItem_s (tg L p) u
      cases q : itOk (tg L p)
      · rw [q] at VI
        have HV := hide VI
        have E := hide (isOk_no (L := L) (fun x => by have := x.1 p hlt; rw [q] at this; cases this))
        clear q VI hbl
        go_wp2_with fail
        (with_reducible refine (HV.out _).mono ?_)
        rintro e u1 ⟨rfl, hb⟩
        go_wp2
        go_ret
        exact ⟨bool_ret E.out.symm, bl_call hb HB.out⟩
      · rw [q] at VI
        have HV := hide VI
        have M := hide (HP.out.step q)
        clear q VI hbl
        go_wp2_with fail
        (with_reducible refine (HV.out _).mono ?_)
        rintro e u1 ⟨rfl, hb⟩
        go_wp2
        go_roundw
        case rel => exact ⟨p + 1, by omega, by go_num, M.out, bl_call hb HB.out⟩
        case measure => simp [intOf]; omega
    · have ALL : OTo L L.length := by rw [show L.length = p from by omega]; exact HP.out
      cases q : inB L.length 1 60
      · have E := hide (isOk_no (L := L) (fun x => by have := x.2.1; rw [inB_yes (by omega) (by omega)] at q; cases q))
        clear ALL
        go_wp2_with (go_at_call 62; refine (inRange_any _ _ _ _).mono ?_; rintro e w' ⟨rfl, rfl⟩)
        go_ret
        exact ⟨bool_ret E.out.symm, hbl⟩
      · have hr := inB_iff.1 q
        obtain ⟨m, hm⟩ : ∃ m, m = L.length - 1 := ⟨_, rfl⟩
        obtain ⟨b, o, rfl, hb0, c0, c1, c2, c3, c4, c5⟩ := (HI.out.below hbl).at6 (i := m) (by omega)
        have em : (L.length : Int) - 1 = (m : Int) := by omega
        have hml : m < L.length := by omega
        obtain ⟨x, hx⟩ : ∃ x, x = (tg L m).k := ⟨_, rfl⟩
        obtain ⟨y, hy⟩ : ∃ y, y = (tg L m).p := ⟨_, rfl⟩
        rw [← hx] at c0
        rw [← hy] at c4
        have T := hide (fun (a : x = 3) (b : y = -1000) => (show IsOk L from ⟨ALL, by omega, by rw [← hm, ← hx]; exact a, by rw [← hm, ← hy]; exact b⟩))
        have U := hide (fun (z : IsOk L) => (show x = 3 ∧ y = -1000 from ⟨by rw [hx, hm]; exact z.2.2.1, by rw [hy, hm]; exact z.2.2.2⟩))
        clear ALL hm hx hy c1 c2 c3 c5 hr
        rcases (by omega : x ≠ 3 ∨ x = 3) with h | rfl
        · have E := hide (isOk_no (L := L) (fun z => h (U.out z).1))
          have g : (x == 3) = false := beq_eq_false_iff_ne.2 h
          clear h
          go_wp2_with (go_at_call 62; refine (inRange_any _ _ _ _).mono ?_; rintro e w' ⟨rfl, rfl⟩)
          go_ret
          exact ⟨bool_ret E.out.symm, hbl⟩
        rcases (by omega : y ≠ -1000 ∨ y = -1000) with h | rfl
        · have E := hide (isOk_no (L := L) (fun z => h (U.out z).2))
          have g : (y == -1000) = false := beq_eq_false_iff_ne.2 h
          clear h
          go_wp2_with (go_at_call 62; refine (inRange_any _ _ _ _).mono ?_; rintro e w' ⟨rfl, rfl⟩)
          go_ret
          exact ⟨bool_ret E.out.symm, hbl⟩
        · have E := hide (isOk_iff.2 (T.out rfl rfl))
          go_wp2_with (go_at_call 62; refine (inRange_any _ _ _ _).mono ?_; rintro e w' ⟨rfl, rfl⟩)
          go_ret
          exact ⟨bool_ret E.out.symm, hbl⟩
end Go.Proofs.Ytmncdpiojhgcdaa
