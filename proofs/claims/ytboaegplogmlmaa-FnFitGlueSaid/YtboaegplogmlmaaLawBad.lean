/- The promises on Badness hold for every code: it grows with the need, falls with what is provided, is 100 for equal lengths, and is a ratio. No condition. -/
import Derived.Test.YtboaegplogmlmaaRead
import Derived.Test.YtboaegplogmlmaaGlue
namespace Go.Proofs.Ytboaegplogmlmaa
open Go.ChangeShapes Go.WideShapes Go.ChangeAt Go.RowKit
set_option linter.unusedVariables false

theorem DrawBadness_any (w : World) (a : Option Addr) (n c : Nat) (zs : List Int) (h : IsRow .u8 w a n c zs) :
    Calls Try.prog 16 #[.slice a n c] w fun e w' => ∃ x y : Int, e = .returned (.tuple #[.int .i64 x, .int .i64 y]) ∧ Below w.heap.size w w' := by
  go_enter Try.func16, Try.ntmps16
  go_wp2_with fail
  refine (newReader_any _ _ _ _ _ h).mono ?_
  rintro e u0 ⟨rfl, hrd, hb⟩
  generalize hg : w.heap.size = g at hrd
  have hz0 := hb.size
  have hlt := hrd.lt
  go_wp2_with fail
  (go_at_call 31; refine (one_any _ _ g _ _ _ (fun _ => True) (by first | assumption | exact RD.alloc (by assumption) _ | exact RD.drew (by assumption) | exact RD.alloc (RD.drew (by assumption)) _ | exact RD.drew (RD.alloc (by assumption) _)) (by omega) (by first | exact heap_alloc_new _ _ | (simp [go_sem]; done)) (by omega) (by rfl) (by decide) (by simp)).mono ?_; rintro e w' ⟨x, hr0, rfl, hrd, hon⟩; (try (with_reducible have hon := on_undrew hon)); have hc := on_cell hon; have hf := on_frozen hon; have hz := hon.size; (try simp at hz); (try (have z0 : w.heap.size < w'.heap.size := (by omega); have y0 := Nat.le_of_lt z0)); (try (have z1 : w.heap.size + 1 < w'.heap.size := (by omega); have y1 := Nat.le_of_lt z1)); (try (have z2 : w.heap.size + 1 + 1 < w'.heap.size := (by omega); have y2 := Nat.le_of_lt z2)); (try (have z3 : w.heap.size + 1 + 1 + 1 < w'.heap.size := (by omega); have y3 := Nat.le_of_lt z3)); (try (have z4 : u1.heap.size < w'.heap.size := (by omega); have y4 := Nat.le_of_lt z4)); (try (have z5 : u1.heap.size + 1 < w'.heap.size := (by omega); have y5 := Nat.le_of_lt z5)); (try (have z6 : u2.heap.size < w'.heap.size := (by omega); have y6 := Nat.le_of_lt z6)); (try (have z7 : u2.heap.size + 1 < w'.heap.size := (by omega); have y7 := Nat.le_of_lt z7)); (try (have z8 : u3.heap.size < w'.heap.size := (by omega); have y8 := Nat.le_of_lt z8)); (try (have z9 : u3.heap.size + 1 < w'.heap.size := (by omega); have y9 := Nat.le_of_lt z9)); (try (have z10 : u4.heap.size < w'.heap.size := (by omega); have y10 := Nat.le_of_lt z10)); (try (have z11 : u4.heap.size + 1 < w'.heap.size := (by omega); have y11 := Nat.le_of_lt z11)); (try (have z12 : u5.heap.size < w'.heap.size := (by omega); have y12 := Nat.le_of_lt z12)); (try (have z13 : u5.heap.size + 1 < w'.heap.size := (by omega); have y13 := Nat.le_of_lt z13)); (try (have z14 : u6.heap.size < w'.heap.size := (by omega); have y14 := Nat.le_of_lt z14)); (try (have z15 : u6.heap.size + 1 < w'.heap.size := (by omega); have y15 := Nat.le_of_lt z15)); (try have q0 : ¬ w'.heap.size = g := by omega); (try have q1 : ¬ w'.heap.size + 1 = g := by omega); (first | (have _k := u7; clear _k; rename World => u8) | (have _k := u6; clear _k; rename World => u7) | (have _k := u5; clear _k; rename World => u6) | (have _k := u4; clear _k; rename World => u5) | (have _k := u3; clear _k; rename World => u4) | (have _k := u2; clear _k; rename World => u3) | (have _k := u1; clear _k; rename World => u2) | (rename World => u1)))
  go_wp2_with fail
  (go_at_call 31; refine (one_any _ _ g _ _ _ (fun _ => True) (by first | assumption | exact RD.alloc (by assumption) _ | exact RD.drew (by assumption) | exact RD.alloc (RD.drew (by assumption)) _ | exact RD.drew (RD.alloc (by assumption) _)) (by omega) (by first | exact heap_alloc_new _ _ | (simp [go_sem]; done)) (by omega) (by rfl) (by decide) (by simp)).mono ?_; rintro e w' ⟨y, hr0, rfl, hrd, hon⟩; (try (with_reducible have hon := on_undrew hon)); have hc := on_cell hon; have hf := on_frozen hon; have hz := hon.size; (try simp at hz); (try (have z0 : w.heap.size < w'.heap.size := (by omega); have y0 := Nat.le_of_lt z0)); (try (have z1 : w.heap.size + 1 < w'.heap.size := (by omega); have y1 := Nat.le_of_lt z1)); (try (have z2 : w.heap.size + 1 + 1 < w'.heap.size := (by omega); have y2 := Nat.le_of_lt z2)); (try (have z3 : w.heap.size + 1 + 1 + 1 < w'.heap.size := (by omega); have y3 := Nat.le_of_lt z3)); (try (have z4 : u1.heap.size < w'.heap.size := (by omega); have y4 := Nat.le_of_lt z4)); (try (have z5 : u1.heap.size + 1 < w'.heap.size := (by omega); have y5 := Nat.le_of_lt z5)); (try (have z6 : u2.heap.size < w'.heap.size := (by omega); have y6 := Nat.le_of_lt z6)); (try (have z7 : u2.heap.size + 1 < w'.heap.size := (by omega); have y7 := Nat.le_of_lt z7)); (try (have z8 : u3.heap.size < w'.heap.size := (by omega); have y8 := Nat.le_of_lt z8)); (try (have z9 : u3.heap.size + 1 < w'.heap.size := (by omega); have y9 := Nat.le_of_lt z9)); (try (have z10 : u4.heap.size < w'.heap.size := (by omega); have y10 := Nat.le_of_lt z10)); (try (have z11 : u4.heap.size + 1 < w'.heap.size := (by omega); have y11 := Nat.le_of_lt z11)); (try (have z12 : u5.heap.size < w'.heap.size := (by omega); have y12 := Nat.le_of_lt z12)); (try (have z13 : u5.heap.size + 1 < w'.heap.size := (by omega); have y13 := Nat.le_of_lt z13)); (try (have z14 : u6.heap.size < w'.heap.size := (by omega); have y14 := Nat.le_of_lt z14)); (try (have z15 : u6.heap.size + 1 < w'.heap.size := (by omega); have y15 := Nat.le_of_lt z15)); (try have q0 : ¬ w'.heap.size = g := by omega); (try have q1 : ¬ w'.heap.size + 1 = g := by omega); (first | (have _k := u7; clear _k; rename World => u8) | (have _k := u6; clear _k; rename World => u7) | (have _k := u5; clear _k; rename World => u6) | (have _k := u4; clear _k; rename World => u5) | (have _k := u3; clear _k; rename World => u4) | (have _k := u2; clear _k; rename World => u3) | (have _k := u1; clear _k; rename World => u2) | (rename World => u1)))
  go_wp2_with fail
  go_ret2
  refine ⟨x, y, rfl, on_new (g := g) ?_ (by omega)⟩
  repeat' (first | with_reducible exact on_refl _ _ | with_reducible refine on_alloc ?_ _ | with_reducible refine on_set ?_ ?_ _ | with_reducible refine on_drewN ?_ _ | with_reducible refine on_drew ?_ | with_reducible refine on_call (by assumption) ?_ | with_reducible refine on_below (by assumption) ?_)

/-! Badness as numbers. -/
theorem bad_nonneg (n h : Int) (n0 : 0 ≤ n) (h0 : 0 ≤ h) : 0 ≤ bad n h := by
  unfold bad
  split
  · omega
  · split
    · omega
    · have := Int.ediv_nonneg (a := 100 * n * n * n) (b := h * h * h) (by have := (cube_bd n n n0 (by omega)).2.2.1; have := (cube_100 n).2; omega) (by have := (cube_bd h h h0 (by omega)).2.2.1; omega)
      omega
theorem bad_le (n h : Int) : bad n h ≤ 10000 := by
  unfold bad
  split
  · omega
  · split <;> omega
theorem mul_mono3 {a b : Int} (h0 : 0 ≤ a) (h : a ≤ b) : a * a * a ≤ b * b * b := (cube_bd a b h0 h).2.2.2
theorem bad_more (n m h : Int) (n0 : 0 ≤ n) (hm : n ≤ m) (h0 : 0 ≤ h) : bad n h ≤ bad m h := by
  rcases (by omega : n = 0 ∨ 0 < n) with z | z
  · subst z
    rw [bad_zero]
    exact bad_nonneg m h (by omega) h0
  · unfold bad
    rw [if_neg (by omega : ¬ n = 0), if_neg (by omega : ¬ m = 0)]
    split
    · omega
    · have h3 : 0 < h * h * h := Int.mul_pos (Int.mul_pos (by omega) (by omega)) (by omega)
      have a1 := mul_mono3 n0 hm
      have e1 := (cube_100 n).2
      have e2 := (cube_100 m).2
      have := Int.ediv_le_ediv h3 (by omega : 100 * n * n * n ≤ 100 * m * m * m)
      omega
theorem div_anti {a b c : Int} (ha : 0 ≤ a) (hb : 0 < b) (hc : b ≤ c) : a / c ≤ a / b := by
  rw [Int.le_ediv_iff_mul_le hb]
  have h1 : 0 ≤ a / c := Int.ediv_nonneg ha (by omega)
  have h2 : a / c * b ≤ a / c * c := Int.mul_le_mul_of_nonneg_left hc h1
  have h3 : a / c * c ≤ a := Int.ediv_mul_le a (by omega)
  omega
theorem bad_less (n h k : Int) (n0 : 0 ≤ n) (h0 : 0 ≤ h) (hk : h ≤ k) : bad n k ≤ bad n h := by
  rcases (by omega : n = 0 ∨ 0 < n) with z | z
  · subst z
    rw [bad_zero, bad_zero]
    omega
  · rcases (by omega : h = 0 ∨ 0 < h) with y | y
    · subst y
      rw [bad_none n (by omega)]
      exact bad_le n k
    · unfold bad
      rw [if_neg (by omega : ¬ n = 0), if_neg (by omega : ¬ k = 0), if_neg (by omega : ¬ n = 0), if_neg (by omega : ¬ h = 0)]
      have h3 : 0 < h * h * h := Int.mul_pos (Int.mul_pos (by omega) (by omega)) (by omega)
      have a1 := mul_mono3 h0 hk
      have := div_anti (a := 100 * n * n * n) (by have := (cube_bd n n n0 (by omega)).2.2.1; have := (cube_100 n).2; omega) h3 a1
      omega
theorem bad_same (h : Int) (h0 : 0 < h) : bad h h = 100 := by
  unfold bad
  rw [if_neg (by omega : ¬ h = 0), if_neg (by omega : ¬ h = 0)]
  have h3 : 0 < h * h * h := Int.mul_pos (Int.mul_pos (by omega) (by omega)) (by omega)
  rw [(cube_100 h).2, Int.mul_ediv_cancel _ (by omega)]
  omega
theorem bad_twice (n h : Int) : bad (2 * n) (2 * h) = bad n h := by
  unfold bad
  by_cases z : n = 0
  · subst z; simp
  · by_cases y : h = 0
    · subst y; simp [z]
    · rw [if_neg (by omega : ¬ 2 * n = 0), if_neg (by omega : ¬ 2 * h = 0), if_neg z, if_neg y]
      have e1 : 100 * (2 * n) * (2 * n) * (2 * n) = 8 * (100 * n * n * n) := by
        simp only [Int.mul_assoc, Int.mul_left_comm n]; omega
      have e2 : 2 * h * (2 * h) * (2 * h) = 8 * (h * h * h) := by
        simp only [Int.mul_assoc, Int.mul_left_comm h]; omega
      rw [e1, e2, Int.mul_ediv_mul_of_pos _ _ (by omega)]

theorem badv_yes {n h : Int} (a : 0 ≤ n ∧ n ≤ 10000) (b : 0 ≤ h ∧ h ≤ 10000) : badv n h = bad n h := by simp [badv, inB_yes a.1 a.2, inB_yes b.1 b.2]
theorem badv_neg {n h : Int} (a : ¬ ((0 ≤ n ∧ n ≤ 10000) ∧ (0 ≤ h ∧ h ≤ 10000))) : badv n h = -1 := by
  unfold badv
  rw [if_neg]
  simp only [Bool.and_eq_true, inB_iff]
  exact a


theorem walk_FnBadness (a : Option Addr) (n c : Nat) (zs : List Int) (w : World) (hr : IsRow .u8 w a n c zs) :
    Calls Try.prog 5 #[.slice a n c] w fun e w' => e = .returned (.bool true) ∧ Below w.heap.size w w' := by
  have hm := small_row hr
  unfold maxLen at hm
  rcases (by omega : 1048576 < n ∨ n ≤ 1048576) with hn | hn
  · go_enter Try.func5, Try.ntmps5
    go_wp2
    go_ret
    exact ⟨rfl, bl_refl _⟩
  · go_enter Try.func5, Try.ntmps5
    go_wp2_with fail; refine (DrawBadness_any _ _ _ _ _ hr).mono ?_; rintro e u0 ⟨x, y, rfl, hb⟩; clear hr
    by_cases hv : (0 ≤ x ∧ x ≤ 10000) ∧ (0 ≤ y ∧ y ≤ 10000)
    · obtain ⟨⟨x0, x1⟩, y0, y1⟩ := hv
      have f0 : 0 ≤ badv x y := by rw [badv_yes ⟨x0, x1⟩ ⟨y0, y1⟩]; exact bad_nonneg x y x0 y0
      have f1 : badv x y ≤ 10000 := by rw [badv_yes ⟨x0, x1⟩ ⟨y0, y1⟩]; exact bad_le x y
      have f2 : x < 10000 → badv x y ≤ badv (x + 1) y := fun h => by
        rw [badv_yes ⟨x0, x1⟩ ⟨y0, y1⟩, badv_yes ⟨by omega, by omega⟩ ⟨y0, y1⟩]; exact bad_more x (x + 1) y x0 (by omega) y0
      have f3 : y < 10000 → badv x (y + 1) ≤ badv x y := fun h => by
        rw [badv_yes ⟨x0, x1⟩ ⟨y0, y1⟩, badv_yes ⟨x0, x1⟩ ⟨by omega, by omega⟩]; exact bad_less x y (y + 1) x0 y0 (by omega)
      have f4 : 0 < y → badv y y = 100 := fun h => by
        rw [badv_yes ⟨y0, y1⟩ ⟨y0, y1⟩]; exact bad_same y h
      rcases (by omega : y = 0 ∨ 0 < y ∧ y < 10000 ∨ y = 10000) with rfl | ⟨y2, y3⟩ | rfl
      all_goals
        rcases (by omega : x < 10000 ∨ x = 10000) with x2 | rfl
        all_goals
          (try have g2 := f2 (by omega))
          (try have g3 := f3 (by omega))
          (try have g4 := f4 (by omega))
          clear f2 f3 f4
          go_wp2_with (first | (go_at_call 17; refine (Badness_i _ _ _).mono ?_; rintro e w' ⟨rfl, rfl⟩) | (go_at_call 18; refine (Badness_s _ _ _).mono ?_; rintro e w' ⟨rfl, rfl⟩))
          go_ret
          exact ⟨rfl, hb⟩
    · have E := hide (badv_neg hv)
      go_wp2_with (first | (go_at_call 17; refine (Badness_i _ _ _).mono ?_; rintro e w' ⟨rfl, rfl⟩; rw [E.out]) | (go_at_call 18; refine (Badness_s _ _ _).mono ?_; rintro e w' ⟨rfl, rfl⟩; rw [E.out]))
      go_ret
      exact ⟨rfl, hb⟩
set_option maxRecDepth 100000 in
theorem lifted_FnBadness (os : Os) (started : os.Started) (H : Type) (enc : TypeId × Value → H) :
    ReturnsInHanded {} Try.checked os 5 .any (Rows.fnBadnessSpec.pre6 enc Try.prog Try.f5 Rows.fnBadnessRow.domain false) (Rows.fnBadnessSpec.post enc Try.prog Try.f5 false true false false) := by
  refine returnsInHanded_of_change (C := Try.checked) own_knob started (by kernel_rfl) Try.func5
    (ChangeSpec.witness6 (enc := enc) (C := Try.checked) false ⟨#[], #[.slice none 0 0], []⟩ 8 (by kernel_rfl) (by kernel_rfl) (by kernel_rfl) (by kernel_rfl)) ?_
  intro W base args ds gs before hval0 hW hcnd _
  have hval : ∀ (j : Nat) t v, Try.f5.params[j]? = some t → args[j]? = some v → Value.okWide Try.prog W .any base t v := hval0
  have hW' := hW
  obtain ⟨p, q, hA0, hV, rfl, hfz, hnd⟩ := hW
  have hA : DataW.TrodAll enc Try.prog W 0 (fun _ => true) true Try.f5.params.toList args.toList ds p := hA0
  rw [Try.params5] at hA hval
  obtain ⟨v0, vs0, d0, ds0, p0, q0, hargs, rfl, rfl, zh0, r0⟩ := trodAll_cons hA
  obtain ⟨rfl, rfl, rfl⟩ := trodAll_nil r0
  obtain rfl : args = #[v0] := by cases args; simp_all
  obtain ⟨rfl, rfl⟩ := trodVars_none hV
  have zk0 := zh0
  have zl0 : ∀ x ∈ p0, x.block < W.heap.size := by obtain ⟨m, hm⟩ := zk0; exact DataW.trod_lt m _ _ _ hm
  clear hA0 hval0
  obtain ⟨a_code, n_code, c_code, rfl⟩ := okWide_slice Try.underlying22 (hval 0 22 v0 rfl rfl)
  obtain ⟨code, w_code⟩ := isRow_of Try.underlying22 Try.underlying5 (by kernel_rfl) zh0
  refine (walk_FnBadness a_code n_code c_code code W w_code).mono fun e W' ⟨he, bel⟩ => ?_
  subst he
  exact ⟨_, rfl, _, _, _, [], _, [], hW', trodAll_mk1 (shut_bool Try.underlying4 _), (trodAll_cons_mk (Below.trod laid_out (by kernel_rfl) (of_decide_eq_true (by kernel_rfl)) zk0 bel zl0) trodAll_mk0), rfl, bel.frame _, fun h => by cases h⟩

/-- The statement. -/
theorem FnBadness_holds : Rows.FnBadnessSaid :=
  OpenClaim.holds_of_wide 5 Try.f5 rfl rfl rfl rfl rfl rfl rfl ⟨rfl, rfl, rfl, rfl, rfl⟩ rfl rfl rfl rfl rfl (by kernel_rfl) Try.func5 (by kernel_rfl)
    (of_decide_eq_true (by kernel_rfl)) (by unfold Func.isWrapper; first | (rw [if_pos (by decide +kernel)]; kernel_rfl) | (rw [if_neg (by decide +kernel)]; exact ⟨rfl, rfl⟩))
    (fun os started H enc _ => lifted_FnBadness os started H enc)

theorem walk_FnBadnessScale (a : Option Addr) (n c : Nat) (zs : List Int) (w : World) (hr : IsRow .u8 w a n c zs) :
    Calls Try.prog 6 #[.slice a n c] w fun e w' => e = .returned (.bool true) ∧ Below w.heap.size w w' := by
  have hm := small_row hr
  unfold maxLen at hm
  rcases (by omega : 1048576 < n ∨ n ≤ 1048576) with hn | hn
  · go_enter Try.func6, Try.ntmps6
    go_wp2
    go_ret
    exact ⟨rfl, bl_refl _⟩
  · go_enter Try.func6, Try.ntmps6
    go_wp2_with fail; refine (DrawBadness_any _ _ _ _ _ hr).mono ?_; rintro e u0 ⟨x, y, rfl, hb⟩; clear hr
    by_cases hv : (0 ≤ x ∧ x ≤ 10000) ∧ (0 ≤ y ∧ y ≤ 10000)
    · obtain ⟨⟨x0, x1⟩, y0, y1⟩ := hv
      have f0 : 0 ≤ badv x y := by rw [badv_yes ⟨x0, x1⟩ ⟨y0, y1⟩]; exact bad_nonneg x y x0 y0
      have f1 : badv x y ≤ 10000 := by rw [badv_yes ⟨x0, x1⟩ ⟨y0, y1⟩]; exact bad_le x y
      have f2 : 2 * x ≤ 10000 → 2 * y ≤ 10000 → badv (2 * x) (2 * y) = badv x y := fun h k => by
        rw [badv_yes ⟨x0, x1⟩ ⟨y0, y1⟩, badv_yes ⟨by omega, by omega⟩ ⟨by omega, by omega⟩]; exact bad_twice x y
      rcases (by omega : 10000 < 2 * x ∨ 2 * x ≤ 10000) with x2 | x2
      · clear f2
        go_wp2_with (first | (go_at_call 17; refine (Badness_i _ _ _).mono ?_; rintro e w' ⟨rfl, rfl⟩) | (go_at_call 18; refine (Badness_s _ _ _).mono ?_; rintro e w' ⟨rfl, rfl⟩))
        go_ret
        exact ⟨rfl, hb⟩
      · rcases (by omega : 10000 < 2 * y ∨ 2 * y ≤ 10000) with y2 | y2
        · clear f2
          go_wp2_with (first | (go_at_call 17; refine (Badness_i _ _ _).mono ?_; rintro e w' ⟨rfl, rfl⟩) | (go_at_call 18; refine (Badness_s _ _ _).mono ?_; rintro e w' ⟨rfl, rfl⟩))
          go_ret
          exact ⟨rfl, hb⟩
        · have g2 := f2 x2 y2
          clear f2
          go_wp2_with (first | (go_at_call 17; refine (Badness_i _ _ _).mono ?_; rintro e w' ⟨rfl, rfl⟩) | (go_at_call 18; refine (Badness_s _ _ _).mono ?_; rintro e w' ⟨rfl, rfl⟩))
          go_ret
          exact ⟨rfl, hb⟩
    · have E := hide (badv_neg hv)
      go_wp2_with (first | (go_at_call 17; refine (Badness_i _ _ _).mono ?_; rintro e w' ⟨rfl, rfl⟩; rw [E.out]) | (go_at_call 18; refine (Badness_s _ _ _).mono ?_; rintro e w' ⟨rfl, rfl⟩; rw [E.out]))
      go_ret
      exact ⟨rfl, hb⟩
set_option maxRecDepth 100000 in
theorem lifted_FnBadnessScale (os : Os) (started : os.Started) (H : Type) (enc : TypeId × Value → H) :
    ReturnsInHanded {} Try.checked os 6 .any (Rows.fnBadnessScaleSpec.pre6 enc Try.prog Try.f6 Rows.fnBadnessScaleRow.domain false) (Rows.fnBadnessScaleSpec.post enc Try.prog Try.f6 false true false false) := by
  refine returnsInHanded_of_change (C := Try.checked) own_knob started (by kernel_rfl) Try.func6
    (ChangeSpec.witness6 (enc := enc) (C := Try.checked) false ⟨#[], #[.slice none 0 0], []⟩ 8 (by kernel_rfl) (by kernel_rfl) (by kernel_rfl) (by kernel_rfl)) ?_
  intro W base args ds gs before hval0 hW hcnd _
  have hval : ∀ (j : Nat) t v, Try.f6.params[j]? = some t → args[j]? = some v → Value.okWide Try.prog W .any base t v := hval0
  have hW' := hW
  obtain ⟨p, q, hA0, hV, rfl, hfz, hnd⟩ := hW
  have hA : DataW.TrodAll enc Try.prog W 0 (fun _ => true) true Try.f6.params.toList args.toList ds p := hA0
  rw [Try.params6] at hA hval
  obtain ⟨v0, vs0, d0, ds0, p0, q0, hargs, rfl, rfl, zh0, r0⟩ := trodAll_cons hA
  obtain ⟨rfl, rfl, rfl⟩ := trodAll_nil r0
  obtain rfl : args = #[v0] := by cases args; simp_all
  obtain ⟨rfl, rfl⟩ := trodVars_none hV
  have zk0 := zh0
  have zl0 : ∀ x ∈ p0, x.block < W.heap.size := by obtain ⟨m, hm⟩ := zk0; exact DataW.trod_lt m _ _ _ hm
  clear hA0 hval0
  obtain ⟨a_code, n_code, c_code, rfl⟩ := okWide_slice Try.underlying22 (hval 0 22 v0 rfl rfl)
  obtain ⟨code, w_code⟩ := isRow_of Try.underlying22 Try.underlying5 (by kernel_rfl) zh0
  refine (walk_FnBadnessScale a_code n_code c_code code W w_code).mono fun e W' ⟨he, bel⟩ => ?_
  subst he
  exact ⟨_, rfl, _, _, _, [], _, [], hW', trodAll_mk1 (shut_bool Try.underlying4 _), (trodAll_cons_mk (Below.trod laid_out (by kernel_rfl) (of_decide_eq_true (by kernel_rfl)) zk0 bel zl0) trodAll_mk0), rfl, bel.frame _, fun h => by cases h⟩

/-- The statement. -/
theorem FnBadnessScale_holds : Rows.FnBadnessScaleSaid :=
  OpenClaim.holds_of_wide 6 Try.f6 rfl rfl rfl rfl rfl rfl rfl ⟨rfl, rfl, rfl, rfl, rfl⟩ rfl rfl rfl rfl rfl (by kernel_rfl) Try.func6 (by kernel_rfl)
    (of_decide_eq_true (by kernel_rfl)) (by unfold Func.isWrapper; first | (rw [if_pos (by decide +kernel)]; kernel_rfl) | (rw [if_neg (by decide +kernel)]; exact ⟨rfl, rfl⟩))
    (fun os started H enc _ => lifted_FnBadnessScale os started H enc)
end Go.Proofs.Ytboaegplogmlmaa
