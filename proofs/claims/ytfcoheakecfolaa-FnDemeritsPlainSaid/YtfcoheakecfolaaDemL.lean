/- The promises on Demerits hold for every code: worse and dearer lines cost more; flags cost FlagCost; lines without penalty cost the square. No condition. -/
import Derived.Test.YtfcoheakecfolaaRead
import Derived.Test.YtfcoheakecfolaaDem
namespace Go.Proofs.Ytfcoheakecfolaa
open Go.ChangeShapes Go.WideShapes Go.ChangeAt Go.RowKit
set_option linter.unusedVariables false

theorem DrawDemerits_any (w : World) (a : Option Addr) (n c : Nat) (zs : List Int) (h : IsRow .u8 w a n c zs) :
    Calls Try.prog 15 #[.slice a n c] w fun e w' => ∃ (b p : Int) (f : Bool), (-1 ≤ b ∧ b ≤ 10001) ∧ (-1001 ≤ p ∧ p ≤ 1000) ∧ e = .returned (.tuple #[.int .i64 b, .int .i64 p, .bool f]) ∧ Below w.heap.size w w' := by
  go_enter Try.func15, Try.ntmps15
  go_wp2_with fail
  refine (newReader_any _ _ _ _ _ h).mono ?_
  rintro e u0 ⟨rfl, hrd, hb⟩
  generalize hg : w.heap.size = g at hrd
  have hz0 := hb.size
  have hlt := hrd.lt
  go_wp2_with fail
  (go_at_call 42; refine (one_any _ _ g _ _ _ (fun z => -1 ≤ z ∧ z ≤ 10001) (by first | assumption | exact RD.alloc (by assumption) _ | exact RD.drew (by assumption) | exact RD.alloc (RD.drew (by assumption)) _ | exact RD.drew (RD.alloc (by assumption) _)) (by omega) (by first | exact heap_alloc_new _ _ | (simp [go_sem]; done)) (by omega) (by rfl) (by decide) (by simp)).mono ?_; rintro e w' ⟨b, hr0, rfl, hrd, hon⟩; (try (with_reducible have hon := on_undrew hon)); have hc := on_cell hon; have hf := on_frozen hon; have hz := hon.size; (try simp at hz); (try (have z0 : w.heap.size < w'.heap.size := (by omega); have y0 := Nat.le_of_lt z0)); (try (have z1 : w.heap.size + 1 < w'.heap.size := (by omega); have y1 := Nat.le_of_lt z1)); (try (have z2 : w.heap.size + 1 + 1 < w'.heap.size := (by omega); have y2 := Nat.le_of_lt z2)); (try (have z3 : w.heap.size + 1 + 1 + 1 < w'.heap.size := (by omega); have y3 := Nat.le_of_lt z3)); (try (have z4 : u1.heap.size < w'.heap.size := (by omega); have y4 := Nat.le_of_lt z4)); (try (have z5 : u1.heap.size + 1 < w'.heap.size := (by omega); have y5 := Nat.le_of_lt z5)); (try (have z6 : u2.heap.size < w'.heap.size := (by omega); have y6 := Nat.le_of_lt z6)); (try (have z7 : u2.heap.size + 1 < w'.heap.size := (by omega); have y7 := Nat.le_of_lt z7)); (try (have z8 : u3.heap.size < w'.heap.size := (by omega); have y8 := Nat.le_of_lt z8)); (try (have z9 : u3.heap.size + 1 < w'.heap.size := (by omega); have y9 := Nat.le_of_lt z9)); (try (have z10 : u4.heap.size < w'.heap.size := (by omega); have y10 := Nat.le_of_lt z10)); (try (have z11 : u4.heap.size + 1 < w'.heap.size := (by omega); have y11 := Nat.le_of_lt z11)); (try (have z12 : u5.heap.size < w'.heap.size := (by omega); have y12 := Nat.le_of_lt z12)); (try (have z13 : u5.heap.size + 1 < w'.heap.size := (by omega); have y13 := Nat.le_of_lt z13)); (try (have z14 : u6.heap.size < w'.heap.size := (by omega); have y14 := Nat.le_of_lt z14)); (try (have z15 : u6.heap.size + 1 < w'.heap.size := (by omega); have y15 := Nat.le_of_lt z15)); (try (have zg : g < w'.heap.size := (by omega); have yg := Nat.le_of_lt zg)); (try (have zc : wc.heap.size < w'.heap.size := (by omega); have yc := Nat.le_of_lt zc)); (try (have zd : wc.heap.size + 1 < w'.heap.size := (by omega); have yd := Nat.le_of_lt zd)); (try have q0 : ¬ w'.heap.size = g := by omega); (try have q1 : ¬ w'.heap.size + 1 = g := by omega); (first | (have _k := u7; clear _k; rename World => u8) | (have _k := u6; clear _k; rename World => u7) | (have _k := u5; clear _k; rename World => u6) | (have _k := u4; clear _k; rename World => u5) | (have _k := u3; clear _k; rename World => u4) | (have _k := u2; clear _k; rename World => u3) | (have _k := u1; clear _k; rename World => u2) | (rename World => u1)))
  go_wp2_with fail
  (go_at_call 42; refine (one_any _ _ g _ _ _ (fun z => -1001 ≤ z ∧ z ≤ 1000) (by first | assumption | exact RD.alloc (by assumption) _ | exact RD.drew (by assumption) | exact RD.alloc (RD.drew (by assumption)) _ | exact RD.drew (RD.alloc (by assumption) _)) (by omega) (by first | exact heap_alloc_new _ _ | (simp [go_sem]; done)) (by omega) (by rfl) (by decide) (by simp)).mono ?_; rintro e w' ⟨p, hr0, rfl, hrd, hon⟩; (try (with_reducible have hon := on_undrew hon)); have hc := on_cell hon; have hf := on_frozen hon; have hz := hon.size; (try simp at hz); (try (have z0 : w.heap.size < w'.heap.size := (by omega); have y0 := Nat.le_of_lt z0)); (try (have z1 : w.heap.size + 1 < w'.heap.size := (by omega); have y1 := Nat.le_of_lt z1)); (try (have z2 : w.heap.size + 1 + 1 < w'.heap.size := (by omega); have y2 := Nat.le_of_lt z2)); (try (have z3 : w.heap.size + 1 + 1 + 1 < w'.heap.size := (by omega); have y3 := Nat.le_of_lt z3)); (try (have z4 : u1.heap.size < w'.heap.size := (by omega); have y4 := Nat.le_of_lt z4)); (try (have z5 : u1.heap.size + 1 < w'.heap.size := (by omega); have y5 := Nat.le_of_lt z5)); (try (have z6 : u2.heap.size < w'.heap.size := (by omega); have y6 := Nat.le_of_lt z6)); (try (have z7 : u2.heap.size + 1 < w'.heap.size := (by omega); have y7 := Nat.le_of_lt z7)); (try (have z8 : u3.heap.size < w'.heap.size := (by omega); have y8 := Nat.le_of_lt z8)); (try (have z9 : u3.heap.size + 1 < w'.heap.size := (by omega); have y9 := Nat.le_of_lt z9)); (try (have z10 : u4.heap.size < w'.heap.size := (by omega); have y10 := Nat.le_of_lt z10)); (try (have z11 : u4.heap.size + 1 < w'.heap.size := (by omega); have y11 := Nat.le_of_lt z11)); (try (have z12 : u5.heap.size < w'.heap.size := (by omega); have y12 := Nat.le_of_lt z12)); (try (have z13 : u5.heap.size + 1 < w'.heap.size := (by omega); have y13 := Nat.le_of_lt z13)); (try (have z14 : u6.heap.size < w'.heap.size := (by omega); have y14 := Nat.le_of_lt z14)); (try (have z15 : u6.heap.size + 1 < w'.heap.size := (by omega); have y15 := Nat.le_of_lt z15)); (try (have zg : g < w'.heap.size := (by omega); have yg := Nat.le_of_lt zg)); (try (have zc : wc.heap.size < w'.heap.size := (by omega); have yc := Nat.le_of_lt zc)); (try (have zd : wc.heap.size + 1 < w'.heap.size := (by omega); have yd := Nat.le_of_lt zd)); (try have q0 : ¬ w'.heap.size = g := by omega); (try have q1 : ¬ w'.heap.size + 1 = g := by omega); (first | (have _k := u7; clear _k; rename World => u8) | (have _k := u6; clear _k; rename World => u7) | (have _k := u5; clear _k; rename World => u6) | (have _k := u4; clear _k; rename World => u5) | (have _k := u3; clear _k; rename World => u4) | (have _k := u2; clear _k; rename World => u3) | (have _k := u1; clear _k; rename World => u2) | (rename World => u1)))
  go_wp2_with fail
  (go_at_call 43; refine (pick_any _ _ g _ _ (by first | assumption | exact RD.alloc (by assumption) _ | exact RD.drew (by assumption) | exact RD.alloc (RD.drew (by assumption)) _ | exact RD.drew (RD.alloc (by assumption) _)) (by omega) (by omega) (by omega)).mono ?_; rintro e w' ⟨f, hr0, hr1, rfl, hrd, hon⟩; (try (with_reducible have hon := on_undrew hon)); have hc := on_cell hon; have hf := on_frozen hon; have hz := hon.size; (try simp at hz); (try (have z0 : w.heap.size < w'.heap.size := (by omega); have y0 := Nat.le_of_lt z0)); (try (have z1 : w.heap.size + 1 < w'.heap.size := (by omega); have y1 := Nat.le_of_lt z1)); (try (have z2 : w.heap.size + 1 + 1 < w'.heap.size := (by omega); have y2 := Nat.le_of_lt z2)); (try (have z3 : w.heap.size + 1 + 1 + 1 < w'.heap.size := (by omega); have y3 := Nat.le_of_lt z3)); (try (have z4 : u1.heap.size < w'.heap.size := (by omega); have y4 := Nat.le_of_lt z4)); (try (have z5 : u1.heap.size + 1 < w'.heap.size := (by omega); have y5 := Nat.le_of_lt z5)); (try (have z6 : u2.heap.size < w'.heap.size := (by omega); have y6 := Nat.le_of_lt z6)); (try (have z7 : u2.heap.size + 1 < w'.heap.size := (by omega); have y7 := Nat.le_of_lt z7)); (try (have z8 : u3.heap.size < w'.heap.size := (by omega); have y8 := Nat.le_of_lt z8)); (try (have z9 : u3.heap.size + 1 < w'.heap.size := (by omega); have y9 := Nat.le_of_lt z9)); (try (have z10 : u4.heap.size < w'.heap.size := (by omega); have y10 := Nat.le_of_lt z10)); (try (have z11 : u4.heap.size + 1 < w'.heap.size := (by omega); have y11 := Nat.le_of_lt z11)); (try (have z12 : u5.heap.size < w'.heap.size := (by omega); have y12 := Nat.le_of_lt z12)); (try (have z13 : u5.heap.size + 1 < w'.heap.size := (by omega); have y13 := Nat.le_of_lt z13)); (try (have z14 : u6.heap.size < w'.heap.size := (by omega); have y14 := Nat.le_of_lt z14)); (try (have z15 : u6.heap.size + 1 < w'.heap.size := (by omega); have y15 := Nat.le_of_lt z15)); (try (have zg : g < w'.heap.size := (by omega); have yg := Nat.le_of_lt zg)); (try (have zc : wc.heap.size < w'.heap.size := (by omega); have yc := Nat.le_of_lt zc)); (try (have zd : wc.heap.size + 1 < w'.heap.size := (by omega); have yd := Nat.le_of_lt zd)); (try have q0 : ¬ w'.heap.size = g := by omega); (try have q1 : ¬ w'.heap.size + 1 = g := by omega); (first | (have _k := u7; clear _k; rename World => u8) | (have _k := u6; clear _k; rename World => u7) | (have _k := u5; clear _k; rename World => u6) | (have _k := u4; clear _k; rename World => u5) | (have _k := u3; clear _k; rename World => u4) | (have _k := u2; clear _k; rename World => u3) | (have _k := u1; clear _k; rename World => u2) | (rename World => u1)))
  go_wp2
  go_ret3
  refine ⟨b, p, _, by assumption, by assumption, rfl, on_new (g := g) ?_ (by omega)⟩
  repeat' (first | with_reducible exact on_refl _ _ | with_reducible refine on_alloc ?_ _ | with_reducible refine on_set ?_ ?_ _ | with_reducible refine on_drewN ?_ _ | with_reducible refine on_drew ?_ | with_reducible refine on_call (by assumption) ?_ | with_reducible refine on_below (by assumption) ?_)

theorem dem_bd (b p : Int) (f : Bool) (h : 0 ≤ b ∧ b ≤ 10000) (k : -1000 ≤ p ∧ p ≤ 999) : -1000000 ≤ dem b p f ∧ dem b p f ≤ 200000000 := by
  have a0 := sq_nn (1 + b)
  have a1 := sq_mono (a := 1 + b) (b := 10001) (by omega) (by omega)
  have c0 := sq_nn (1 + b + p)
  unfold dem
  split
  · have c1 := sq_mono (a := 1 + b + p) (b := 11000) (by omega) (by omega)
    cases f <;> simp <;> omega
  · have d0 := sq_nn p
    have d1 := sq_mono (a := -p) (b := 1000) (by omega) (by omega)
    rw [Int.neg_mul_neg] at d1
    split <;> cases f <;> simp <;> omega
theorem dem_flag (b p : Int) : dem b p true = dem b p false + 3000 := by simp [dem]
theorem dem_worse (b p : Int) (f : Bool) (h : 0 ≤ b) : dem b p f ≤ dem (b + 1) p f := by
  have a1 := sq_mono (a := 1 + b) (b := 1 + (b + 1)) (by omega) (by omega)
  unfold dem
  split
  · have a2 := sq_mono (a := 1 + b + p) (b := 1 + (b + 1) + p) (by omega) (by omega)
    omega
  · split <;> omega
theorem dem_dearer (b p : Int) (f : Bool) (h : 0 ≤ b) (k : -1000 < p) : dem b p f ≤ dem b (p + 1) f := by
  unfold dem
  rcases (by omega : 0 ≤ p ∨ p < 0) with q | q
  · have a2 := sq_mono (a := 1 + b + p) (b := 1 + b + (p + 1)) (by omega) (by omega)
    rw [if_pos q, if_pos (by omega : 0 ≤ p + 1)]
    omega
  · rw [if_neg (by omega : ¬ 0 ≤ p), if_pos k]
    rcases (by omega : p + 1 = 0 ∨ p + 1 < 0) with r | r
    · have d0 := sq_nn p
      rw [r]
      simp
      omega
    · have d1 := sq_mono (a := -(p + 1)) (b := -p) (by omega) (by omega)
      rw [Int.neg_mul_neg, Int.neg_mul_neg] at d1
      rw [if_neg (by omega : ¬ 0 ≤ p + 1), if_pos (by omega : -1000 < p + 1)]
      omega

set_option maxHeartbeats 4000000 in
theorem walk_FnDemerits (a : Option Addr) (n c : Nat) (zs : List Int) (w : World) (hr : IsRow .u8 w a n c zs) :
    Calls Try.prog 3 #[.slice a n c] w fun e w' => e = .returned (.bool true) ∧ Below w.heap.size w w' := by
  have hm := small_row hr
  unfold maxLen at hm
  rcases (by omega : 1048576 < n ∨ n ≤ 1048576) with hn | hn
  · go_enter Try.func3, Try.ntmps3
    go_wp2
    go_ret
    exact ⟨rfl, bl_refl _⟩
  · go_enter Try.func3, Try.ntmps3
    go_wp2_with fail
    refine (DrawDemerits_any _ _ _ _ _ hr).mono ?_
    rintro e u0 ⟨b, p, f, ⟨hb0, hb1⟩, ⟨hp0, hp1⟩, rfl, hb⟩
    clear hr
    by_cases hv : (0 ≤ b ∧ b ≤ 10000) ∧ (-1000 ≤ p ∧ p ≤ 999)
    · obtain ⟨⟨b0, b1⟩, p0, p1⟩ := hv
      have V : ∀ f, demv b p f = dem b p f := fun f => demv_yes f ⟨b0, b1⟩ ⟨p0, p1⟩
      have f0 : -1000000 ≤ demv b p false ∧ demv b p false ≤ 200000000 := by rw [V]; exact dem_bd b p false ⟨b0, b1⟩ ⟨p0, p1⟩
      obtain ⟨f0, f0'⟩ := f0
      have f1 : b < 10000 → demv b p f ≤ demv (b + 1) p f := fun h => by rw [V, demv_yes f ⟨by omega, by omega⟩ ⟨p0, p1⟩]; exact dem_worse b p f b0
      have f2 : -1000 < p → p < 999 → demv b p f ≤ demv b (p + 1) f := fun h h' => by rw [V, demv_yes f ⟨b0, b1⟩ ⟨by omega, by omega⟩]; exact dem_dearer b p f b0 h
      have f3 : demv b p true = demv b p false + 3000 := by rw [V, V]; exact dem_flag b p
      rw [show b + 1 = b + 1 from rfl] at f1
      clear V hb0 hb1 hp0 hp1
      rcases (by omega : b < 10000 ∨ b = 10000) with b2 | rfl
      all_goals
        (try have g1 := f1 (by omega))
        clear f1
        rcases (by omega : p = -1000 ∨ p = 999 ∨ -1000 < p ∧ p < 999) with rfl | rfl | ⟨p2, p3⟩
        all_goals
          (try have g2 := f2 (by omega) (by omega))
          clear f2
          go_wp2_with (first | (go_at_call 16; refine (Demerits_i _ _ _ _).mono ?_; rintro e w' ⟨rfl, rfl⟩) | (go_at_call 17; refine (Demerits_s _ _ _ _).mono ?_; rintro e w' ⟨rfl, rfl⟩))
          go_ret
          exact ⟨rfl, hb⟩
    · rcases (by omega : b < 0 ∨ 10000 < b ∨ 0 ≤ b ∧ b ≤ 10000 ∧ (p < -1000 ∨ 1000 ≤ p)) with q | q | ⟨q0, q1, q | q⟩
      all_goals
        clear hv
        go_wp2_with (first | (go_at_call 16; refine (Demerits_i _ _ _ _).mono ?_; rintro e w' ⟨rfl, rfl⟩) | (go_at_call 17; refine (Demerits_s _ _ _ _).mono ?_; rintro e w' ⟨rfl, rfl⟩))
        go_ret
        exact ⟨rfl, hb⟩
set_option maxRecDepth 100000 in
theorem lifted_FnDemerits (os : Os) (started : os.Started) (H : Type) (enc : TypeId × Value → H) :
    ReturnsInHanded {} Try.checked os 3 .any (Rows.fnDemeritsSpec.pre6 enc Try.prog Try.f3 Rows.fnDemeritsRow.domain false) (Rows.fnDemeritsSpec.post enc Try.prog Try.f3 false true false false) := by
  refine returnsInHanded_of_change (C := Try.checked) own_knob started (by kernel_rfl) Try.func3
    (ChangeSpec.witness6 (enc := enc) (C := Try.checked) false ⟨#[], #[.slice none 0 0], []⟩ 8 (by kernel_rfl) (by kernel_rfl) (by kernel_rfl) (by kernel_rfl)) ?_
  intro W base args ds gs before hval0 hW hcnd _
  have hval : ∀ (j : Nat) t v, Try.f3.params[j]? = some t → args[j]? = some v → Value.okWide Try.prog W .any base t v := hval0
  have hW' := hW
  obtain ⟨p, q, hA0, hV, rfl, hfz, hnd⟩ := hW
  have hA : DataW.TrodAll enc Try.prog W 0 (fun _ => true) true Try.f3.params.toList args.toList ds p := hA0
  rw [Try.params3] at hA hval
  obtain ⟨v0, vs0, d0, ds0, p0, q0, hargs, rfl, rfl, zh0, r0⟩ := trodAll_cons hA
  obtain ⟨rfl, rfl, rfl⟩ := trodAll_nil r0
  obtain rfl : args = #[v0] := by cases args; simp_all
  obtain ⟨rfl, rfl⟩ := trodVars_none hV
  have zk0 := zh0
  have zl0 : ∀ x ∈ p0, x.block < W.heap.size := by obtain ⟨m, hm⟩ := zk0; exact DataW.trod_lt m _ _ _ hm
  clear hA0 hval0
  obtain ⟨a_code, n_code, c_code, rfl⟩ := okWide_slice Try.underlying22 (hval 0 22 v0 rfl rfl)
  obtain ⟨code, w_code⟩ := isRow_of Try.underlying22 Try.underlying5 (by kernel_rfl) zh0
  refine (walk_FnDemerits a_code n_code c_code code W w_code).mono fun e W' ⟨he, bel⟩ => ?_
  subst he
  exact ⟨_, rfl, _, _, _, [], _, [], hW', trodAll_mk1 (shut_bool Try.underlying4 _), (trodAll_cons_mk (Below.trod laid_out (by kernel_rfl) (of_decide_eq_true (by kernel_rfl)) zk0 bel zl0) trodAll_mk0), rfl, bel.frame _, fun h => by cases h⟩

/-- The statement. -/
theorem FnDemerits_holds : Rows.FnDemeritsSaid :=
  OpenClaim.holds_of_wide 3 Try.f3 rfl rfl rfl rfl rfl rfl rfl ⟨rfl, rfl, rfl, rfl, rfl⟩ rfl rfl rfl rfl rfl (by kernel_rfl) Try.func3 (by kernel_rfl)
    (of_decide_eq_true (by kernel_rfl)) (by unfold Func.isWrapper; first | (rw [if_pos (by decide +kernel)]; kernel_rfl) | (rw [if_neg (by decide +kernel)]; exact ⟨rfl, rfl⟩))
    (fun os started H enc _ => lifted_FnDemerits os started H enc)

theorem walk_FnDemeritsPlain (a : Option Addr) (n c : Nat) (zs : List Int) (w : World) (hr : IsRow .u8 w a n c zs) :
    Calls Try.prog 4 #[.slice a n c] w fun e w' => e = .returned (.bool true) ∧ Below w.heap.size w w' := by
  have hm := small_row hr
  unfold maxLen at hm
  rcases (by omega : 1048576 < n ∨ n ≤ 1048576) with hn | hn
  · go_enter Try.func4, Try.ntmps4
    go_wp2
    go_ret
    exact ⟨rfl, bl_refl _⟩
  · go_enter Try.func4, Try.ntmps4
    go_wp2_with fail
    refine (DrawDemerits_any _ _ _ _ _ hr).mono ?_
    rintro e u0 ⟨b, p, f, ⟨hb0, hb1⟩, ⟨hp0, hp1⟩, rfl, hb⟩
    clear hr
    by_cases hv : 0 ≤ b ∧ b ≤ 10000
    · obtain ⟨b0, b1⟩ := hv
      have f0 : demv b 0 false = (1 + b) * (1 + b) := by rw [demv_yes false ⟨b0, b1⟩ ⟨by omega, by omega⟩]; simp [dem]
      have f1 : demv b (-1000) false = (1 + b) * (1 + b) := by rw [demv_yes false ⟨b0, b1⟩ ⟨by omega, by omega⟩]; simp [dem]
      have a0 := sq_nn (1 + b)
      have a1 := sq_mono (a := 1 + b) (b := 10001) (by omega) (by omega)
      go_wp2_with (first | (go_at_call 16; refine (Demerits_i _ _ _ _).mono ?_; rintro e w' ⟨rfl, rfl⟩) | (go_at_call 17; refine (Demerits_s _ _ _ _).mono ?_; rintro e w' ⟨rfl, rfl⟩))
      go_ret
      exact ⟨rfl, hb⟩
    · rcases (by omega : b < 0 ∨ 10000 < b) with q | q
      all_goals
        clear hv
        go_wp2_with (first | (go_at_call 16; refine (Demerits_i _ _ _ _).mono ?_; rintro e w' ⟨rfl, rfl⟩) | (go_at_call 17; refine (Demerits_s _ _ _ _).mono ?_; rintro e w' ⟨rfl, rfl⟩))
        go_ret
        exact ⟨rfl, hb⟩
set_option maxRecDepth 100000 in
theorem lifted_FnDemeritsPlain (os : Os) (started : os.Started) (H : Type) (enc : TypeId × Value → H) :
    ReturnsInHanded {} Try.checked os 4 .any (Rows.fnDemeritsPlainSpec.pre6 enc Try.prog Try.f4 Rows.fnDemeritsPlainRow.domain false) (Rows.fnDemeritsPlainSpec.post enc Try.prog Try.f4 false true false false) := by
  refine returnsInHanded_of_change (C := Try.checked) own_knob started (by kernel_rfl) Try.func4
    (ChangeSpec.witness6 (enc := enc) (C := Try.checked) false ⟨#[], #[.slice none 0 0], []⟩ 8 (by kernel_rfl) (by kernel_rfl) (by kernel_rfl) (by kernel_rfl)) ?_
  intro W base args ds gs before hval0 hW hcnd _
  have hval : ∀ (j : Nat) t v, Try.f4.params[j]? = some t → args[j]? = some v → Value.okWide Try.prog W .any base t v := hval0
  have hW' := hW
  obtain ⟨p, q, hA0, hV, rfl, hfz, hnd⟩ := hW
  have hA : DataW.TrodAll enc Try.prog W 0 (fun _ => true) true Try.f4.params.toList args.toList ds p := hA0
  rw [Try.params4] at hA hval
  obtain ⟨v0, vs0, d0, ds0, p0, q0, hargs, rfl, rfl, zh0, r0⟩ := trodAll_cons hA
  obtain ⟨rfl, rfl, rfl⟩ := trodAll_nil r0
  obtain rfl : args = #[v0] := by cases args; simp_all
  obtain ⟨rfl, rfl⟩ := trodVars_none hV
  have zk0 := zh0
  have zl0 : ∀ x ∈ p0, x.block < W.heap.size := by obtain ⟨m, hm⟩ := zk0; exact DataW.trod_lt m _ _ _ hm
  clear hA0 hval0
  obtain ⟨a_code, n_code, c_code, rfl⟩ := okWide_slice Try.underlying22 (hval 0 22 v0 rfl rfl)
  obtain ⟨code, w_code⟩ := isRow_of Try.underlying22 Try.underlying5 (by kernel_rfl) zh0
  refine (walk_FnDemeritsPlain a_code n_code c_code code W w_code).mono fun e W' ⟨he, bel⟩ => ?_
  subst he
  exact ⟨_, rfl, _, _, _, [], _, [], hW', trodAll_mk1 (shut_bool Try.underlying4 _), (trodAll_cons_mk (Below.trod laid_out (by kernel_rfl) (of_decide_eq_true (by kernel_rfl)) zk0 bel zl0) trodAll_mk0), rfl, bel.frame _, fun h => by cases h⟩

/-- The statement. -/
theorem FnDemeritsPlain_holds : Rows.FnDemeritsPlainSaid :=
  OpenClaim.holds_of_wide 4 Try.f4 rfl rfl rfl rfl rfl rfl rfl ⟨rfl, rfl, rfl, rfl, rfl⟩ rfl rfl rfl rfl rfl (by kernel_rfl) Try.func4 (by kernel_rfl)
    (of_decide_eq_true (by kernel_rfl)) (by unfold Func.isWrapper; first | (rw [if_pos (by decide +kernel)]; kernel_rfl) | (rw [if_neg (by decide +kernel)]; exact ⟨rfl, rfl⟩))
    (fun os started H enc _ => lifted_FnDemeritsPlain os started H enc)
end Go.Proofs.Ytfcoheakecfolaa
