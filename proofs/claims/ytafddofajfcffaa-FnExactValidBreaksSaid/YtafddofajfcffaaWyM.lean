/- The least way among several, and its ends. -/
import Derived.Test.YtafddofajfcffaaWyE
import Derived.Test.YtafddofajfcffaaInts
namespace Go.Proofs.Ytafddofajfcffaa
open Go.ChangeShapes Go.WideShapes Go.ChangeAt Go.RowKit
set_option linter.unusedVariables false
set_option maxRecDepth 4000

/-- The order of numbers. -/
def cmpI (x y : Int) : Int := if x < y then -1 else if y < x then 1 else 0
def orI (x y : Int) : Int := if x ≠ 0 then x else y
def cmW (x y : Wy) : Int := orI (cmpI x.c y.c) (cmpI x.p y.p)
/-- The first least way. -/
def minW (m : Wy) : List Wy → Wy
  | [] => m
  | x :: l => minW (if cmW x m < 0 then x else m) l
theorem isNaN_i (x : Int) (w : World) : Calls Try.prog 161 #[.int .i64 x] w fun e w' => e = .returned (.bool false) ∧ w' = w := by
  go_enter Try.func161, Try.ntmps161
  go_wp2
  go_ret
  exact ⟨by simp, rfl⟩
theorem Compare_i (x y : Int) (w : World) : Calls Try.prog 142 #[.int .i64 x, .int .i64 y] w fun e w' => e = .returned (.int .i64 (cmpI x y)) ∧ w' = w := by
  have N := fun (x : Int) => isNaN_i x w
  rcases (by omega : x < y ∨ y < x ∨ x = y) with h | h | h
  · have E := hide (show cmpI x y = -1 by unfold cmpI; rw [if_pos h])
    go_enter Try.func142, Try.ntmps142
    go_wp2_with (go_at_call 161; (with_reducible refine (N _).mono ?_); rintro e w' ⟨rfl, rfl⟩)
    go_ret
    exact ⟨int_ret E.out.symm, rfl⟩
  · have E := hide (show cmpI x y = 1 by unfold cmpI; rw [if_neg (by omega), if_pos h])
    go_enter Try.func142, Try.ntmps142
    go_wp2_with (go_at_call 161; (with_reducible refine (N _).mono ?_); rintro e w' ⟨rfl, rfl⟩)
    go_ret
    exact ⟨int_ret E.out.symm, rfl⟩
  · subst h
    have E := hide (show cmpI x x = 0 by unfold cmpI; rw [if_neg (by omega), if_neg (by omega)])
    go_enter Try.func142, Try.ntmps142
    go_wp2_with (go_at_call 161; (with_reducible refine (N _).mono ?_); rintro e w' ⟨rfl, rfl⟩)
    go_ret
    exact ⟨int_ret E.out.symm, rfl⟩
theorem Or_i (x y : Int) (b : Nat) (w : World) (h0 : w.cell? ⟨b, 0, none⟩ = some (.int .i64 x)) (h1 : w.cell? ⟨b, 1, none⟩ = some (.int .i64 y)) : Calls Try.prog 141 #[.slice (some ⟨b, 0, none⟩) 2 2] w fun e w' => e = .returned (.int .i64 (orI x y)) ∧ w' = w := by
  have E1 := hide (fun (h : x ≠ 0) => show orI x y = x from if_pos h)
  have E2 := hide (fun (h : x = 0) => show orI x y = y from if_neg (by omega))
  obtain ⟨z, hz⟩ : ∃ z, z = orI x y := ⟨_, rfl⟩
  rw [← hz] at E1 E2 ⊢
  clear hz
  go_enter Try.func141, Try.ntmps141
  go_wp2
  go_loop [8] (fun i => ∃ p : Nat, p ≤ 2 ∧ i = .int .i64 p ∧ (1 ≤ p → x = 0) ∧ (2 ≤ p → y = 0)) (fun i => 2 - (intOf i).toNat)
  case atStart => exact ⟨0, by omega, rfl, fun h => by omega, fun h => by omega⟩
  case round =>
    obtain ⟨p, hp, rfl, hx, hy⟩ := hrel
    rcases (by omega : p = 0 ∨ p = 1 ∨ p = 2) with rfl | rfl | rfl
    · by_cases q : x = 0
      · have q0 : (x != 0) = false := by simp [q]
        have Q := hide q
        clear q E1 E2 hx hy
        go_wp2
        go_round
        case rel => exact ⟨1, by omega, rfl, fun _ => Q.out, fun h => by omega⟩
        case measure => simp [intOf]
      · have q0 : (x != 0) = true := by simp [q]
        have E := hide (E1.out q)
        clear q E1 E2 hx hy
        go_wp2
        go_ret
        exact ⟨int_ret E.out.symm, rfl⟩
    · have X := hide (hx (by omega))
      have E := hide (E2.out X.out)
      by_cases q : y = 0
      · have q0 : (y != 0) = false := by simp [q]
        have Q := hide q
        clear q E1 E2 hx hy
        go_wp2
        go_round
        case rel => exact ⟨2, by omega, rfl, fun _ => X.out, fun h => Q.out⟩
        case measure => simp [intOf]
      · have q0 : (y != 0) = true := by simp [q]
        clear q E1 E2 hx hy
        go_wp2
        go_ret
        exact ⟨int_ret E.out.symm, rfl⟩
    · have E := hide (show z = 0 by rw [E2.out (hx (by omega))]; exact hy (by omega))
      clear E1 E2 hx hy
      go_wp2
      go_ret
      exact ⟨int_ret E.out.symm, rfl⟩
set_option maxHeartbeats 2000000 in
theorem cmpWay_i (x y : Wy) (w : World) : Calls Try.prog 140 #[wyv x, wyv y] w fun e w' => e = .returned (.int .i64 (cmW x y)) ∧ Below w.heap.size w w' := by
  obtain ⟨x1, x2, x3, x4⟩ := x
  obtain ⟨y1, y2, y3, y4⟩ := y
  have E := hide (show cmW ⟨x1, x2, x3, x4⟩ ⟨y1, y2, y3, y4⟩ = orI (cmpI x3 y3) (cmpI x2 y2) from rfl)
  have C1 := hide (fun (u : World) => Compare_i x3 y3 u)
  have C2 := hide (fun (u : World) => Compare_i x2 y2 u)
  obtain ⟨a, ha⟩ : ∃ a, a = cmpI x3 y3 := ⟨_, rfl⟩
  obtain ⟨b, hb⟩ : ∃ a, a = cmpI x2 y2 := ⟨_, rfl⟩
  rw [← ha] at C1 E
  rw [← hb] at C2 E
  rw [E.out]
  clear E ha hb
  obtain ⟨V, hV⟩ : ∃ V, V = (w.alloc (.cells #[.int .i64 x1, .int .i64 x2, .int .i64 x3, .int .i64 x4] 152)).alloc (.cells #[.int .i64 y1, .int .i64 y2, .int .i64 y3, .int .i64 y4] 152) := ⟨_, rfl⟩
  have hBV : Below w.heap.size w V := by rw [hV]; exact bl_alloc (bl_alloc (bl_refl _) _) _
  have e2 : V.cell? ⟨w.heap.size, 1, none⟩ = some (.int .i64 x2) := by rw [hV]; simp [go_sem]
  have e3 : V.cell? ⟨w.heap.size, 2, none⟩ = some (.int .i64 x3) := by rw [hV]; simp [go_sem]
  have f2 : V.cell? ⟨w.heap.size + 1, 1, none⟩ = some (.int .i64 y2) := by rw [hV]; simp [go_sem]
  have f3 : V.cell? ⟨w.heap.size + 1, 2, none⟩ = some (.int .i64 y3) := by rw [hV]; simp [go_sem]
  go_enter Try.func140, Try.ntmps140
  go_wp2_with fail
  rw [← hV]
  clear hV
  have hB := bl_drew (bl_refl V)
  refine wp_region_held_drew (S := fun u : World => Below V.heap.size V u) (by kernel_rfl) (hB) (fun hHeld => ?_)
  (first | (refine wpAnyH_take (i := 0) (oi := ?_) (v := ?_) ?_ (by kernel_rfl) (by kernel_rfl) (by kernel_rfl) ?_ ?_ (by assumption) ?_; rotate_left 2; (next => simp only [List.getElem?_toArray, List.getElem?_cons_succ, List.getElem?_cons_zero]; rfl); (next => exact fun _ _ _ h => h); (next => refine Or.inl ⟨by rfl, ?_⟩; intro w hSw; (try dsimp only at hSw); go_simp; (try (with_reducible rfl)))) | (refine wpAnyH_take (i := 0) (oi := ?_) (v := undef) ?_ (by kernel_rfl) (by kernel_rfl) (by kernel_rfl) ?_ ?_ (by assumption) ?_; rotate_left 1; (next => simp only [List.getElem?_toArray, List.getElem?_cons_succ, List.getElem?_cons_zero]; rfl); (next => exact fun _ _ _ h => h); (next => exact Or.inr ⟨by rfl, rfl⟩))); (try simp only [Act.put, List.setIfInBounds_toArray, List.set_cons_zero, List.set_cons_succ])
  refine wpAnyH_take (i := 1) (oi := ?_) (v := ?_) ?_ (by kernel_rfl) (by kernel_rfl) (by kernel_rfl) ?_ ?_ (by assumption) ?_; rotate_left 2; (next => simp only [List.getElem?_toArray, List.getElem?_cons_succ, List.getElem?_cons_zero]; rfl); (next => exact fun _ _ _ h => h); (next => refine Or.inl ⟨by rfl, ?_⟩; intro w_ hSw; (try dsimp only at hSw); have e3 := keep_cell hSw e3; go_simp; (try (with_reducible rfl))); (try simp only [Act.put, List.setIfInBounds_toArray, List.set_cons_zero, List.set_cons_succ])
  (first | (refine wpAnyH_take (i := 2) (oi := ?_) (v := ?_) ?_ (by kernel_rfl) (by kernel_rfl) (by kernel_rfl) ?_ ?_ (by assumption) ?_; rotate_left 2; (next => simp only [List.getElem?_toArray, List.getElem?_cons_succ, List.getElem?_cons_zero]; rfl); (next => exact fun _ _ _ h => h); (next => refine Or.inl ⟨by rfl, ?_⟩; intro w hSw; (try dsimp only at hSw); go_simp; (try (with_reducible rfl)))) | (refine wpAnyH_take (i := 2) (oi := ?_) (v := undef) ?_ (by kernel_rfl) (by kernel_rfl) (by kernel_rfl) ?_ ?_ (by assumption) ?_; rotate_left 1; (next => simp only [List.getElem?_toArray, List.getElem?_cons_succ, List.getElem?_cons_zero]; rfl); (next => exact fun _ _ _ h => h); (next => exact Or.inr ⟨by rfl, rfl⟩))); (try simp only [Act.put, List.setIfInBounds_toArray, List.set_cons_zero, List.set_cons_succ])
  refine wpAnyH_take (i := 3) (oi := ?_) (v := ?_) ?_ (by kernel_rfl) (by kernel_rfl) (by kernel_rfl) ?_ ?_ (by assumption) ?_; rotate_left 2; (next => simp only [List.getElem?_toArray, List.getElem?_cons_succ, List.getElem?_cons_zero]; rfl); (next => exact fun _ _ _ h => h); (next => refine Or.inl ⟨by rfl, ?_⟩; intro w_ hSw; (try dsimp only at hSw); have f3 := keep_cell hSw f3; go_simp; (try (with_reducible rfl))); (try simp only [Act.put, List.setIfInBounds_toArray, List.set_cons_zero, List.set_cons_succ])
  (first | (refine wpAnyH_take (i := 5) (oi := ?_) (v := ?_) ?_ (by kernel_rfl) (by kernel_rfl) (by kernel_rfl) ?_ ?_ (by assumption) ?_; rotate_left 2; (next => simp only [List.getElem?_toArray, List.getElem?_cons_succ, List.getElem?_cons_zero]; rfl); (next => exact fun _ _ _ h => h); (next => refine Or.inl ⟨by rfl, ?_⟩; intro w hSw; (try dsimp only at hSw); go_simp; (try (with_reducible rfl)))) | (refine wpAnyH_take (i := 5) (oi := ?_) (v := undef) ?_ (by kernel_rfl) (by kernel_rfl) (by kernel_rfl) ?_ ?_ (by assumption) ?_; rotate_left 1; (next => simp only [List.getElem?_toArray, List.getElem?_cons_succ, List.getElem?_cons_zero]; rfl); (next => exact fun _ _ _ h => h); (next => exact Or.inr ⟨by rfl, rfl⟩))); (try simp only [Act.put, List.setIfInBounds_toArray, List.set_cons_zero, List.set_cons_succ])
  refine wpAnyH_take (i := 6) (oi := ?_) (v := ?_) ?_ (by kernel_rfl) (by kernel_rfl) (by kernel_rfl) ?_ ?_ (by assumption) ?_; rotate_left 2; (next => simp only [List.getElem?_toArray, List.getElem?_cons_succ, List.getElem?_cons_zero]; rfl); (next => exact fun _ _ _ h => h); (next => refine Or.inl ⟨by rfl, ?_⟩; intro w_ hSw; (try dsimp only at hSw); have e2 := keep_cell hSw e2; go_simp; (try (with_reducible rfl))); (try simp only [Act.put, List.setIfInBounds_toArray, List.set_cons_zero, List.set_cons_succ])
  (first | (refine wpAnyH_take (i := 7) (oi := ?_) (v := ?_) ?_ (by kernel_rfl) (by kernel_rfl) (by kernel_rfl) ?_ ?_ (by assumption) ?_; rotate_left 2; (next => simp only [List.getElem?_toArray, List.getElem?_cons_succ, List.getElem?_cons_zero]; rfl); (next => exact fun _ _ _ h => h); (next => refine Or.inl ⟨by rfl, ?_⟩; intro w hSw; (try dsimp only at hSw); go_simp; (try (with_reducible rfl)))) | (refine wpAnyH_take (i := 7) (oi := ?_) (v := undef) ?_ (by kernel_rfl) (by kernel_rfl) (by kernel_rfl) ?_ ?_ (by assumption) ?_; rotate_left 1; (next => simp only [List.getElem?_toArray, List.getElem?_cons_succ, List.getElem?_cons_zero]; rfl); (next => exact fun _ _ _ h => h); (next => exact Or.inr ⟨by rfl, rfl⟩))); (try simp only [Act.put, List.setIfInBounds_toArray, List.set_cons_zero, List.set_cons_succ])
  refine wpAnyH_take (i := 8) (oi := ?_) (v := ?_) ?_ (by kernel_rfl) (by kernel_rfl) (by kernel_rfl) ?_ ?_ (by assumption) ?_; rotate_left 2; (next => simp only [List.getElem?_toArray, List.getElem?_cons_succ, List.getElem?_cons_zero]; rfl); (next => exact fun _ _ _ h => h); (next => refine Or.inl ⟨by rfl, ?_⟩; intro w_ hSw; (try dsimp only at hSw); have f2 := keep_cell hSw f2; go_simp; (try (with_reducible rfl))); (try simp only [Act.put, List.setIfInBounds_toArray, List.set_cons_zero, List.set_cons_succ])
  refine wpAnyH_ready (rs := [4]) (by kernel_rfl) (by simp) ?_; refine AllReadyH.cons (o := ?_) ?_ (fun K hK => ?_) AllReadyH.nil; rotate_left 1; (next => simp only [List.getElem?_toArray, List.getElem?_cons_succ, List.getElem?_cons_zero]; rfl); go_simp
  go_at_call 142
  (with_reducible refine (C1.out _).mono ?_)
  rintro e w' ⟨rfl, rfl⟩
  (try go_wp2_with fail); refine hK.out _ _ (hB) (fun hHeld => ?_); clear hK K; (try simp only [Act.put, List.setIfInBounds_toArray, List.set_cons_zero, List.set_cons_succ])
  refine wpAnyH_ready (rs := [9]) (by kernel_rfl) (by simp) ?_; refine AllReadyH.cons (o := ?_) ?_ (fun K hK => ?_) AllReadyH.nil; rotate_left 1; (next => simp only [List.getElem?_toArray, List.getElem?_cons_succ, List.getElem?_cons_zero]; rfl); go_simp
  go_at_call 142
  (with_reducible refine (C2.out _).mono ?_)
  rintro e w' ⟨rfl, rfl⟩
  (try go_wp2_with fail); refine hK.out _ _ (hB) (fun hHeld => ?_); clear hK K; (try simp only [Act.put, List.setIfInBounds_toArray, List.set_cons_zero, List.set_cons_succ])
  refine wpAnyH_ready (rs := [10]) (by kernel_rfl) (by simp) ?_; refine AllReadyH.cons (o := ?_) ?_ (fun K hK => ?_) AllReadyH.nil; rotate_left 1; (next => simp only [List.getElem?_toArray, List.getElem?_cons_succ, List.getElem?_cons_zero]; rfl); go_simp
  (try go_wp2_with fail); refine hK.out _ _ (bl_alloc hB _) (fun hHeld => ?_); clear hK K; (try simp only [Act.put, List.setIfInBounds_toArray, List.set_cons_zero, List.set_cons_succ])
  refine wpAnyH_ready (rs := [11]) (by kernel_rfl) (by simp) ?_; refine AllReadyH.cons (o := ?_) ?_ (fun K hK => ?_) AllReadyH.nil; rotate_left 1; (next => simp only [List.getElem?_toArray, List.getElem?_cons_succ, List.getElem?_cons_zero]; rfl); go_simp
  go_at_call 141
  (with_reducible refine (Or_i a b _ _ ?_ ?_).mono ?_)
  · simp [go_sem]
  · simp [go_sem]
  rintro e w' ⟨rfl, rfl⟩
  (try go_wp2_with fail); refine hK.out _ _ (bl_alloc hB _) (fun hHeld => ?_); clear hK K; (try simp only [Act.put, List.setIfInBounds_toArray, List.set_cons_zero, List.set_cons_succ])
  (first | (refine wpAnyH_take (i := 12) (oi := ?_) (v := ?_) ?_ (by kernel_rfl) (by kernel_rfl) (by kernel_rfl) ?_ ?_ (by assumption) ?_; rotate_left 2; (next => simp only [List.getElem?_toArray, List.getElem?_cons_succ, List.getElem?_cons_zero]; rfl); (next => exact fun _ _ _ h => h); (next => refine Or.inl ⟨by rfl, ?_⟩; intro w hSw; (try dsimp only at hSw); go_simp; (try (with_reducible rfl)))) | (refine wpAnyH_take (i := 12) (oi := ?_) (v := undef) ?_ (by kernel_rfl) (by kernel_rfl) (by kernel_rfl) ?_ ?_ (by assumption) ?_; rotate_left 1; (next => simp only [List.getElem?_toArray, List.getElem?_cons_succ, List.getElem?_cons_zero]; rfl); (next => exact fun _ _ _ h => h); (next => exact Or.inr ⟨by rfl, rfl⟩))); (try simp only [Act.put, List.setIfInBounds_toArray, List.set_cons_zero, List.set_cons_succ])
  refine wpAnyH_done (by kernel_rfl) ?_ _
  go_wp2
  go_ret
  exact ⟨rfl, bl_call (bl_alloc hB _) hBV⟩
/-- A way in a block of its own. -/
structure WyC (u : World) (b : Nat) (m : Wy) : Prop where
  k1 : u.cell? ⟨b, 0, none⟩ = some (.int .i64 m.a)
  k2 : u.cell? ⟨b, 1, none⟩ = some (.int .i64 m.p)
  k3 : u.cell? ⟨b, 2, none⟩ = some (.int .i64 m.c)
  k4 : u.cell? ⟨b, 3, none⟩ = some (.int .i64 m.b)
  fz : ∀ j, j < 4 → u.frozen? ⟨b, j, none⟩ = false
theorem WyC.below {u u' : World} {b n : Nat} {m : Wy} (h : WyC u b m) (hb : Below n u u') (hn : u.heap.size ≤ n) : WyC u' b m := by
  have hb := hb.mono hn
  have hl := World.block_lt_of_cell? u _ h.k1
  exact ⟨keep_cell hb h.k1, keep_cell hb h.k2, keep_cell hb h.k3, keep_cell hb h.k4, fun j hj => (hb.frozen (p := ⟨b, j, none⟩) hl).trans (h.fz j hj)⟩
theorem WyC.put {u : World} {b : Nat} {m : Wy} (h : WyC u b m) (x : Wy) : WyC ((((u.setCell ⟨b, 0, none⟩ (.int .i64 x.a)).setCell ⟨b, 1, none⟩ (.int .i64 x.p)).setCell ⟨b, 2, none⟩ (.int .i64 x.c)).setCell ⟨b, 3, none⟩ (.int .i64 x.b)) b x := by
  obtain ⟨k1, k2, k3, k4, kf⟩ := h
  refine ⟨?_, ?_, ?_, ?_, fun j hj => by simp only [World.frozen?_setCell]; exact kf j hj⟩
  · simp [go_sem, k1, k2, k3, k4]
  · simp [go_sem, k1, k2, k3, k4]
  · simp [go_sem, k1, k2, k3, k4]
  · simp [go_sem, k1, k2, k3, k4]
set_option maxHeartbeats 4000000 in
theorem MinFunc_i (w : World) (A : Option Addr) (n c : Nat) (E : List Wy) (hE : TL w A n E) (hn : 1 ≤ n) (hn2 : n ≤ 1000000) :
    Calls Try.prog 139 #[.slice A n c, .func (.func 140) #[] #[]] w fun e w' => e = .returned (wyv (minW (tg E 0) (E.drop 1))) ∧ Below w.heap.size w w' := by
  obtain rfl : n = E.length := hE.1
  obtain ⟨b, o, rfl, hbl, d0, d1, d2, d3⟩ := hE.at4 (i := 0) (by omega)
  have HE := hide hE
  have G0 := hide (show minW (tg E 0) (E.drop 1) = minW (tg E 0) (E.drop 1) from rfl)
  obtain ⟨R, hR⟩ : ∃ R, R = minW (tg E 0) (E.drop 1) := ⟨_, rfl⟩
  rw [← hR]
  have HR := hide hR
  clear hR hE
  have hm : tg E 0 = tg E 0 := rfl
  obtain ⟨m, hm⟩ : ∃ m, m = tg E 0 := ⟨_, rfl⟩
  rw [← hm] at HR d0 d1 d2 d3
  clear hm
  obtain ⟨m1, m2, m3, m4⟩ := m
  simp only [Nat.zero_mul, Nat.add_zero] at d0 d1 d2 d3
  go_enter Try.func139, Try.ntmps139
  go_wp2
  have hz0 : ((w.alloc (.cells #[.int .i64 0, .int .i64 0, .int .i64 0, .int .i64 0] 152)).alloc (.cells #[.int .i64 m1, .int .i64 m2, .int .i64 m3, .int .i64 m4] 152)).heap.size = w.heap.size + 2 := by simp
  have B0 : Below w.heap.size w ((w.alloc (.cells #[.int .i64 0, .int .i64 0, .int .i64 0, .int .i64 0] 152)).alloc (.cells #[.int .i64 m1, .int .i64 m2, .int .i64 m3, .int .i64 m4] 152)) := bl_alloc (bl_alloc (bl_refl _) _) _
  have z0 : ∀ j, j < 4 → ((w.alloc (.cells #[.int .i64 0, .int .i64 0, .int .i64 0, .int .i64 0] 152)).alloc (.cells #[.int .i64 m1, .int .i64 m2, .int .i64 m3, .int .i64 m4] 152)).cell? ⟨w.heap.size, j, none⟩ = some (.int .i64 0) ∧ ((w.alloc (.cells #[.int .i64 0, .int .i64 0, .int .i64 0, .int .i64 0] 152)).alloc (.cells #[.int .i64 m1, .int .i64 m2, .int .i64 m3, .int .i64 m4] 152)).frozen? ⟨w.heap.size, j, none⟩ = false := fun j hj => by
    rcases (by omega : j = 0 ∨ j = 1 ∨ j = 2 ∨ j = 3) with rfl | rfl | rfl | rfl <;> simp [go_sem]
  have m0 : WyC ((w.alloc (.cells #[.int .i64 0, .int .i64 0, .int .i64 0, .int .i64 0] 152)).alloc (.cells #[.int .i64 m1, .int .i64 m2, .int .i64 m3, .int .i64 m4] 152)) (w.heap.size + 1) ⟨m1, m2, m3, m4⟩ := by
    refine ⟨?_, ?_, ?_, ?_, fun j hj => ?_⟩
    · simp [go_sem]
    · simp [go_sem]
    · simp [go_sem]
    · simp [go_sem]
    · rcases (by omega : j = 0 ∨ j = 1 ∨ j = 2 ∨ j = 3) with rfl | rfl | rfl | rfl <;> simp [go_sem]
  obtain ⟨V, hV⟩ : ∃ V, V = (w.alloc (.cells #[.int .i64 0, .int .i64 0, .int .i64 0, .int .i64 0] 152)).alloc (.cells #[.int .i64 m1, .int .i64 m2, .int .i64 m3, .int .i64 m4] 152) := ⟨_, rfl⟩
  rw [← hV] at hz0 B0 z0 m0 ⊢
  have Z0 := hide z0
  have M0 := hide m0
  clear hV z0 m0 d0 d1 d2 d3
  go_loopw [6] (fun i u => ∃ (p : Nat) (m : Wy), 1 ≤ p ∧ p ≤ E.length ∧ i = .int .i64 p ∧ R = minW m (E.drop p) ∧ WyC u (w.heap.size + 1) m ∧ (∀ j, j < 4 → u.cell? ⟨w.heap.size, j, none⟩ = some (.int .i64 0) ∧ u.frozen? ⟨w.heap.size, j, none⟩ = false) ∧ w.heap.size + 2 ≤ u.heap.size ∧ Below w.heap.size w u) (fun i _ => E.length - (intOf i).toNat)
  case atStart => exact ⟨1, ⟨m1, m2, m3, m4⟩, by omega, hn, rfl, HR.out, M0.out, Z0.out, by omega, B0⟩
  case round =>
    obtain ⟨p, m, hp1, hp, rfl, hr, hm, hz, hzu, hbl⟩ := hrel
    have HRR := hide hr
    have HM := hide hm
    have HZ := hide hz
    have HBL := hide hbl
    obtain ⟨m1, m2, m3, m4⟩ := m
    obtain ⟨k1, k2, k3, k4, kf⟩ := hm
    simp only at k1 k2 k3 k4
    clear hr hz hbl
    by_cases hlt : p < E.length
    · obtain ⟨b', o', he, _, d0, d1, d2, d3⟩ := (HE.out.below HBL.out).at4 hlt
      injection he with he
      cases he
      have hbw : b < wr.heap.size := by have := HBL.out.size; omega
      have ex := drop_tgW hlt
      rw [ex] at HRR
      have CM := hide (fun (u : World) => cmpWay_i (tg E p) ⟨m1, m2, m3, m4⟩ u)
      have RL := hide (fun (h : cmW (tg E p) ⟨m1, m2, m3, m4⟩ < 0) => show minW ⟨m1, m2, m3, m4⟩ (tg E p :: E.drop (p + 1)) = minW (tg E p) (E.drop (p + 1)) by simp only [minW]; rw [if_pos h])
      have RG := hide (fun (h : 0 ≤ cmW (tg E p) ⟨m1, m2, m3, m4⟩) => show minW ⟨m1, m2, m3, m4⟩ (tg E p :: E.drop (p + 1)) = minW ⟨m1, m2, m3, m4⟩ (E.drop (p + 1)) by simp only [minW]; rw [if_neg (by omega)])
      obtain ⟨y, hy⟩ : ∃ y, y = tg E p := ⟨_, rfl⟩
      rw [← hy] at d0 d1 d2 d3 HRR CM RL RG
      clear hy ex
      obtain ⟨y1, y2, y3, y4⟩ := y
      simp only at d0 d1 d2 d3
      obtain ⟨z, hz⟩ : ∃ z, z = cmW ⟨y1, y2, y3, y4⟩ ⟨m1, m2, m3, m4⟩ := ⟨_, rfl⟩
      rw [← hz] at CM RL RG
      clear hz
      have hB := bl_drew (bl_refl wr)
      rcases (by omega : z < 0 ∨ 0 ≤ z) with q | q
      · have q0 : decide (z < 0) = true := decide_eq_true q
        have R1 := hide (HRR.out.trans (RL.out q))
        clear RL RG
        go_upto_region 7 with fail
        refine wp_region_held_drew (S := fun u : World => Below wr.heap.size wr u) (by kernel_rfl) (hB) (fun hHeld => ?_); (first | (refine wpAnyH_take (i := 0) (oi := ?_) (v := ?_) ?_ (by kernel_rfl) (by kernel_rfl) (by kernel_rfl) ?_ ?_ (by assumption) ?_; rotate_left 2; (next => simp only [List.getElem?_toArray, List.getElem?_cons_succ, List.getElem?_cons_zero]; rfl); (next => exact fun _ _ _ h => h); (next => refine Or.inl ⟨by rfl, ?_⟩; intro w hSw; (try dsimp only at hSw); go_simp; (try (with_reducible rfl)))) | (refine wpAnyH_take (i := 0) (oi := ?_) (v := undef) ?_ (by kernel_rfl) (by kernel_rfl) (by kernel_rfl) ?_ ?_ (by assumption) ?_; rotate_left 1; (next => simp only [List.getElem?_toArray, List.getElem?_cons_succ, List.getElem?_cons_zero]; rfl); (next => exact fun _ _ _ h => h); (next => exact Or.inr ⟨by rfl, rfl⟩))); (try simp only [Act.put, List.setIfInBounds_toArray, List.set_cons_zero, List.set_cons_succ]); (first | (refine wpAnyH_take (i := 1) (oi := ?_) (v := ?_) ?_ (by kernel_rfl) (by kernel_rfl) (by kernel_rfl) ?_ ?_ (by assumption) ?_; rotate_left 2; (next => simp only [List.getElem?_toArray, List.getElem?_cons_succ, List.getElem?_cons_zero]; rfl); (next => exact fun _ _ _ h => h); (next => refine Or.inl ⟨by rfl, ?_⟩; intro w hSw; (try dsimp only at hSw); go_simp; (try (with_reducible rfl)))) | (refine wpAnyH_take (i := 1) (oi := ?_) (v := undef) ?_ (by kernel_rfl) (by kernel_rfl) (by kernel_rfl) ?_ ?_ (by assumption) ?_; rotate_left 1; (next => simp only [List.getElem?_toArray, List.getElem?_cons_succ, List.getElem?_cons_zero]; rfl); (next => exact fun _ _ _ h => h); (next => exact Or.inr ⟨by rfl, rfl⟩))); (try simp only [Act.put, List.setIfInBounds_toArray, List.set_cons_zero, List.set_cons_succ]); (first | (refine wpAnyH_take (i := 2) (oi := ?_) (v := ?_) ?_ (by kernel_rfl) (by kernel_rfl) (by kernel_rfl) ?_ ?_ (by assumption) ?_; rotate_left 2; (next => simp only [List.getElem?_toArray, List.getElem?_cons_succ, List.getElem?_cons_zero]; rfl); (next => exact fun _ _ _ h => h); (next => refine Or.inl ⟨by rfl, ?_⟩; intro w hSw; (try dsimp only at hSw); go_simp; (try (with_reducible rfl)))) | (refine wpAnyH_take (i := 2) (oi := ?_) (v := undef) ?_ (by kernel_rfl) (by kernel_rfl) (by kernel_rfl) ?_ ?_ (by assumption) ?_; rotate_left 1; (next => simp only [List.getElem?_toArray, List.getElem?_cons_succ, List.getElem?_cons_zero]; rfl); (next => exact fun _ _ _ h => h); (next => exact Or.inr ⟨by rfl, rfl⟩))); (try simp only [Act.put, List.setIfInBounds_toArray, List.set_cons_zero, List.set_cons_succ]); (first | (refine wpAnyH_take (i := 3) (oi := ?_) (v := ?_) ?_ (by kernel_rfl) (by kernel_rfl) (by kernel_rfl) ?_ ?_ (by assumption) ?_; rotate_left 2; (next => simp only [List.getElem?_toArray, List.getElem?_cons_succ, List.getElem?_cons_zero]; rfl); (next => exact fun _ _ _ h => h); (next => refine Or.inl ⟨by rfl, ?_⟩; intro w hSw; (try dsimp only at hSw); go_simp; (try (with_reducible rfl)))) | (refine wpAnyH_take (i := 3) (oi := ?_) (v := undef) ?_ (by kernel_rfl) (by kernel_rfl) (by kernel_rfl) ?_ ?_ (by assumption) ?_; rotate_left 1; (next => simp only [List.getElem?_toArray, List.getElem?_cons_succ, List.getElem?_cons_zero]; rfl); (next => exact fun _ _ _ h => h); (next => exact Or.inr ⟨by rfl, rfl⟩))); (try simp only [Act.put, List.setIfInBounds_toArray, List.set_cons_zero, List.set_cons_succ]); refine wpAnyH_take (i := 4) (oi := ?_) (v := ?_) ?_ (by kernel_rfl) (by kernel_rfl) (by kernel_rfl) ?_ ?_ (by assumption) ?_; rotate_left 2; (next => simp only [List.getElem?_toArray, List.getElem?_cons_succ, List.getElem?_cons_zero]; rfl); (next => exact fun _ _ _ h => h); (next => refine Or.inl ⟨by rfl, ?_⟩; intro w_ hSw; (try dsimp only at hSw); obtain ⟨d0, d1, d2, d3⟩ := (⟨keep_cell hSw d0, keep_cell hSw d1, keep_cell hSw d2, keep_cell hSw d3⟩ : _ ∧ _ ∧ _ ∧ _); go_simp; (try (with_reducible rfl))); (try simp only [Act.put, List.setIfInBounds_toArray, List.set_cons_zero, List.set_cons_succ]); refine wpAnyH_take (i := 5) (oi := ?_) (v := ?_) ?_ (by kernel_rfl) (by kernel_rfl) (by kernel_rfl) ?_ ?_ (by assumption) ?_; rotate_left 2; (next => simp only [List.getElem?_toArray, List.getElem?_cons_succ, List.getElem?_cons_zero]; rfl); (next => exact fun _ _ _ h => h); (next => refine Or.inl ⟨by rfl, ?_⟩; intro w_ hSw; (try dsimp only at hSw); obtain ⟨k1, k2, k3, k4⟩ := (⟨keep_cell hSw k1, keep_cell hSw k2, keep_cell hSw k3, keep_cell hSw k4⟩ : _ ∧ _ ∧ _ ∧ _); go_simp; (try (with_reducible rfl))); (try simp only [Act.put, List.setIfInBounds_toArray, List.set_cons_zero, List.set_cons_succ]); refine wpAnyH_ready (rs := [6]) (by kernel_rfl) (by simp) ?_; refine AllReadyH.cons (o := ?_) ?_ (fun K hK => ?_) AllReadyH.nil; rotate_left 1; (next => simp only [List.getElem?_toArray, List.getElem?_cons_succ, List.getElem?_cons_zero]; rfl); go_simp; go_at_call 140; (with_reducible refine (CM.out _).mono ?_); rintro e u1 ⟨rfl, hb⟩; have hb1 := bl_undrew hb; have hz1 := hb1.size; (try go_wp2_with fail); refine hK.out _ _ (hb1) (fun hHeld => ?_); clear hK K; (try simp only [Act.put, List.setIfInBounds_toArray, List.set_cons_zero, List.set_cons_succ]); (first | (refine wpAnyH_take (i := 7) (oi := ?_) (v := ?_) ?_ (by kernel_rfl) (by kernel_rfl) (by kernel_rfl) ?_ ?_ (by assumption) ?_; rotate_left 2; (next => simp only [List.getElem?_toArray, List.getElem?_cons_succ, List.getElem?_cons_zero]; rfl); (next => exact fun _ _ _ h => h); (next => refine Or.inl ⟨by rfl, ?_⟩; intro w hSw; (try dsimp only at hSw); go_simp; (try (with_reducible rfl)))) | (refine wpAnyH_take (i := 7) (oi := ?_) (v := undef) ?_ (by kernel_rfl) (by kernel_rfl) (by kernel_rfl) ?_ ?_ (by assumption) ?_; rotate_left 1; (next => simp only [List.getElem?_toArray, List.getElem?_cons_succ, List.getElem?_cons_zero]; rfl); (next => exact fun _ _ _ h => h); (next => exact Or.inr ⟨by rfl, rfl⟩))); (try simp only [Act.put, List.setIfInBounds_toArray, List.set_cons_zero, List.set_cons_succ]); refine wpAnyH_done (by kernel_rfl) ?_ _
        have d0 := keep_cell hb1 d0
        have d1 := keep_cell hb1 d1
        have d2 := keep_cell hb1 d2
        have d3 := keep_cell hb1 d3
        have MU := hide (HM.out.below hb1 (Nat.le_refl _))
        obtain ⟨k1, k2, k3, k4, kf⟩ := MU.out
        have kf0 := kf 0 (by omega)
        have kf1 := kf 1 (by omega)
        have kf2 := kf 2 (by omega)
        have kf3 := kf 3 (by omega)
        clear kf
        go_wp2
        go_roundw
        case rel =>
          refine ⟨p + 1, ⟨y1, y2, y3, y4⟩, by omega, by omega, by go_num, R1.out, MU.out.put ⟨y1, y2, y3, y4⟩, fun j hj => ⟨?_, ?_⟩, by simp; omega, bl_set (bl_set (bl_set (bl_set (bl_call hb1 HBL.out) (show w.heap.size ≤ w.heap.size + 1 by omega) _) (show w.heap.size ≤ w.heap.size + 1 by omega) _) (show w.heap.size ≤ w.heap.size + 1 by omega) _) (show w.heap.size ≤ w.heap.size + 1 by omega) _⟩
          · have hne : ∀ (o1 o2 : Nat), (⟨w.heap.size, o1, none⟩ : Addr) ≠ ⟨w.heap.size + 1, o2, none⟩ := fun o1 o2 e => by injection e with e; omega
            exact keep_set (keep_set (keep_set (keep_set (keep_cell hb1 (HZ.out j hj).1) (hne _ _) _) (hne _ _) _) (hne _ _) _) (hne _ _) _
          · simp only [World.frozen?_setCell]
            exact (hb1.frozen (p := ⟨w.heap.size, j, none⟩) (show w.heap.size < wr.heap.size by omega)).trans (HZ.out j hj).2
        case measure => simp [intOf]; omega
      · have q0 : decide (z < 0) = false := decide_eq_false (by omega)
        have R1 := hide (HRR.out.trans (RG.out q))
        clear RL RG
        go_upto_region 7 with fail
        refine wp_region_held_drew (S := fun u : World => Below wr.heap.size wr u) (by kernel_rfl) (hB) (fun hHeld => ?_); (first | (refine wpAnyH_take (i := 0) (oi := ?_) (v := ?_) ?_ (by kernel_rfl) (by kernel_rfl) (by kernel_rfl) ?_ ?_ (by assumption) ?_; rotate_left 2; (next => simp only [List.getElem?_toArray, List.getElem?_cons_succ, List.getElem?_cons_zero]; rfl); (next => exact fun _ _ _ h => h); (next => refine Or.inl ⟨by rfl, ?_⟩; intro w hSw; (try dsimp only at hSw); go_simp; (try (with_reducible rfl)))) | (refine wpAnyH_take (i := 0) (oi := ?_) (v := undef) ?_ (by kernel_rfl) (by kernel_rfl) (by kernel_rfl) ?_ ?_ (by assumption) ?_; rotate_left 1; (next => simp only [List.getElem?_toArray, List.getElem?_cons_succ, List.getElem?_cons_zero]; rfl); (next => exact fun _ _ _ h => h); (next => exact Or.inr ⟨by rfl, rfl⟩))); (try simp only [Act.put, List.setIfInBounds_toArray, List.set_cons_zero, List.set_cons_succ]); (first | (refine wpAnyH_take (i := 1) (oi := ?_) (v := ?_) ?_ (by kernel_rfl) (by kernel_rfl) (by kernel_rfl) ?_ ?_ (by assumption) ?_; rotate_left 2; (next => simp only [List.getElem?_toArray, List.getElem?_cons_succ, List.getElem?_cons_zero]; rfl); (next => exact fun _ _ _ h => h); (next => refine Or.inl ⟨by rfl, ?_⟩; intro w hSw; (try dsimp only at hSw); go_simp; (try (with_reducible rfl)))) | (refine wpAnyH_take (i := 1) (oi := ?_) (v := undef) ?_ (by kernel_rfl) (by kernel_rfl) (by kernel_rfl) ?_ ?_ (by assumption) ?_; rotate_left 1; (next => simp only [List.getElem?_toArray, List.getElem?_cons_succ, List.getElem?_cons_zero]; rfl); (next => exact fun _ _ _ h => h); (next => exact Or.inr ⟨by rfl, rfl⟩))); (try simp only [Act.put, List.setIfInBounds_toArray, List.set_cons_zero, List.set_cons_succ]); (first | (refine wpAnyH_take (i := 2) (oi := ?_) (v := ?_) ?_ (by kernel_rfl) (by kernel_rfl) (by kernel_rfl) ?_ ?_ (by assumption) ?_; rotate_left 2; (next => simp only [List.getElem?_toArray, List.getElem?_cons_succ, List.getElem?_cons_zero]; rfl); (next => exact fun _ _ _ h => h); (next => refine Or.inl ⟨by rfl, ?_⟩; intro w hSw; (try dsimp only at hSw); go_simp; (try (with_reducible rfl)))) | (refine wpAnyH_take (i := 2) (oi := ?_) (v := undef) ?_ (by kernel_rfl) (by kernel_rfl) (by kernel_rfl) ?_ ?_ (by assumption) ?_; rotate_left 1; (next => simp only [List.getElem?_toArray, List.getElem?_cons_succ, List.getElem?_cons_zero]; rfl); (next => exact fun _ _ _ h => h); (next => exact Or.inr ⟨by rfl, rfl⟩))); (try simp only [Act.put, List.setIfInBounds_toArray, List.set_cons_zero, List.set_cons_succ]); (first | (refine wpAnyH_take (i := 3) (oi := ?_) (v := ?_) ?_ (by kernel_rfl) (by kernel_rfl) (by kernel_rfl) ?_ ?_ (by assumption) ?_; rotate_left 2; (next => simp only [List.getElem?_toArray, List.getElem?_cons_succ, List.getElem?_cons_zero]; rfl); (next => exact fun _ _ _ h => h); (next => refine Or.inl ⟨by rfl, ?_⟩; intro w hSw; (try dsimp only at hSw); go_simp; (try (with_reducible rfl)))) | (refine wpAnyH_take (i := 3) (oi := ?_) (v := undef) ?_ (by kernel_rfl) (by kernel_rfl) (by kernel_rfl) ?_ ?_ (by assumption) ?_; rotate_left 1; (next => simp only [List.getElem?_toArray, List.getElem?_cons_succ, List.getElem?_cons_zero]; rfl); (next => exact fun _ _ _ h => h); (next => exact Or.inr ⟨by rfl, rfl⟩))); (try simp only [Act.put, List.setIfInBounds_toArray, List.set_cons_zero, List.set_cons_succ]); refine wpAnyH_take (i := 4) (oi := ?_) (v := ?_) ?_ (by kernel_rfl) (by kernel_rfl) (by kernel_rfl) ?_ ?_ (by assumption) ?_; rotate_left 2; (next => simp only [List.getElem?_toArray, List.getElem?_cons_succ, List.getElem?_cons_zero]; rfl); (next => exact fun _ _ _ h => h); (next => refine Or.inl ⟨by rfl, ?_⟩; intro w_ hSw; (try dsimp only at hSw); obtain ⟨d0, d1, d2, d3⟩ := (⟨keep_cell hSw d0, keep_cell hSw d1, keep_cell hSw d2, keep_cell hSw d3⟩ : _ ∧ _ ∧ _ ∧ _); go_simp; (try (with_reducible rfl))); (try simp only [Act.put, List.setIfInBounds_toArray, List.set_cons_zero, List.set_cons_succ]); refine wpAnyH_take (i := 5) (oi := ?_) (v := ?_) ?_ (by kernel_rfl) (by kernel_rfl) (by kernel_rfl) ?_ ?_ (by assumption) ?_; rotate_left 2; (next => simp only [List.getElem?_toArray, List.getElem?_cons_succ, List.getElem?_cons_zero]; rfl); (next => exact fun _ _ _ h => h); (next => refine Or.inl ⟨by rfl, ?_⟩; intro w_ hSw; (try dsimp only at hSw); obtain ⟨k1, k2, k3, k4⟩ := (⟨keep_cell hSw k1, keep_cell hSw k2, keep_cell hSw k3, keep_cell hSw k4⟩ : _ ∧ _ ∧ _ ∧ _); go_simp; (try (with_reducible rfl))); (try simp only [Act.put, List.setIfInBounds_toArray, List.set_cons_zero, List.set_cons_succ]); refine wpAnyH_ready (rs := [6]) (by kernel_rfl) (by simp) ?_; refine AllReadyH.cons (o := ?_) ?_ (fun K hK => ?_) AllReadyH.nil; rotate_left 1; (next => simp only [List.getElem?_toArray, List.getElem?_cons_succ, List.getElem?_cons_zero]; rfl); go_simp; go_at_call 140; (with_reducible refine (CM.out _).mono ?_); rintro e u1 ⟨rfl, hb⟩; have hb1 := bl_undrew hb; have hz1 := hb1.size; (try go_wp2_with fail); refine hK.out _ _ (hb1) (fun hHeld => ?_); clear hK K; (try simp only [Act.put, List.setIfInBounds_toArray, List.set_cons_zero, List.set_cons_succ]); (first | (refine wpAnyH_take (i := 7) (oi := ?_) (v := ?_) ?_ (by kernel_rfl) (by kernel_rfl) (by kernel_rfl) ?_ ?_ (by assumption) ?_; rotate_left 2; (next => simp only [List.getElem?_toArray, List.getElem?_cons_succ, List.getElem?_cons_zero]; rfl); (next => exact fun _ _ _ h => h); (next => refine Or.inl ⟨by rfl, ?_⟩; intro w hSw; (try dsimp only at hSw); go_simp; (try (with_reducible rfl)))) | (refine wpAnyH_take (i := 7) (oi := ?_) (v := undef) ?_ (by kernel_rfl) (by kernel_rfl) (by kernel_rfl) ?_ ?_ (by assumption) ?_; rotate_left 1; (next => simp only [List.getElem?_toArray, List.getElem?_cons_succ, List.getElem?_cons_zero]; rfl); (next => exact fun _ _ _ h => h); (next => exact Or.inr ⟨by rfl, rfl⟩))); (try simp only [Act.put, List.setIfInBounds_toArray, List.set_cons_zero, List.set_cons_succ]); refine wpAnyH_done (by kernel_rfl) ?_ _
        go_wp2
        go_roundw
        case rel => exact ⟨p + 1, ⟨m1, m2, m3, m4⟩, by omega, by omega, by go_num, R1.out, HM.out.below hb1 (Nat.le_refl _), fun j hj => ⟨keep_cell hb1 (HZ.out j hj).1, (hb1.frozen (p := ⟨w.heap.size, j, none⟩) (show w.heap.size < wr.heap.size by omega)).trans (HZ.out j hj).2⟩, by omega, bl_call hb1 HBL.out⟩
        case measure => simp [intOf]; omega
    · obtain rfl : p = E.length := by omega
      have R1 := hide (show R = ⟨m1, m2, m3, m4⟩ by rw [HRR.out, List.drop_length]; rfl)
      have g0 := (HZ.out 0 (by omega)).1
      have g1 := (HZ.out 1 (by omega)).1
      have g2 := (HZ.out 2 (by omega)).1
      have g3 := (HZ.out 3 (by omega)).1
      have j0 := (HZ.out 0 (by omega)).2
      have j1 := (HZ.out 1 (by omega)).2
      have j2 := (HZ.out 2 (by omega)).2
      have j3 := (HZ.out 3 (by omega)).2
      go_wp2
      refine bodyPost_ret (v := wyv ⟨m1, m2, m3, m4⟩) (by simp [results, Try.results139, go_sem, *]) rfl ?_
      exact ⟨by rw [R1.out], bl_set (bl_set (bl_set (bl_set HBL.out (Nat.le_refl _) _) (Nat.le_refl _) _) (Nat.le_refl _) _) (Nat.le_refl _) _⟩
end Go.Proofs.Ytafddofajfcffaa
