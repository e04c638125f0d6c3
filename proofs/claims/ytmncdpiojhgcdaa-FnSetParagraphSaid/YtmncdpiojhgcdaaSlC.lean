/- The cursor of a set line, in the program: where it is, and moving it on. -/
import Derived.Test.YtmncdpiojhgcdaaSlM
import Derived.Test.YtmncdpiojhgcdaaSf
import Derived.Test.YtmncdpiojhgcdaaSb
import Derived.Deep.RegionHeld3
import Derived.Deep.CutRange
namespace Go.Proofs.Ytmncdpiojhgcdaa
open Go.ChangeShapes Go.WideShapes Go.ChangeAt Go.RowKit
set_option linter.unusedVariables false
set_option linter.unusedSimpArgs false

theorem mul_bd {n s : Int} (h1 : 0 ≤ n ∧ n ≤ 1000000) (h2 : 0 ≤ s ∧ s ≤ 1000000) : 0 ≤ n * s ∧ n * s ≤ 1000000000000 :=
  ⟨Int.mul_nonneg h1.1 h2.1, Int.le_trans (Int.mul_le_mul h1.2 h2.2 h2.1 (by omega)) (by decide)⟩
theorem share_i (n s a : Int) (w : World) (h1 : 0 ≤ n ∧ n ≤ 1000000) (h2 : 0 ≤ s ∧ s ≤ 1000000) (h3 : 0 ≤ a) :
    Calls Try.prog 152 #[.int .i64 n, .int .i64 s, .int .i64 a] w fun e w' => e = .returned (.int .i64 (shr n s a)) ∧ w = w' := by
  obtain ⟨m1, m2⟩ := mul_bd h1 h2
  by_cases h0 : a = 0
  · subst h0
    have E := hide (show shr n s 0 = 0 from rfl)
    rw [E.out]
    go_enter Try.func152, Try.ntmps152
    go_wp2
    go_ret
    exact ⟨rfl, rfl⟩
  · have E := hide (show shr n s a = n * s / a from if_neg h0)
    have g0 : (a == 0) = false := beq_eq_false_iff_ne.2 h0
    have hap : 0 < a := by omega
    rw [E.out]
    have q1 : (n * s).tdiv a = n * s / a := Int.tdiv_eq_ediv_of_nonneg m1
    have q2 : 0 ≤ n * s / a := Int.ediv_nonneg m1 h3
    have q3 : n * s / a ≤ n * s := Int.ediv_le_self _ m1
    have wm : IntKind.i64.wrap (n * s) = n * s := IntWalk.i64_in _ (by omega)
    have wq : IntKind.i64.wrap (n * s / a) = n * s / a := IntWalk.i64_in _ (by omega)
    clear h1 h2 h3 m2
    go_enter Try.func152, Try.ntmps152
    go_wp2
    go_ret
    exact ⟨rfl, rfl⟩
theorem share_s (n s a : Int) (w : World) (h1 : 0 ≤ n ∧ n ≤ 1000000) (h2 : 0 ≤ s ∧ s ≤ 1000000) (h3 : 0 ≤ a) :
    Calls Try.prog 150 #[.int .i64 n, .int .i64 s, .int .i64 a] w fun e w' => e = .returned (.int .i64 (shr n s a)) ∧ w = w' := by
  obtain ⟨m1, m2⟩ := mul_bd h1 h2
  by_cases h0 : a = 0
  · subst h0
    have E := hide (show shr n s 0 = 0 from rfl)
    rw [E.out]
    go_enter Try.func150, Try.ntmps150
    go_wp2
    go_ret
    exact ⟨rfl, rfl⟩
  · have E := hide (show shr n s a = n * s / a from if_neg h0)
    have g0 : (a == 0) = false := beq_eq_false_iff_ne.2 h0
    have hap : 0 < a := by omega
    rw [E.out]
    have q1 : (n * s).tdiv a = n * s / a := Int.tdiv_eq_ediv_of_nonneg m1
    have q2 : 0 ≤ n * s / a := Int.ediv_nonneg m1 h3
    have q3 : n * s / a ≤ n * s := Int.ediv_le_self _ m1
    have wm : IntKind.i64.wrap (n * s) = n * s := IntWalk.i64_in _ (by omega)
    have wq : IntKind.i64.wrap (n * s / a) = n * s / a := IntWalk.i64_in _ (by omega)
    clear h1 h2 h3 m2
    go_enter Try.func150, Try.ntmps150
    go_wp2
    go_ret
    exact ⟨rfl, rfl⟩
/-- A cursor at block b. -/
structure CU (u : World) (b : Nat) (W T S pw pt ps c : Int) : Prop where
  c0 : u.cell? ⟨b, 0, none⟩ = some (.int .i64 W)
  c1 : u.cell? ⟨b, 1, none⟩ = some (.int .i64 T)
  c2 : u.cell? ⟨b, 2, none⟩ = some (.int .i64 S)
  c3 : u.cell? ⟨b, 3, none⟩ = some (.int .i64 pw)
  c4 : u.cell? ⟨b, 4, none⟩ = some (.int .i64 pt)
  c5 : u.cell? ⟨b, 5, none⟩ = some (.int .i64 ps)
  c6 : u.cell? ⟨b, 6, none⟩ = some (.int .i64 c)
  f3 : u.frozen? ⟨b, 3, none⟩ = false
  f4 : u.frozen? ⟨b, 4, none⟩ = false
  f5 : u.frozen? ⟨b, 5, none⟩ = false
section
variable {u u' : World} {b n : Nat} {W T S pw pt ps c : Int}
theorem CU.lt (h : CU u b W T S pw pt ps c) : b < u.heap.size := World.block_lt_of_cell? u _ h.c0
theorem CU.kept (h : CU u b W T S pw pt ps c) {row : Option Nat} (hg : u.grownBy u' row) (hr : row ≠ some b) : CU u' b W T S pw pt ps c := by
  have hc : ∀ j, u'.cell? ⟨b, j, none⟩ = u.cell? ⟨b, j, none⟩ := fun j => hg.cell_far ⟨b, j, none⟩ h.lt (fun e => hr e.symm)
  have hf : ∀ j, u'.frozen? ⟨b, j, none⟩ = u.frozen? ⟨b, j, none⟩ := fun j => hg.frozen_far ⟨b, j, none⟩ h.lt (fun e => hr e.symm)
  exact ⟨(hc 0).trans h.c0, (hc 1).trans h.c1, (hc 2).trans h.c2, (hc 3).trans h.c3, (hc 4).trans h.c4, (hc 5).trans h.c5, (hc 6).trans h.c6, (hf 3).trans h.f3, (hf 4).trans h.f4, (hf 5).trans h.f5⟩
theorem CU.below (h : CU u b W T S pw pt ps c) (hb : Below u.heap.size u u') : CU u' b W T S pw pt ps c :=
  h.kept (row := none) ⟨hb.os, hb.tape, hb.output, hb.size, fun i hi _ => hb.block i hi⟩ (by simp)
theorem CU.drewN (h : CU u b W T S pw pt ps c) (k : Nat) : CU (u.drewN k) b W T S pw pt ps c := h.below (bl_drewN (bl_refl u) k)
theorem CU.drew (h : CU u b W T S pw pt ps c) : CU u.drew b W T S pw pt ps c := h.below (bl_drew (bl_refl u))
theorem CU.put (h : CU u b W T S pw pt ps c) (x y z : Int) : CU (((u.setCell ⟨b, 3, none⟩ (.int .i64 x)).setCell ⟨b, 4, none⟩ (.int .i64 y)).setCell ⟨b, 5, none⟩ (.int .i64 z)) b W T S x y z c := by
  obtain ⟨c0, c1, c2, c3, c4, c5, c6, f3, f4, f5⟩ := h
  constructor <;> simp [go_sem, *]
end
set_option maxRecDepth 8000 in
set_option maxHeartbeats 4000000 in
theorem position_i (w : World) {b : Nat} {W T S pw pt ps c : Int} (h : CU w b W T S pw pt ps c) (hT : 0 ≤ T ∧ T ≤ 1000000) (hS : 0 ≤ S ∧ S ≤ 1000000) (hw : 0 ≤ pw ∧ pw ≤ 1000000) (ht : 0 ≤ pt ∧ pt ≤ T) (hs : 0 ≤ ps ∧ ps ≤ S) (hc : -1000000 ≤ c ∧ c ≤ 1000000) :
    Calls Try.prog 140 #[.pointer (some ⟨b, 0, none⟩)] w fun e w' => e = .returned (.int .i64 (posn c T S pw pt ps)) ∧ ∃ j, w.drewN j = w' := by
  obtain ⟨c0, c1, c2, c3, c4, c5, c6, _, _, _⟩ := h
  obtain ⟨hT0, hT1⟩ := hT
  obtain ⟨hS0, hS1⟩ := hS
  obtain ⟨hw0, hw1⟩ := hw
  obtain ⟨ht0, ht1⟩ := ht
  obtain ⟨hs0, hs1⟩ := hs
  obtain ⟨hc0, hc1⟩ := hc
  by_cases hp : 0 < c
  · have E := hide (show posn c T S pw pt ps = pw + shr c pt T from if_pos hp)
    have HS := hide (fun u : World => share_i c pt T u ⟨by omega, hc1⟩ ⟨ht0, by omega⟩ hT0)
    have s1 := shr_nn (n := c) (s := pt) (a := T) (by omega) ht0 hT0
    have s2 := shr_le (n := c) (s := pt) (a := T) (by omega) ht0 hT0 ht1
    obtain ⟨z, hz⟩ : ∃ z, z = shr c pt T := ⟨_, rfl⟩
    rw [← hz] at E HS s1 s2
    have wz : IntKind.i64.wrap (pw + z) = pw + z := IntWalk.i64_in _ (by omega)
    clear hz
    go_enter Try.func140, Try.ntmps140
    go_upto_region 2 with fail
    refine wp_region_held_drew (S := fun u : World => u.cell? ⟨b, 0, none⟩ = some (.int .i64 W) ∧ u.cell? ⟨b, 1, none⟩ = some (.int .i64 T) ∧ u.cell? ⟨b, 2, none⟩ = some (.int .i64 S) ∧ u.cell? ⟨b, 3, none⟩ = some (.int .i64 pw) ∧ u.cell? ⟨b, 4, none⟩ = some (.int .i64 pt) ∧ u.cell? ⟨b, 5, none⟩ = some (.int .i64 ps) ∧ u.cell? ⟨b, 6, none⟩ = some (.int .i64 c)) (by kernel_rfl) (by first | (simp [go_sem, *]; done) | exact ⟨c0, c1, c2, c3, c4, c5, c6⟩) (fun hHeld => ?_)
    (first | refine tky 0 (h := ?_) | refine tkn 0 (h := ?_)); (try simp only [Act.put, tkd, tke, tkf])
    (first | refine tky 1 (h := ?_) | refine tkn 1 (h := ?_)); (try simp only [Act.put, tkd, tke, tkf])
    (first | refine tky 2 (h := ?_) | refine tkn 2 (h := ?_)); (try simp only [Act.put, tkd, tke, tkf])
    (first | refine tky 3 (h := ?_) | refine tkn 3 (h := ?_)); (try simp only [Act.put, tkd, tke, tkf])
    (first | refine tky 4 (h := ?_) | refine tkn 4 (h := ?_)); (try simp only [Act.put, tkd, tke, tkf])
    (first | refine tky 5 (h := ?_) | refine tkn 5 (h := ?_)); (try simp only [Act.put, tkd, tke, tkf])
    (first | refine tky 6 (h := ?_) | refine tkn 6 (h := ?_)); (try simp only [Act.put, tkd, tke, tkf])
    (first | refine tky 7 (h := ?_) | refine tkn 7 (h := ?_)); (try simp only [Act.put, tkd, tke, tkf])
    (first | refine tky 8 (h := ?_) | refine tkn 8 (h := ?_)); (try simp only [Act.put, tkd, tke, tkf])
    (first | refine tky 9 (h := ?_) | refine tkn 9 (h := ?_)); (try simp only [Act.put, tkd, tke, tkf])
    (first | refine tky 10 (h := ?_) | refine tkn 10 (h := ?_)); (try simp only [Act.put, tkd, tke, tkf])
    (first | refine tky 11 (h := ?_) | refine tkn 11 (h := ?_)); (try simp only [Act.put, tkd, tke, tkf])
    (first | refine tky 12 (h := ?_) | refine tkn 12 (h := ?_)); (try simp only [Act.put, tkd, tke, tkf])
    (first | refine tky 13 (h := ?_) | refine tkn 13 (h := ?_)); (try simp only [Act.put, tkd, tke, tkf])
    (first | refine tky 14 (h := ?_) | refine tkn 14 (h := ?_)); (try simp only [Act.put, tkd, tke, tkf])
    (first | refine tky 15 (h := ?_) | refine tkn 15 (h := ?_)); (try simp only [Act.put, tkd, tke, tkf])
    (first | refine tky 16 (h := ?_) | refine tkn 16 (h := ?_)); (try simp only [Act.put, tkd, tke, tkf])
    (first | refine tky 17 (h := ?_) | refine tkn 17 (h := ?_)); (try simp only [Act.put, tkd, tke, tkf])
    (first | refine tky 18 (h := ?_) | refine tkn 18 (h := ?_)); (try simp only [Act.put, tkd, tke, tkf])
    refine wpAnyH_ready (rs := [19]) (by kernel_rfl) (by simp) ?_; refine AllReadyH.cons (o := ?_) ?_ (fun K hK => ?_) AllReadyH.nil; rotate_left 1; (next => simp only [List.getElem?_toArray, List.getElem?_cons_succ, List.getElem?_cons_zero]; rfl); go_simp
    go_at_call 152
    (with_reducible refine (HS.out _).mono ?_)
    rintro e w' ⟨rfl, rfl⟩
    (try go_wp2_with fail); refine hK.out _ _ (⟨c0, c1, c2, c3, c4, c5, c6⟩) (fun hHeld => ?_); clear hK K; (try simp only [Act.put, List.setIfInBounds_toArray, List.set_cons_zero, List.set_cons_succ])
    (first | refine tky 20 (h := ?_) | refine tkn 20 (h := ?_)); (try simp only [Act.put, tkd, tke, tkf])
    (first | refine tky 21 (h := ?_) | refine tkn 21 (h := ?_)); (try simp only [Act.put, tkd, tke, tkf])
    refine wpAnyH_done (by kernel_rfl) ?_ _
    go_wp2
    go_ret
    exact ⟨by rw [E.out]; rfl, 1, rfl⟩
  · have E := hide (show posn c T S pw pt ps = pw - shr (min (-c) S) ps S from if_neg hp)
    have e1 : ¬ (0 < c) := hp
    rcases (by omega : (-c ≤ S ∧ min (-c) S = -c) ∨ (S < -c ∧ min (-c) S = S)) with ⟨g, e2⟩ | ⟨g, e2⟩
    all_goals
      rw [e2] at E
      clear e2
    · have HS := hide (fun u : World => share_i (-c) ps S u ⟨by omega, by omega⟩ ⟨hs0, by omega⟩ hS0)
      have s1 := shr_nn (n := -c) (s := ps) (a := S) (by omega) hs0 hS0
      have s2 := shr_le (n := -c) (s := ps) (a := S) (by omega) hs0 hS0 hs1
      obtain ⟨z, hz⟩ : ∃ z, z = shr (-c) ps S := ⟨_, rfl⟩
      rw [← hz] at E HS s1 s2
      have wz : IntKind.i64.wrap (pw - z) = pw - z := IntWalk.i64_in _ (by omega)
      have wn : IntKind.i64.wrap (-c) = -c := IntWalk.i64_in _ (by omega)
      have g1 : decide (S < -c) = false := decide_eq_false (by omega)
      have g2 : ¬ S < -c := by omega
      clear hz
      go_enter Try.func140, Try.ntmps140
      go_upto_region 3 with fail
      go_region_with fail
      all_goals
        go_upto_region 4 with fail
        refine wp_region_held_drew (S := fun u : World => u.cell? ⟨b, 0, none⟩ = some (.int .i64 W) ∧ u.cell? ⟨b, 1, none⟩ = some (.int .i64 T) ∧ u.cell? ⟨b, 2, none⟩ = some (.int .i64 S) ∧ u.cell? ⟨b, 3, none⟩ = some (.int .i64 pw) ∧ u.cell? ⟨b, 4, none⟩ = some (.int .i64 pt) ∧ u.cell? ⟨b, 5, none⟩ = some (.int .i64 ps) ∧ u.cell? ⟨b, 6, none⟩ = some (.int .i64 c)) (by kernel_rfl) (by first | (simp [go_sem, *]; done) | exact ⟨c0, c1, c2, c3, c4, c5, c6⟩) (fun hHeld => ?_)
        (first | refine tky 0 (h := ?_) | refine tkn 0 (h := ?_)); (try simp only [Act.put, tkd, tke, tkf])
        (first | refine tky 1 (h := ?_) | refine tkn 1 (h := ?_)); (try simp only [Act.put, tkd, tke, tkf])
        (first | refine tky 2 (h := ?_) | refine tkn 2 (h := ?_)); (try simp only [Act.put, tkd, tke, tkf])
        (first | refine tky 3 (h := ?_) | refine tkn 3 (h := ?_)); (try simp only [Act.put, tkd, tke, tkf])
        (first | refine tky 4 (h := ?_) | refine tkn 4 (h := ?_)); (try simp only [Act.put, tkd, tke, tkf])
        (first | refine tky 5 (h := ?_) | refine tkn 5 (h := ?_)); (try simp only [Act.put, tkd, tke, tkf])
        (first | refine tky 6 (h := ?_) | refine tkn 6 (h := ?_)); (try simp only [Act.put, tkd, tke, tkf])
        (first | refine tky 7 (h := ?_) | refine tkn 7 (h := ?_)); (try simp only [Act.put, tkd, tke, tkf])
        (first | refine tky 8 (h := ?_) | refine tkn 8 (h := ?_)); (try simp only [Act.put, tkd, tke, tkf])
        (first | refine tky 9 (h := ?_) | refine tkn 9 (h := ?_)); (try simp only [Act.put, tkd, tke, tkf])
        (first | refine tky 10 (h := ?_) | refine tkn 10 (h := ?_)); (try simp only [Act.put, tkd, tke, tkf])
        (first | refine tky 11 (h := ?_) | refine tkn 11 (h := ?_)); (try simp only [Act.put, tkd, tke, tkf])
        (first | refine tky 12 (h := ?_) | refine tkn 12 (h := ?_)); (try simp only [Act.put, tkd, tke, tkf])
        (first | refine tky 13 (h := ?_) | refine tkn 13 (h := ?_)); (try simp only [Act.put, tkd, tke, tkf])
        (first | refine tky 14 (h := ?_) | refine tkn 14 (h := ?_)); (try simp only [Act.put, tkd, tke, tkf])
        (first | refine tky 15 (h := ?_) | refine tkn 15 (h := ?_)); (try simp only [Act.put, tkd, tke, tkf])
        refine wpAnyH_ready (rs := [16]) (by kernel_rfl) (by simp) ?_; refine AllReadyH.cons (o := ?_) ?_ (fun K hK => ?_) AllReadyH.nil; rotate_left 1; (next => simp only [List.getElem?_toArray, List.getElem?_cons_succ, List.getElem?_cons_zero]; rfl); go_simp
        go_at_call 152
        (with_reducible refine (HS.out _).mono ?_)
        rintro e w' ⟨rfl, rfl⟩
        (try go_wp2_with fail); refine hK.out _ _ (⟨c0, c1, c2, c3, c4, c5, c6⟩) (fun hHeld => ?_); clear hK K; (try simp only [Act.put, List.setIfInBounds_toArray, List.set_cons_zero, List.set_cons_succ])
        (first | refine tky 17 (h := ?_) | refine tkn 17 (h := ?_)); (try simp only [Act.put, tkd, tke, tkf])
        (first | refine tky 18 (h := ?_) | refine tkn 18 (h := ?_)); (try simp only [Act.put, tkd, tke, tkf])
        refine wpAnyH_done (by kernel_rfl) ?_ _
        go_wp2
        go_ret
        exact ⟨by rw [E.out]; rfl, 2, rfl⟩
    · have HS := hide (fun u : World => share_i S ps S u ⟨by omega, by omega⟩ ⟨hs0, by omega⟩ hS0)
      have s1 := shr_nn (n := S) (s := ps) (a := S) (by omega) hs0 hS0
      have s2 := shr_le (n := S) (s := ps) (a := S) (by omega) hs0 hS0 hs1
      obtain ⟨z, hz⟩ : ∃ z, z = shr S ps S := ⟨_, rfl⟩
      rw [← hz] at E HS s1 s2
      have wz : IntKind.i64.wrap (pw - z) = pw - z := IntWalk.i64_in _ (by omega)
      have wn : IntKind.i64.wrap (-c) = -c := IntWalk.i64_in _ (by omega)
      have g1 : ¬ (-c ≤ S) := by omega
      clear hz
      go_enter Try.func140, Try.ntmps140
      go_upto_region 3 with fail
      go_region_with fail
      all_goals
        go_upto_region 4 with fail
        refine wp_region_held_drew (S := fun u : World => u.cell? ⟨b, 0, none⟩ = some (.int .i64 W) ∧ u.cell? ⟨b, 1, none⟩ = some (.int .i64 T) ∧ u.cell? ⟨b, 2, none⟩ = some (.int .i64 S) ∧ u.cell? ⟨b, 3, none⟩ = some (.int .i64 pw) ∧ u.cell? ⟨b, 4, none⟩ = some (.int .i64 pt) ∧ u.cell? ⟨b, 5, none⟩ = some (.int .i64 ps) ∧ u.cell? ⟨b, 6, none⟩ = some (.int .i64 c)) (by kernel_rfl) (by first | (simp [go_sem, *]; done) | exact ⟨c0, c1, c2, c3, c4, c5, c6⟩) (fun hHeld => ?_)
        (first | refine tky 0 (h := ?_) | refine tkn 0 (h := ?_)); (try simp only [Act.put, tkd, tke, tkf])
        (first | refine tky 1 (h := ?_) | refine tkn 1 (h := ?_)); (try simp only [Act.put, tkd, tke, tkf])
        (first | refine tky 2 (h := ?_) | refine tkn 2 (h := ?_)); (try simp only [Act.put, tkd, tke, tkf])
        (first | refine tky 3 (h := ?_) | refine tkn 3 (h := ?_)); (try simp only [Act.put, tkd, tke, tkf])
        (first | refine tky 4 (h := ?_) | refine tkn 4 (h := ?_)); (try simp only [Act.put, tkd, tke, tkf])
        (first | refine tky 5 (h := ?_) | refine tkn 5 (h := ?_)); (try simp only [Act.put, tkd, tke, tkf])
        (first | refine tky 6 (h := ?_) | refine tkn 6 (h := ?_)); (try simp only [Act.put, tkd, tke, tkf])
        (first | refine tky 7 (h := ?_) | refine tkn 7 (h := ?_)); (try simp only [Act.put, tkd, tke, tkf])
        (first | refine tky 8 (h := ?_) | refine tkn 8 (h := ?_)); (try simp only [Act.put, tkd, tke, tkf])
        (first | refine tky 9 (h := ?_) | refine tkn 9 (h := ?_)); (try simp only [Act.put, tkd, tke, tkf])
        (first | refine tky 10 (h := ?_) | refine tkn 10 (h := ?_)); (try simp only [Act.put, tkd, tke, tkf])
        (first | refine tky 11 (h := ?_) | refine tkn 11 (h := ?_)); (try simp only [Act.put, tkd, tke, tkf])
        (first | refine tky 12 (h := ?_) | refine tkn 12 (h := ?_)); (try simp only [Act.put, tkd, tke, tkf])
        (first | refine tky 13 (h := ?_) | refine tkn 13 (h := ?_)); (try simp only [Act.put, tkd, tke, tkf])
        (first | refine tky 14 (h := ?_) | refine tkn 14 (h := ?_)); (try simp only [Act.put, tkd, tke, tkf])
        (first | refine tky 15 (h := ?_) | refine tkn 15 (h := ?_)); (try simp only [Act.put, tkd, tke, tkf])
        refine wpAnyH_ready (rs := [16]) (by kernel_rfl) (by simp) ?_; refine AllReadyH.cons (o := ?_) ?_ (fun K hK => ?_) AllReadyH.nil; rotate_left 1; (next => simp only [List.getElem?_toArray, List.getElem?_cons_succ, List.getElem?_cons_zero]; rfl); go_simp
        go_at_call 152
        (with_reducible refine (HS.out _).mono ?_)
        rintro e w' ⟨rfl, rfl⟩
        (try go_wp2_with fail); refine hK.out _ _ (⟨c0, c1, c2, c3, c4, c5, c6⟩) (fun hHeld => ?_); clear hK K; (try simp only [Act.put, List.setIfInBounds_toArray, List.set_cons_zero, List.set_cons_succ])
        (first | refine tky 17 (h := ?_) | refine tkn 17 (h := ?_)); (try simp only [Act.put, tkd, tke, tkf])
        (first | refine tky 18 (h := ?_) | refine tkn 18 (h := ?_)); (try simp only [Act.put, tkd, tke, tkf])
        refine wpAnyH_done (by kernel_rfl) ?_ _
        go_wp2
        go_ret
        exact ⟨by rw [E.out]; rfl, 2, rfl⟩
set_option maxRecDepth 8000 in
set_option maxHeartbeats 4000000 in
theorem pass_i (w : World) {b : Nat} {W T S pw pt ps c : Int} (h : CU w b W T S pw pt ps c) (x y z : Int) (h1 : -1000000 ≤ pw ∧ pw ≤ 1000000) (h2 : -1000000 ≤ pt ∧ pt ≤ 1000000) (h3 : -1000000 ≤ ps ∧ ps ≤ 1000000) (k1 : -1000000 ≤ x ∧ x ≤ 1000000) (k2 : -1000000 ≤ y ∧ y ≤ 1000000) (k3 : -1000000 ≤ z ∧ z ≤ 1000000) :
    Calls Try.prog 141 #[.pointer (some ⟨b, 0, none⟩), gv x y z] w fun e w' => (∃ v, e = .returned v) ∧ CU w' b W T S (pw + x) (pt + y) (ps + z) c ∧ w.grownBy w' (some b) := by
  have HC := hide (h.below (bl_alloc (bl_refl w) (.cells #[.int .i64 x, .int .i64 y, .int .i64 z] 43)))
  have hl := h.lt
  have HP := hide (fun u : World => plus_big pw pt ps x y z u h1 h2 h3 k1 k2 k3)
  have r0 : (w.alloc (.cells #[.int .i64 x, .int .i64 y, .int .i64 z] 43)).cell? ⟨w.heap.size, 0, none⟩ = some (.int .i64 x) := by simp [go_sem]
  have r1 : (w.alloc (.cells #[.int .i64 x, .int .i64 y, .int .i64 z] 43)).cell? ⟨w.heap.size, 1, none⟩ = some (.int .i64 y) := by simp [go_sem]
  have r2 : (w.alloc (.cells #[.int .i64 x, .int .i64 y, .int .i64 z] 43)).cell? ⟨w.heap.size, 2, none⟩ = some (.int .i64 z) := by simp [go_sem]
  have c3 := HC.out.c3
  have c4 := HC.out.c4
  have c5 := HC.out.c5
  have HB := hide (bl_alloc (bl_refl w) (.cells #[.int .i64 x, .int .i64 y, .int .i64 z] 43))
  have hne : ¬ b = w.heap.size := by omega
  clear h h1 h2 h3 k1 k2 k3
  go_enter Try.func141, Try.ntmps141
  go_upto_region 1 with fail
  have K0 : (w.alloc (.cells #[.int .i64 x, .int .i64 y, .int .i64 z] 43)).drew.heap.size = w.heap.size + 1 := by simp
  first | (go_region_with (go_at_call 111; (with_reducible refine (HP.out _).mono ?_); rintro e u1 ⟨rfl, hb⟩; (try (with_reducible have hb := bl_undrew hb)); have HB1 := hide hb; clear hb; have CU1 := hide (HC.out.below HB1.out); have c3 := CU1.out.c3; have c4 := CU1.out.c4; have c5 := CU1.out.c5; have f3 := CU1.out.f3; have f4 := CU1.out.f4; have f5 := CU1.out.f5)) | fail
  all_goals
    go_wp2
    go_end0
    have hg0 : w.grownBy u1 (some b) := ⟨HB1.out.os.trans HB.out.os, HB1.out.tape.trans HB.out.tape, HB1.out.output.trans HB.out.output, Nat.le_trans HB.out.size HB1.out.size, fun i hi _ => (HB1.out.block i (Nat.lt_of_lt_of_le hi HB.out.size)).trans (HB.out.block i hi)⟩
    exact ⟨⟨_, rfl⟩, CU1.out.put _ _ _, on_set' (on_set' (on_set' hg0 (.inl rfl) _) (.inl rfl) _) (.inl rfl) _⟩
end Go.Proofs.Ytmncdpiojhgcdaa
