/- StackBox and its model stack boxes alike. -/
import Derived.Test.YtonkbakoifdmiacStk
import Derived.LoopTactic
import Derived.Deep.RegionHeld3
namespace Go.Proofs.Ytonkbakoifdmiac
open Go.ChangeShapes Go.WideShapes Go.ChangeAt Go.RowKit
set_option linter.unusedVariables false

noncomputable def sov (sk : Int) (L : List Gp) : Value := if inB sk 0 10000 then fov (js sk) L else .tuple #[rv3 ⟨0, 0, 0⟩, .bool false]
theorem sov_form (sk : Int) (L : List Gp) : ∃ (x : Gp) (t : Bool), sov sk L = .tuple #[rv3 x, .bool t] := by
  unfold sov
  split
  · exact fov_form _ _
  · exact ⟨_, _, rfl⟩
set_option maxHeartbeats 2000000 in
theorem StackBox_i (w : World) (A : Option Addr) (n c : Nat) (sk : Int) (L : List Gp) (h : TL w A n L) (hn : n ≤ 4611686018427387904) :
    Calls Try.prog 17 #[.slice A n c, .int .i64 sk] w fun e w' => e = .returned (sov sk L) ∧ Below w.heap.size w w' := by
  have HI := hide h
  clear h
  cases q : inB sk 0 10000
  · have E : Hid (sov sk L = .tuple #[gv 0 0 0, .bool false]) := hide (by rw [sov, q]; rfl)
    go_enter Try.func17, Try.ntmps17
    go_wp2_with (go_at_call 47; refine (within_any _ _ _ _).mono ?_; rintro e w' ⟨rfl, rfl⟩)
    refine bodyPost_ret (v := .tuple #[gv 0 0 0, .bool false]) (by simp [results, Try.results17, go_sem, *]) rfl ⟨by rw [E.out], ?_⟩
    repeat' (first | with_reducible exact bl_refl _ | with_reducible assumption | with_reducible refine bl_alloc ?_ _ | with_reducible refine bl_set ?_ ?_ _ | with_reducible refine bl_drewN ?_ _ | with_reducible refine bl_drew ?_ | with_reducible refine bl_call (by assumption) ?_)
    all_goals (first | omega | (simp; done) | (simp; omega))
  · obtain ⟨s0, s1⟩ := inB_iff.1 q
    obtain ⟨x, t, E⟩ := fov_form (js sk) L
    obtain ⟨P, Q, R⟩ := x
    have HE : Hid (sov sk L = .tuple #[gv P Q R, .bool t]) := hide (by rw [sov, if_pos q, E])
    have FI := fun (u : World) (b1 : Nat) (hc : u.cell? ⟨b1, 0, none⟩ = some (.int .i64 sk)) (hh : TL u A n L) => fold_stack u A n c L (.pointer (some ⟨b1, 0, none⟩)) (js sk) (js_bd s0 s1) (fun u' k x y hb _ hx hy => by
      obtain ⟨_, ⟨x0, x1⟩, x2, x3⟩ := hx
      obtain ⟨_, ⟨y0, y1⟩, _⟩ := vbx_iff.1 hy
      exact stkJoin_i x.a x.b x.v y.a y.b y.v sk u' b1 (keep_cell hb hc) s0 s1 x0 (by omega) x2 x3 y0 y1) hh hn
    rw [E] at FI
    have HFI := hide FI
    clear FI E
    go_enter Try.func17, Try.ntmps17
    go_wp2_with (first | (go_at_call 47; refine (within_any _ _ _ _).mono ?_; rintro e w' ⟨rfl, rfl⟩) | (go_at_call 39; (with_reducible refine (HFI.out _ _ (by simp [go_sem]) (HI.out.below (by (repeat' (first | with_reducible exact bl_refl _ | with_reducible assumption | with_reducible refine bl_alloc ?_ _ | with_reducible refine bl_set ?_ ?_ _ | with_reducible refine bl_drewN ?_ _ | with_reducible refine bl_drew ?_ | with_reducible refine bl_call (by assumption) ?_)); (all_goals (first | omega | (simp; done) | (simp; omega)))))).mono ?_); rintro e w' ⟨rfl, hb⟩; (try (with_reducible have hb := bl_undrew hb)); obtain ⟨hc, hf⟩ := bcell hb; (try ((with_reducible have hq := bcell1 hb); obtain ⟨hc, hf⟩ := hq)); (try ((with_reducible have hq := bcell2 hb); obtain ⟨hc, hf⟩ := hq)); have hz := bl_sz hb; (try simp at hz); (try (have z0 : w.heap.size < w'.heap.size := (by omega); have y0 := Nat.le_of_lt z0)); (try (have z1 : w.heap.size + 1 < w'.heap.size := (by omega); have y1 := Nat.le_of_lt z1)); (try (have z2 : w.heap.size + 1 + 1 < w'.heap.size := (by omega); have y2 := Nat.le_of_lt z2)); (try (have z3 : w.heap.size + 1 + 1 + 1 < w'.heap.size := (by omega); have y3 := Nat.le_of_lt z3)); (try (have z4 : u1.heap.size < w'.heap.size := (by omega); have y4 := Nat.le_of_lt z4)); (try (have z5 : u1.heap.size + 1 < w'.heap.size := (by omega); have y5 := Nat.le_of_lt z5)); (try (have z6 : u2.heap.size < w'.heap.size := (by omega); have y6 := Nat.le_of_lt z6)); (try (have z7 : u2.heap.size + 1 < w'.heap.size := (by omega); have y7 := Nat.le_of_lt z7)); (try (have z8 : u3.heap.size < w'.heap.size := (by omega); have y8 := Nat.le_of_lt z8)); (try (have z9 : u3.heap.size + 1 < w'.heap.size := (by omega); have y9 := Nat.le_of_lt z9)); (try (have z10 : u4.heap.size < w'.heap.size := (by omega); have y10 := Nat.le_of_lt z10)); (try (have z11 : u4.heap.size + 1 < w'.heap.size := (by omega); have y11 := Nat.le_of_lt z11)); (try (have z12 : u5.heap.size < w'.heap.size := (by omega); have y12 := Nat.le_of_lt z12)); (try (have z13 : u5.heap.size + 1 < w'.heap.size := (by omega); have y13 := Nat.le_of_lt z13)); (try (have z14 : u6.heap.size < w'.heap.size := (by omega); have y14 := Nat.le_of_lt z14)); (try (have z15 : u6.heap.size + 1 < w'.heap.size := (by omega); have y15 := Nat.le_of_lt z15)); (try (have zg : g < w'.heap.size := (by omega); have yg := Nat.le_of_lt zg)); (try (have zc : wc.heap.size < w'.heap.size := (by omega); have yc := Nat.le_of_lt zc)); (try (have zd : wc.heap.size + 1 < w'.heap.size := (by omega); have yd := Nat.le_of_lt zd)); (first | (have _k := u7; clear _k; rename World => u8) | (have _k := u6; clear _k; rename World => u7) | (have _k := u5; clear _k; rename World => u6) | (have _k := u4; clear _k; rename World => u5) | (have _k := u3; clear _k; rename World => u4) | (have _k := u2; clear _k; rename World => u3) | (have _k := u1; clear _k; rename World => u2) | (rename World => u1))))
    refine bodyPost_ret (v := .tuple #[gv P Q R, .bool t]) (by simp [results, Try.results17, go_sem, *]) rfl ⟨by rw [HE.out], ?_⟩
    repeat' (first | with_reducible exact bl_refl _ | with_reducible assumption | with_reducible refine bl_alloc ?_ _ | with_reducible refine bl_set ?_ ?_ _ | with_reducible refine bl_drewN ?_ _ | with_reducible refine bl_drew ?_ | with_reducible refine bl_call (by assumption) ?_)
    all_goals (first | omega | (simp; done) | (simp; omega))
end Go.Proofs.Ytonkbakoifdmiac
