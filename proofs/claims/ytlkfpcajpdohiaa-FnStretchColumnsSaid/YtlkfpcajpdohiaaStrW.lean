/- StretchColumns answers as its model does: the parts. -/
import Derived.Test.YtlkfpcajpdohiaaStrM
import Derived.Test.YtlkfpcajpdohiaaRep
import Derived.Test.YtlkfpcajpdohiaaAllW
import Derived.Test.YtlkfpcajpdohiaaFillW
namespace Go.Proofs.Ytlkfpcajpdohiaa
open Go.ChangeShapes Go.WideShapes Go.ChangeAt Go.RowKit
set_option linter.unusedVariables false
set_option linter.unusedSimpArgs false
set_option maxRecDepth 4000

/-- What a function leaves that returns a list of numbers that it made. -/
def RetL (w : World) (l : List Int) (e : Ending) (w' : World) : Prop := ∃ A c, e = .returned (.slice A l.length c) ∧ OL w' 3 w.heap.size A c l ∧ Below w.heap.size w w'
theorem RetL.no {w w' : World} {l : List Int} (h : l = []) (hb : Below w.heap.size w w') : RetL w l (.returned (.slice none 0 0)) w' := by
  subst h
  exact ⟨none, 0, rfl, OL.nil _ _ _, hb⟩
def scV (l : List Int) (m : Int) : List Int := if okLen l 1 8 0 10000 && inB m (sl l) 10000 then stl l m else []
theorem scV_len (l : List Int) (m : Int) : (scV l m).length ≤ 41 := by
  unfold scV
  split
  · rename_i h
    simp only [Bool.and_eq_true] at h
    have := (okLen_iff.1 h.1).1
    rw [stl_len]
    omega
  · simp
theorem scV_bad {l : List Int} {m : Int} (h : okLen l 1 8 0 10000 = false) : scV l m = [] := by simp [scV, h]
theorem scV_off {l : List Int} {m : Int} (h : inB m (sl l) 10000 = false) : scV l m = [] := by simp [scV, h]
theorem scV_yes {l : List Int} {m : Int} (h : okLen l 1 8 0 10000 = true) (h2 : inB m (sl l) 10000 = true) : scV l m = stl l m := by simp [scV, h, h2]
theorem sl_bd {l : List Int} (h : ∀ j, j < l.length → 0 ≤ ng l j ∧ ng l j ≤ 10000) (h8 : l.length ≤ 8) : 0 ≤ sl l ∧ sl l ≤ 80000 := by
  have := pfx_bd h (Nat.le_refl _)
  rw [pfx_all] at this
  omega
theorem prt_bd {l : List Int} (h : ∀ j, j < l.length → 0 ≤ ng l j ∧ ng l j ≤ 10000) : ∀ j, j < (prt l).length → 0 ≤ ng (prt l) j ∧ ng (prt l) j ≤ 10000 := by
  intro j hj
  unfold prt at hj ⊢
  split
  · rename_i q
    rw [if_pos q] at hj
    rw [ng_lt hj]
    simp
  · rename_i q
    rw [if_neg q] at hj
    exact h j hj

theorem share_i (t x a : Int) (w : World) (t0 : 0 ≤ t) (t1 : t ≤ 10000) (x0 : 0 ≤ x) (x1 : x ≤ 80000) (a0 : 0 < a) :
    Calls Try.prog 85 #[.int .i64 t, .int .i64 x, .int .i64 a] w fun e w' => e = .returned (.int .i64 (t * x / a)) ∧ w = w' := by
  have p0 : 0 ≤ t * x := Int.mul_nonneg t0 x0
  have p1 : t * x ≤ 10000 * 80000 := Int.mul_le_mul t1 x1 x0 (by omega)
  have hw : IntKind.i64.wrap (t * x) = t * x := IntWalk.i64_in _ (by omega)
  have ha : (a == 0) = false := beq_eq_false_iff_ne.2 (by omega)
  have d0 : 0 ≤ t * x / a := Int.ediv_nonneg p0 (by omega)
  have d1 : t * x / a ≤ t * x := Int.ediv_le_self _ p0
  have e1 : (t * x).tdiv a = t * x / a := Int.tdiv_eq_ediv_of_nonneg p0
  have hw2 : IntKind.i64.wrap (t * x / a) = t * x / a := IntWalk.i64_in _ (by omega)
  go_enter Try.func85, Try.ntmps85
  go_wp2
  go_ret
  exact ⟨rfl, rfl⟩
theorem brd_bd {l : List Int} {t : Int} (h : ∀ j, j < l.length → 0 ≤ ng l j ∧ ng l j ≤ 10000) (h1 : 1 ≤ l.length) (h8 : l.length ≤ 8) (t0 : 0 ≤ t) (t1 : t ≤ 10000) {k : Nat} (hk : k ≤ l.length) :
    (0 ≤ pfx (prt l) k ∧ pfx (prt l) k ≤ 80000) ∧ 0 ≤ brd l t k ∧ brd l t k ≤ 800000000 := by
  have b := pfx_bd (prt_bd h) (show k ≤ (prt l).length by rw [prt_len]; exact hk)
  have hp := (prt_pos (fun j hj => (h j hj).1) h1).1
  have x1 : pfx (prt l) k ≤ 80000 := by omega
  have p0 : 0 ≤ t * pfx (prt l) k := Int.mul_nonneg t0 b.1
  have p1 : t * pfx (prt l) k ≤ 10000 * 80000 := Int.mul_le_mul t1 x1 b.1 (by omega)
  have d0 : 0 ≤ brd l t k := Int.ediv_nonneg p0 (by omega)
  have d1 : brd l t k ≤ t * pfx (prt l) k := Int.ediv_le_self _ p0
  exact ⟨⟨b.1, x1⟩, d0, by omega⟩

/- UNFINISHED (NOTES.md, 'Half done'): how the walk of StretchColumns begins; its two invalid ways pass, the valid one is open.
-- @def ARMS = @ @CP{i.validColumns;validColumns_i _ _ _ _ _ HA.out hn} | (go_at_call @ i.sumOf; (with_reducible refine (sumOf_i _ _ _ _ l HA.out (by omega) HB5.out).mono ?_); rintro e w' ⟨rfl, rfl⟩) | @ @CP{i.within;within_any _ _ _ _}
-- @def LOOP = skip
set_option maxHeartbeats 2000000 in
theorem StretchColumns_i (w : World) (A : Option Addr) (n c : Nat) (l : List Int) (m : Int) (ha : IL w A n l) (hn : n ≤ 4611686018427387904) (hnc : n ≤ c) :
    Calls Try.prog @ i.StretchColumns #[.slice A n c, .int .i64 m] w (RetL w (scV l m)) := by
  obtain rfl : n = l.length := ha.1
  have HA := hide ha
  clear ha
  cases q : okLen l 1 8 0 10000
  · have E := hide (scV_bad (m := m) q)
    @ @EN{i.StretchColumns}
    go_wp2_with @ @CP{i.validColumns;validColumns_i _ _ _ _ _ HA.out hn}
    go_ret
    exact RetL.no E.out (bl_refl _)
  · obtain ⟨⟨k1, k2⟩, hel⟩ := okLen_iff.1 q
    have hb := sl_bd hel (by omega)
    have HB5 : Hid (∀ j, j < l.length → 0 ≤ ng l j ∧ ng l j ≤ 100000) := hide (fun j hj => by have := hel j hj; omega)
    have HEL := hide hel
    clear hel
    cases q2 : inB m (sl l) 10000
    · have E := hide (scV_off (l := l) q2)
      @ @EN{i.StretchColumns}
      go_wp2_with (first | @ @ARMS)
      go_ret
      exact RetL.no E.out (bl_refl _)
    · obtain ⟨m0, m1⟩ := inB_iff.1 q2
      obtain ⟨hb0, hb1⟩ := hb
      have E := hide (scV_yes q q2)
      obtain ⟨i0, hi0, hz0, hz1, hz2⟩ := info_parts int_info
      have HP := hide (prt_pos (fun j hj => (HEL.out j hj).1) (by omega : 1 ≤ l.length)).1
      have PB := hide (prt_bd HEL.out)
      have PL := hide (prt_len l)
      obtain ⟨S, hS⟩ : ∃ S, S = sl l := ⟨_, rfl⟩
      have key : ∀ (PW : World) (PA : Option Addr) (d : Nat), Hid (IL PW PA l.length (prt l)) → Hid (Below w.heap.size w PW) → True := fun _ _ _ _ _ => trivial
      rcases (by omega : sl l = 0 ∨ ¬ sl l = 0) with h0 | h0
      · have hpr : Hid (prt l = List.replicate l.length 1) := hide (by simp [prt, h0])
        have hc1 : ∀ u : World, (u.alloc (.cells #[.int .i64 1] @ t{int})).cell? ⟨u.heap.size, 0, none⟩ = some (.int .i64 1) := fun u => World.cell?_alloc_at _ _ _ _ rfl
        have z0 : (sl l == 0) = true := by rw [h0]; rfl
        @ @EN{i.StretchColumns}
        go_wp2_with (first | @ @ARMS)
        skip
        fail
      · fail
-/
end Go.Proofs.Ytlkfpcajpdohiaa
