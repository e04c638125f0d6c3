/- Drawn heights and ends of columns. -/
import Derived.Test.YtkclecfjpabplaaDrawH
import Derived.Test.YtkclecfjpabplaaDrawE
namespace Go.Proofs.Ytkclecfjpabplaa
open Go.ChangeShapes Go.WideShapes Go.ChangeAt Go.RowKit
set_option linter.unusedVariables false
set_option maxRecDepth 4000

theorem bl_onC {w u v : World} {g : Nat} (hb : Below w.heap.size w u) (hg : u.grownBy v (some g)) (hl : w.heap.size ≤ g) : Below w.heap.size w v :=
  hb.grown hg hb.size (fun k hk => by cases hk; exact hl)
theorem DrawCheckColumns_any (w : World) (a : Option Addr) (n c : Nat) (zs : List Int) (h : IsRow .u8 w a n c zs) :
    Calls Try.prog 21 #[.slice a n c] w fun e w' => ∃ (A : Option Addr) (c : Nat) (l : List Int) (B : Option Addr) (d : Nat) (E : List Int), e = .returned (.tuple #[.slice A l.length c, .slice B E.length d]) ∧ OL w' 3 w.heap.size A c l ∧ OL w' 3 w.heap.size B d E ∧ l.length ≤ 10 ∧ E.length ≤ 10 ∧ Below w.heap.size w w' := by
  go_enter Try.func21, Try.ntmps21
  go_wp2_with fail
  (with_reducible refine (newReader_any _ _ _ _ _ h).mono ?_)
  rintro e u0 ⟨rfl, hrd, hb⟩
  have hz0 := hrd.2.1
  go_wp2_with fail
  (with_reducible refine (someHeights_any _ _ _ _ hrd (by omega) (by omega)).mono ?_)
  rintro e u1 ⟨A, c1, l, rfl, hol, hll, hel, hrd1, hon1⟩
  have hz1 := hon1.size
  go_wp2_with fail
  (with_reducible refine (someEnds_any _ _ _ _ l.length hrd1 (by omega) (by omega) (by omega)).mono ?_)
  rintro e u2 ⟨B, c2, E, rfl, hoE, hlE, heE, hrd2, hon2⟩
  have H1 := hide ((hol.read hon2 (by omega)).more (B' := w.heap.size) (by omega))
  have H2 := hide (hoE.more (B' := w.heap.size) (by omega))
  have HB := hide (bl_onC (bl_onC hb hon1 (Nat.le_refl _)) hon2 (Nat.le_refl _))
  clear hol hoE hon1 hon2 hb hel heE
  go_wp2
  go_ret2
  exact ⟨A, c1, l, B, c2, E, rfl, H1.out, H2.out, hll, by omega, HB.out⟩
theorem DrawBalanced_any (w : World) (a : Option Addr) (n c : Nat) (zs : List Int) (h : IsRow .u8 w a n c zs) :
    Calls Try.prog 28 #[.slice a n c] w fun e w' => ∃ (A : Option Addr) (c : Nat) (l : List Int) (x : Int) (B : Option Addr) (d : Nat) (E : List Int), e = .returned (.tuple #[.slice A l.length c, .int .i64 x, .slice B E.length d]) ∧ OL w' 3 w.heap.size A c l ∧ OL w' 3 w.heap.size B d E ∧ l.length ≤ 10 ∧ (1 ≤ x ∧ x ≤ 5) ∧ E.length ≤ 10 ∧ Below w.heap.size w w' := by
  go_enter Try.func28, Try.ntmps28
  go_wp2_with fail
  (with_reducible refine (newReader_any _ _ _ _ _ h).mono ?_)
  rintro e u0 ⟨rfl, hrd, hb⟩
  have hz0 := hrd.2.1
  go_wp2_with fail
  (with_reducible refine (someHeights_any _ _ _ _ hrd (by omega) (by omega)).mono ?_)
  rintro e u1 ⟨A, c1, l, rfl, hol, hll, hel, hrd1, hon1⟩
  have hz1 := hon1.size
  go_wp2_with fail
  (with_reducible refine (pick_any _ _ _ _ _ hrd1 (by omega) (by omega) (by omega)).mono ?_)
  rintro e u3 ⟨s, hs0, hs1, rfl, hrd3, hon3⟩
  have hz3 := hon3.size
  go_wp2_with fail
  (with_reducible refine (someEnds_any _ _ _ _ l.length hrd3 (by omega) (by omega) (by omega)).mono ?_)
  rintro e u2 ⟨B, c2, E, rfl, hoE, hlE, heE, hrd2, hon2⟩
  have H1 := hide (((hol.read hon3 (by omega)).read hon2 (by omega)).more (B' := w.heap.size) (by omega))
  have H2 := hide (hoE.more (B' := w.heap.size) (by omega))
  have HB := hide (bl_onC (bl_onC (bl_onC hb hon1 (Nat.le_refl _)) hon3 (Nat.le_refl _)) hon2 (Nat.le_refl _))
  clear hol hoE hon1 hon2 hon3 hb hel heE
  go_wp2
  go_ret3
  exact ⟨A, c1, l, 1 + s, B, c2, E, rfl, H1.out, H2.out, hll, by omega, by omega, HB.out⟩
end Go.Proofs.Ytkclecfjpabplaa
