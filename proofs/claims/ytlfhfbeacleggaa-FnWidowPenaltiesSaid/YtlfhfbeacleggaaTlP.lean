/- The sums of penalties of lines: the maths; drawn sizes and heights. -/
import Derived.Test.YtlfhfbeacleggaaTlM
import Derived.Test.YtlfhfbeacleggaaCw
import Derived.Test.YtlfhfbeacleggaaDrawCw
namespace Go.Proofs.Ytlfhfbeacleggaa
open Go.ChangeShapes Go.WideShapes Go.ChangeAt Go.RowKit
set_option linter.unusedVariables false
open Classical

/-- The sum over the lines that are chosen. -/
def tw (g : Nat → Bool) (p : Nat → Int) : Nat → Int
  | 0 => 0
  | n + 1 => tw g p n + if g n = true then p n else 0
theorem tw_add {g : Nat → Bool} {p q : Nat → Int} {a : Nat} {x : Int} (h : ∀ j, q j = p j + (if j = a then x else 0)) : ∀ n, tw g q n = tw g p n + (if a < n ∧ g a = true then x else 0)
  | 0 => by simp [tw]
  | n + 1 => by
    have IH := tw_add (g := g) h n
    simp only [tw]
    rw [IH, h n]
    by_cases e : n = a
    · subst e
      by_cases k : g n = true
      · simp [k]; omega
      · simp [k]
    · have c1 : (a < n + 1 ∧ g a = true) ↔ (a < n ∧ g a = true) := by constructor <;> rintro ⟨x, y⟩ <;> exact ⟨by omega, y⟩
      rw [if_neg e]
      simp only [c1]
      split <;> split <;> omega
theorem tw_zero {g : Nat → Bool} : ∀ n, tw g (fun _ => 0) n = 0
  | 0 => rfl
  | n + 1 => by simp [tw, tw_zero n]
theorem tw_bd {g : Nat → Bool} {p : Nat → Int} (h : ∀ j, 0 ≤ p j ∧ p j ≤ 250) : ∀ n, 0 ≤ tw g p n ∧ tw g p n ≤ 250 * (n : Int)
  | 0 => by simp [tw]
  | n + 1 => by
    have := tw_bd (g := g) h n
    have := h n
    simp only [tw]
    split <;> omega
theorem tw_all {l : List Int} (ok : PosTo l l.length) (g : Nat → Bool) : ∀ {i : Nat}, i ≤ l.length →
    tw g (pnT l i) (fiL l l.length) = 100 * ((svL l i).countP (fun x => g x.1.toNat) : Int) + 150 * ((svL l i).countP (fun x => g (x.2.toNat - 1)) : Int)
  | 0, _ => by simp [svL, pnT, tw_zero]
  | i + 1, hi => by
    have IH := tw_all ok g (i := i) (by omega)
    by_cases q : 1 < ng l i
    · have h1 := fiL_succ ok (i := i) (by omega)
      have h2 := fiL_mono ok (i := i + 1) hi (Nat.le_refl _)
      have h3 := fiL_pfx ok (i := i) (by omega)
      have e1 := tw_add (g := g) (p := pnT l i) (q := fun j => pnT l i j + (if j = fiL l i then 100 else 0)) (fun j => rfl) (fiL l l.length)
      have e2 := tw_add (g := g) (p := fun j => pnT l i j + (if j = fiL l i then 100 else 0)) (q := pnT l (i + 1)) (a := fiL l i + (ng l i).toNat - 2) (x := 150) (fun j => by
        rw [pnT_two q]
        have : (j + 2 = fiL l i + (ng l i).toNat) ↔ j = fiL l i + (ng l i).toNat - 2 := by omega
        simp only [this]) (fiL l l.length)
      have hsv : svL l (i + 1) = svL l i ++ [(pfx l i, pfx l i + ng l i - 1)] := by simp only [svL]; rw [if_pos q]
      have t1 : (pfx l i).toNat = fiL l i := rfl
      have t2 : (pfx l i + ng l i - 1).toNat - 1 = fiL l i + (ng l i).toNat - 2 := by omega
      have b1 : fiL l i < fiL l l.length := by omega
      have b2 : fiL l i + (ng l i).toNat - 2 < fiL l l.length := by omega
      rw [e2, e1, IH, hsv, List.countP_append, List.countP_append, List.countP_singleton, List.countP_singleton]
      simp only [t1, t2, b1, b2, true_and]
      repeat' split
      all_goals omega
    · rw [svL_no q, ← IH]
      congr 1
      funext j
      exact pnT_one q j
theorem pnT_250 {l : List Int} (ok : PosTo l l.length) : ∀ {i : Nat}, i ≤ l.length → ∀ j, 0 ≤ pnT l i j ∧ pnT l i j ≤ 250
  | 0, _, j => by simp [pnT]
  | i + 1, hi, j => by
    have IH := pnT_250 ok (i := i) (by omega) j
    rcases (by omega : j < fiL l i ∨ fiL l i ≤ j) with e | e
    · rw [pnT_near ok e (by omega) hi]; exact IH
    · have := pnT_far ok (i := i) (by omega) e
      simp only [pnT]
      rw [this]
      split <;> split <;> omega
theorem DrawTextLines_any (w : World) (a : Option Addr) (n c : Nat) (zs : List Int) (h : IsRow .u8 w a n c zs) :
    Calls Try.prog 39 #[.slice a n c] w fun e w' => ∃ (A : Option Addr) (c : Nat) (l : List Int) (z : Int), e = .returned (.tuple #[.slice A l.length c, .int .i64 z]) ∧ OL w' 3 w.heap.size A c l ∧ l.length ≤ 10 ∧ (∀ j, j < l.length → -1 ≤ ng l j ∧ ng l j ≤ 41) ∧ Below w.heap.size w w' := by
  go_enter Try.func39, Try.ntmps39
  go_wp2_with fail
  (with_reducible refine (newReader_any _ _ _ _ _ h).mono ?_)
  rintro e u0 ⟨rfl, hrd, hb⟩
  have hgl : w.heap.size < u0.heap.size := hrd.lt
  go_wp2_with fail
  (with_reducible refine (someSizes_any _ _ _ _ hrd (by omega) (by omega)).mono ?_)
  rintro e u1 ⟨A, c1, l, rfl, hol, hll, hel, hrd1, hon1⟩
  have hz1 := hon1.size
  have HEL := hide hel
  have O1 := hide (on_call hon1 (on_below hb (on_refl w (some w.heap.size))))
  clear hon1 hb h hel hrd
  go_wp2_with fail
  refine (one_any _ _ _ _ _ _ (fun _ => True) (hrd1.alloc _) (by omega) (by exact heap_alloc_new _ _) (by omega) (by rfl) (by decide) (by simp)).mono ?_
  rintro e u2 ⟨z, _, rfl, hrd2, hon2⟩
  have HO := hide ((OL.read (hol.alloc _) hon2 (by omega)).more (B' := w.heap.size) (by omega))
  have O2 := hide (on_call hon2 (on_alloc O1.out _))
  clear hol hon2 hrd1 hrd2
  go_wp2
  go_ret2
  exact ⟨A, c1, l, z, rfl, HO.out, hll, HEL.out, on_new O2.out (Nat.le_refl _)⟩
end Go.Proofs.Ytlfhfbeacleggaa
