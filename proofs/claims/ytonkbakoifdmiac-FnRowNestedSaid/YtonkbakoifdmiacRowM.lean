/- Rows of boxes as sums and maxima. -/
import Derived.Test.YtonkbakoifdmiacBoxM
namespace Go.Proofs.Ytonkbakoifdmiac
open Go.ChangeShapes Go.WideShapes Go.ChangeAt Go.RowKit
set_option linter.unusedVariables false
open Classical

def sA (L : List Gp) : Int := L.foldr (fun x s => x.a + s) 0
def mB (L : List Gp) : Int := L.foldr (fun x s => max x.b s) 0
def mV (L : List Gp) : Int := L.foldr (fun x s => max x.v s) 0
theorem mB_pos (L : List Gp) : 0 ≤ mB L := by
  induction L with
  | nil => simp [mB]
  | cons x L ih => show 0 ≤ max x.b (mB L); omega
theorem mV_pos (L : List Gp) : 0 ≤ mV L := by
  induction L with
  | nil => simp [mV]
  | cons x L ih => show 0 ≤ max x.v (mV L); omega
theorem sA_app (L M : List Gp) : sA (L ++ M) = sA L + sA M := by
  induction L with
  | nil => simp [sA]
  | cons x L ih => show x.a + sA (L ++ M) = x.a + sA L + sA M; omega
theorem mB_app (L M : List Gp) : mB (L ++ M) = max (mB L) (mB M) := by
  induction L with
  | nil => have := mB_pos M; show mB M = max 0 (mB M); omega
  | cons x L ih => show max x.b (mB (L ++ M)) = max (max x.b (mB L)) (mB M); omega
theorem mV_app (L M : List Gp) : mV (L ++ M) = max (mV L) (mV M) := by
  induction L with
  | nil => have := mV_pos M; show mV M = max 0 (mV M); omega
  | cons x L ih => show max x.v (mV (L ++ M)) = max (max x.v (mV L)) (mV M); omega
theorem one_sum (x : Gp) : sA [x] = x.a ∧ mB [x] = max x.b 0 ∧ mV [x] = max x.v 0 := by simp [sA, mB, mV]
theorem rev_sum (L : List Gp) : sA L.reverse = sA L ∧ mB L.reverse = mB L ∧ mV L.reverse = mV L := by
  induction L with
  | nil => simp
  | cons x L ih =>
    obtain ⟨h1, h2, h3⟩ := ih
    obtain ⟨o1, o2, o3⟩ := one_sum x
    have p1 := mB_pos L
    have p2 := mV_pos L
    rw [List.reverse_cons, sA_app, mB_app, mV_app, h1, h2, h3, o1, o2, o3]
    refine ⟨?_, ?_, ?_⟩
    · show _ = x.a + sA L; omega
    · show _ = max x.b (mB L); omega
    · show _ = max x.v (mV L); omega
theorem fo_sums {L : List Gp} {k : Nat} (hk : k ≤ L.length) (h : BTo L k) : fo jr L k = ⟨sA (L.take k), mB (L.take k), mV (L.take k)⟩ := by
  induction k with
  | zero => simp [fo, sA, mB, mV]
  | succ k ih =>
    have hlt : k < L.length := hk
    rw [fo_jr h, ih (by omega) (fun i hi => h i (by omega)), List.take_add_one, tg_get hlt]
    simp only [Option.toList_some]
    obtain ⟨o1, o2, o3⟩ := one_sum (tg L k)
    have p1 := mB_pos (L.take k)
    have p2 := mV_pos (L.take k)
    rw [sA_app, mB_app, mV_app, o1, o2, o3]
    have q1 : max (mB (L.take k)) (tg L k).b = max (mB (L.take k)) (max (tg L k).b 0) := by omega
    have q2 : max (mV (L.take k)) (tg L k).v = max (mV (L.take k)) (max (tg L k).v 0) := by omega
    show (⟨sA (L.take k) + (tg L k).a, max (mB (L.take k)) (tg L k).b, max (mV (L.take k)) (tg L k).v⟩ : Gp) = _
    rw [q1, q2]
theorem fo_all {L : List Gp} (h : BTo L L.length) : fo jr L L.length = ⟨sA L, mB L, mV L⟩ := by
  have := fo_sums (Nat.le_refl L.length) h
  rwa [List.take_length] at this
theorem BTo_mem {L : List Gp} : BTo L L.length ↔ ∀ x ∈ L, vbx x = true := by
  constructor
  · intro h x hx
    obtain ⟨i, hi, e⟩ := List.getElem_of_mem hx
    have := h i hi
    rwa [tg_lt hi, e] at this
  · intro h i hi
    exact h _ (tg_mem hi)
theorem sA_pos {L : List Gp} (h : ∀ x ∈ L, vbx x = true) : 0 ≤ sA L := by
  induction L with
  | nil => simp [sA]
  | cons x L ih =>
    have h1 := vbx_iff.1 (h x (List.mem_cons_self ..))
    have h2 := ih (fun y hy => h y (List.mem_cons_of_mem _ hy))
    show 0 ≤ x.a + sA L
    omega
theorem mB_ge {L : List Gp} {x : Gp} (h : x ∈ L) : x.b ≤ mB L ∧ x.v ≤ mV L := by
  induction L with
  | nil => cases h
  | cons y L ih =>
    rcases List.mem_cons.1 h with rfl | h
    · constructor
      · show x.b ≤ max x.b (mB L); omega
      · show x.v ≤ max x.v (mV L); omega
    · have := ih h
      constructor
      · show x.b ≤ max y.b (mB L); omega
      · show x.v ≤ max y.v (mV L); omega
theorem fob_iff {L : List Gp} : fob jr L = true ↔ (L.length ≤ 20 ∧ ∀ x ∈ L, vbx x = true) ∧ (sA L ≤ 10000 ∧ mB L ≤ 10000 ∧ mV L ≤ 10000) := by
  unfold fob
  rw [Bool.and_eq_true, bok_iff, BTo_mem]
  constructor
  · rintro ⟨h, h2⟩
    rw [fo_all (BTo_mem.2 h.2), vbx_iff] at h2
    exact ⟨h, h2.1.2, h2.2.1.2, h2.2.2.2⟩
  · rintro ⟨h, h1, h2, h3⟩
    refine ⟨h, ?_⟩
    rw [fo_all (BTo_mem.2 h.2), vbx_iff]
    exact ⟨⟨sA_pos h.2, h1⟩, ⟨mB_pos L, h2⟩, ⟨mV_pos L, h3⟩⟩
theorem fov_sums {L : List Gp} (h : fob jr L = true) : fov jr L = .tuple #[rv3 ⟨sA L, mB L, mV L⟩, .bool true] := by
  rw [fov_yes h, fo_all (BTo_mem.2 (fob_iff.1 h).1.2)]
theorem fov_rev {L : List Gp} (h : fob jr L = true) : fov jr L.reverse = .tuple #[rv3 ⟨sA L, mB L, mV L⟩, .bool true] := by
  obtain ⟨⟨h1, h2⟩, h3⟩ := fob_iff.1 h
  obtain ⟨r1, r2, r3⟩ := rev_sum L
  have : fob jr L.reverse = true := fob_iff.2 ⟨⟨by simpa using h1, fun x hx => h2 x (by simpa using hx)⟩, by rw [r1, r2, r3]; exact h3⟩
  rw [fov_sums this, r1, r2, r3]
/-- The parts of a row. -/
theorem fov_parts {L : List Gp} {k : Nat} (h : fob jr L = true) (hk : k ≤ L.length) : ∃ x y : Gp, fov jr (L.take k) = .tuple #[rv3 x, .bool true] ∧ fov jr (L.drop k) = .tuple #[rv3 y, .bool true] ∧ fov jr [x, y] = .tuple #[rv3 ⟨sA L, mB L, mV L⟩, .bool true] := by
  obtain ⟨⟨h1, h2⟩, h3, h4, h5⟩ := fob_iff.1 h
  have e1 : sA L = sA (L.take k) + sA (L.drop k) := by rw [← sA_app, List.take_append_drop]
  have e2 : mB L = max (mB (L.take k)) (mB (L.drop k)) := by rw [← mB_app, List.take_append_drop]
  have e3 : mV L = max (mV (L.take k)) (mV (L.drop k)) := by rw [← mV_app, List.take_append_drop]
  have t1 : ∀ x ∈ L.take k, vbx x = true := fun x hx => h2 x (List.mem_of_mem_take hx)
  have t2 : ∀ x ∈ L.drop k, vbx x = true := fun x hx => h2 x (List.mem_of_mem_drop hx)
  have p1 := sA_pos t1
  have p2 := sA_pos t2
  have q1 := mB_pos (L.take k)
  have q2 := mB_pos (L.drop k)
  have r1 := mV_pos (L.take k)
  have r2 := mV_pos (L.drop k)
  have f1 : fob jr (L.take k) = true := fob_iff.2 ⟨⟨by rw [List.length_take]; omega, t1⟩, by omega, by omega, by omega⟩
  have f2 : fob jr (L.drop k) = true := fob_iff.2 ⟨⟨by rw [List.length_drop]; omega, t2⟩, by omega, by omega, by omega⟩
  refine ⟨_, _, fov_sums f1, fov_sums f2, ?_⟩
  have g1 : ∀ z ∈ [(⟨sA (L.take k), mB (L.take k), mV (L.take k)⟩ : Gp), ⟨sA (L.drop k), mB (L.drop k), mV (L.drop k)⟩], vbx z = true := by
    intro z hz
    simp at hz
    rcases hz with rfl | rfl
    · exact vbx_iff.2 ⟨⟨p1, by show sA (L.take k) ≤ 10000; omega⟩, ⟨q1, by show mB (L.take k) ≤ 10000; omega⟩, ⟨r1, by show mV (L.take k) ≤ 10000; omega⟩⟩
    · exact vbx_iff.2 ⟨⟨p2, by show sA (L.drop k) ≤ 10000; omega⟩, ⟨q2, by show mB (L.drop k) ≤ 10000; omega⟩, ⟨r2, by show mV (L.drop k) ≤ 10000; omega⟩⟩
  have s1 : sA [(⟨sA (L.take k), mB (L.take k), mV (L.take k)⟩ : Gp), ⟨sA (L.drop k), mB (L.drop k), mV (L.drop k)⟩] = sA L := by
    rw [e1]; simp [sA]
  have s2 : mB [(⟨sA (L.take k), mB (L.take k), mV (L.take k)⟩ : Gp), ⟨sA (L.drop k), mB (L.drop k), mV (L.drop k)⟩] = mB L := by
    rw [e2]
    show max (mB (L.take k)) (max (mB (L.drop k)) 0) = max (mB (L.take k)) (mB (L.drop k))
    omega
  have s3 : mV [(⟨sA (L.take k), mB (L.take k), mV (L.take k)⟩ : Gp), ⟨sA (L.drop k), mB (L.drop k), mV (L.drop k)⟩] = mV L := by
    rw [e3]
    show max (mV (L.take k)) (max (mV (L.drop k)) 0) = max (mV (L.take k)) (mV (L.drop k))
    omega
  rw [fov_sums (fob_iff.2 ⟨⟨by simp, g1⟩, by rw [s1, s2, s3]; exact ⟨h3, h4, h5⟩⟩), s1, s2, s3]
end Go.Proofs.Ytonkbakoifdmiac
