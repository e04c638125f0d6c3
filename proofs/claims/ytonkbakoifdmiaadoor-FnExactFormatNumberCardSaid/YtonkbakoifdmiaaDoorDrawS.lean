/- Drawn texts: words and patterns. -/
import Derived.Test.YtonkbakoifdmiaaDoorDrawI
import Derived.Test.YtonkbakoifdmiaaDoorStrs
import Derived.Deep.RegionWith
namespace Go.Proofs.YtonkbakoifdmiaaDoor
open Go.ChangeShapes Go.WideShapes Go.ChangeAt Go.RowKit
set_option linter.unusedVariables false

/-- All values are texts of at most n bytes. -/
def strsLe (n : Nat) : List Value → Bool
  | [] => true
  | .string z :: t => decide (z.size ≤ n) && strsLe n t
  | _ :: _ => false
theorem strs_le {n : Nat} {l : List Value} (h : strsLe n l = true) : ∀ v ∈ l, ∃ z, v = .string z ∧ z.size ≤ n := by
  induction l with
  | nil => intro v hv; cases hv
  | cons a t ih =>
    cases a <;> simp only [strsLe, Bool.and_eq_true, decide_eq_true_eq, Bool.false_eq_true] at h
    intro v hv
    rcases List.mem_cons.1 hv with rfl | hv
    · exact ⟨_, rfl, h.1⟩
    · exact ih h.2 v hv


theorem of_any (w : World) (B g N b n : Nat) {cs : Array Value} (P : ByteArray → Prop) {t : TypeId} (h : RD w B g N) (hN : N ≤ 1000000000000) (hb : w.heap[b]? = some (.cells cs t (0, 0))) (hne : b ≠ g) (hn : n = cs.size) (hL : 1 ≤ n ∧ n ≤ 65536)
    (hP : ∀ v ∈ cs.toList, ∃ z, v = .string z ∧ P z) :
    Calls Tryd.prog 32 #[.pointer (some ⟨g, 0, none⟩), .slice (some ⟨b, 0, none⟩) n n] w fun e w' => ∃ r : ByteArray, P r ∧ e = .returned (.string r) ∧ RD w' B g (N + 1) ∧ w.grownBy w' (some g) := by
  obtain ⟨hL0, hL1⟩ := hL
  have hlt : b < w.heap.size := by
    rcases Nat.lt_or_ge b w.heap.size with h | h
    · exact h
    · rw [Array.getElem?_eq_none h] at hb; cases hb
  go_enter Tryd.func32, Tryd.ntmps32
  go_wp2_with fail
  refine (pick_any _ B g _ _ h hN (by omega) (by omega)).mono ?_
  rintro e w' ⟨r, hr0, hr1, rfl, hrd, hon⟩
  obtain ⟨z, hz, hp⟩ := hP cs[r.toNat] (by simp)
  have hcell : w'.cell? ⟨b, r.toNat, none⟩ = some (.string z) := by
    rw [on_cell hon b r.toNat hlt hne, cell_of_row w b r.toNat cs t (0, 0) hb, ← hz]
    simp
  clear hz
  go_wp2
  go_ret
  exact ⟨z, hp, rfl, hrd, hon⟩

theorem formatInt_digit (n : Int) (w : World) (h0 : 0 ≤ n) (h1 : n ≤ 9) :
    Calls Tryd.prog 25 #[.int .i64 n] w fun e w' => e = .returned (.string (one (48 + n))) ∧ Below w.heap.size w w' := by
  have hcv := conv_new
  go_enter Tryd.func25, Tryd.ntmps25
  go_wp2
  go_ret
  exact ⟨rfl, bl_alloc (bl_refl _) _⟩

set_option maxHeartbeats 1000000 in
theorem mutate_any (w : World) (B g N : Nat) (s : ByteArray) (h : RD w B g N) (hN : N ≤ 100000000) (hs : s.size ≤ 1000) :
    Calls Tryd.prog 31 #[.pointer (some ⟨g, 0, none⟩), .string s] w fun e w' => ∃ t : ByteArray, t.size ≤ s.size + 3 ∧ e = .returned (.string t) ∧ RD w' B g (N + 3) ∧ w.grownBy w' (some g) := by
  have hg := h.lt
  go_enter Tryd.func31, Tryd.ntmps31
  go_wp2_with fail
  (refine (pick_any _ B g _ _ h (by omega) (by omega) (by omega)).mono ?_)
  rintro e u0 ⟨r, hr0, hr1, rfl, hrd, hon⟩
  obtain ⟨k, rfl⟩ := Int.eq_ofNat_of_zero_le hr0
  have hk : k ≤ s.size := by omega
  clear hr1 hr0
  go_wp2_with fail
  (refine (pick_any _ B g _ _ hrd (by omega) (by omega) (by omega)).mono ?_)
  rintro e u1 ⟨r, hr0, hr1, rfl, hrd1, hon1⟩
  have O := hide (on_call hon1 hon)
  have hg1 := hrd1.lt
  have X0 : (s.extract 0 k).size = k := by simp; omega
  have X1 : (s.extract (k + 1) s.size).size = s.size - (k + 1) := by simp
  have HX0 := hide X0
  have HX1 := hide X1
  have y0 : (s.extract 0 k).size ≤ 1000 := by omega
  have y1 : (s.extract (k + 1) s.size).size ≤ 1000 := by omega
  clear X0 X1
  rcases (by omega : r = 0 ∨ r = 1 ∨ r = 2 ∨ 3 ≤ r) with rfl | rfl | rfl | hr
  · rcases (by omega : k = s.size ∨ k < s.size) with hk' | hk'
    · have e1 : ¬ (k : Int) < (s.size : Int) := by omega
      clear hk'
      go_wp2
      go_ret
      exact ⟨s, by omega, rfl, hrd1.more (by omega) (Nat.le_refl _) hrd1.2.1, O.out⟩
    · have x1 : k + 1 ≤ s.size := by omega
      have wk : IntKind.i64.wrap ((k : Int) + 1) = (k : Int) + 1 := IntWalk.i64_in _ (by omega)
      go_wp2_with fail
      go_region_with (go_at_call 32; refine (of_any _ B g _ _ _ (fun z => z.size ≤ 3) (RD.alloc (RD.drewN hrd1 _) _) (by omega) (by exact heap_alloc_new _ _) (by simp; omega) (by rfl) (by decide) (strs_le (by rfl))).mono ?_; rintro e w' ⟨z, hz, rfl, hrd2, hon2⟩)
      all_goals
        go_wp2
        go_ret
        exact ⟨_, by rw [ByteArray.size_append, ByteArray.size_append, HX0.out, HX1.out]; omega, rfl, hrd2.more (by omega) (Nat.le_refl _) hrd2.2.1, on_call hon2 (on_alloc (on_drewN O.out _) _)⟩
  · go_wp2
    go_ret
    exact ⟨_, by rw [HX0.out]; omega, rfl, hrd1.more (by omega) (Nat.le_refl _) hrd1.2.1, O.out⟩
  · go_wp2_with fail
    refine (of_any _ B g _ _ _ (fun z => z.size ≤ 3) (RD.alloc hrd1 _) (by omega) (by exact heap_alloc_new _ _) (by omega) (by rfl) (by decide) (strs_le (by rfl))).mono ?_
    rintro e u2 ⟨z, hz, rfl, hrd2, hon2⟩
    go_wp2
    go_ret
    exact ⟨_, by rw [ByteArray.size_append]; omega, rfl, hrd2, on_call hon2 (on_alloc O.out _)⟩
  · go_wp2
    go_ret
    exact ⟨s, by omega, rfl, hrd1.more (by omega) (Nat.le_refl _) hrd1.2.1, O.out⟩




end Go.Proofs.YtonkbakoifdmiaaDoor
