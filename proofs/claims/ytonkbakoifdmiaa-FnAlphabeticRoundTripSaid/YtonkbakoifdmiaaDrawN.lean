/- Drawn numbers and numerals. -/
import Derived.Test.YtonkbakoifdmiaaDrawS
import Derived.Test.YtonkbakoifdmiaaNum
namespace Go.Proofs.Ytonkbakoifdmiaa
open Go.ChangeShapes Go.WideShapes Go.ChangeAt Go.RowKit
set_option linter.unusedVariables false
set_option maxRecDepth 4000

set_option maxHeartbeats 1000000 in
theorem someNumber_any (w : World) (B g N : Nat) (h : RD w B g N) (hN : N ≤ 100000000) :
    Calls Try.prog 19 #[.pointer (some ⟨g, 0, none⟩)] w fun e w' => ∃ z : Int, (-1 ≤ z ∧ z ≤ 4000) ∧ e = .returned (.int .i64 z) ∧ RD w' B g (N + 3) ∧ w.grownBy w' (some g) := by
  have hg := h.lt
  go_enter Try.func19, Try.ntmps19
  go_wp2_with fail
  refine (pick_any _ B g _ _ h (by omega) (by omega) (by omega)).mono ?_
  rintro e u0 ⟨r, hr0, hr1, rfl, hrd, hon⟩
  go_wp2_with fail
  refine (pick_any _ B g _ _ hrd (by omega) (by omega) (by omega)).mono ?_
  rintro e u1 ⟨q, hq0, hq1, rfl, hrd1, hon1⟩
  have hz1 := hon1.size
  have hz0 := hon.size
  go_wp2_with fail
  refine (one_any _ B g _ _ _ (fun z => -1 ≤ z ∧ z ≤ 4000) (hrd1.alloc _) (by omega) (by exact heap_alloc_new _ _) (by omega) (by rfl) (by decide) (by simp; omega)).mono ?_
  rintro e u2 ⟨z, hz, rfl, hrd2, hon2⟩
  go_wp2
  go_ret
  exact ⟨z, hz, rfl, hrd2, on_call hon2 (on_alloc (on_call hon1 hon) _)⟩

theorem DrawAlphabetic_any (w : World) (a : Option Addr) (n c : Nat) (zs : List Int) (h : IsRow .u8 w a n c zs) :
    Calls Try.prog 12 #[.slice a n c] w fun e w' => ∃ z : Int, (-1 ≤ z ∧ z ≤ 4000) ∧ e = .returned (.int .i64 z) ∧ Below w.heap.size w w' := by
  go_enter Try.func12, Try.ntmps12
  go_wp2_with fail
  refine (newReader_any _ _ _ _ _ h).mono ?_
  rintro e u0 ⟨rfl, hrd, hb⟩
  go_wp2_with fail
  refine (someNumber_any _ _ _ _ hrd (by omega)).mono ?_
  rintro e u1 ⟨z, hz, rfl, hrd1, hon1⟩
  have hb4 : Below w.heap.size w u1 := on_new (on_call hon1 (on_below hb (on_refl _ _))) (Nat.le_refl _)
  go_wp2
  go_ret
  exact ⟨z, hz, rfl, hb4⟩

theorem alpN_len (n : Int) : (bs (alpN n)).size ≤ 3 := by
  rw [bs_size]
  unfold alpN
  split
  · exact alp_len (by omega)
  · simp
set_option maxHeartbeats 1000000 in
theorem DrawFromAlphabetic_any (w : World) (a : Option Addr) (n c : Nat) (zs : List Int) (h : IsRow .u8 w a n c zs) :
    Calls Try.prog 13 #[.slice a n c] w fun e w' => ∃ s : ByteArray, s.size ≤ 1000 ∧ e = .returned (.string s) ∧ Below w.heap.size w w' := by
  go_enter Try.func13, Try.ntmps13
  go_wp2_with fail
  refine (newReader_any _ _ _ _ _ h).mono ?_
  rintro e u0 ⟨rfl, hrd, hb⟩
  go_wp2_with fail
  refine (someNumber_any _ _ _ _ hrd (by omega)).mono ?_
  rintro e u1 ⟨z, hz, rfl, hrd1, hon1⟩
  have ht := alpN_len z
  obtain ⟨t, et⟩ : ∃ t, t = bs (alpN z) := ⟨_, rfl⟩
  have CS := fun (u : World) => Alphabetic_s z u
  rw [← et] at CS ht
  have HCS := hide CS
  clear CS et
  go_wp2_with fail
  refine (HCS.out _).mono ?_
  rintro e u2 ⟨rfl, hb2⟩
  have hrd2 := hrd1.below hb2
  have O1 := hide (on_below hb2 (on_call hon1 (on_below hb (on_refl _ _))))
  clear hon1 hb hrd hrd1
  go_wp2_with fail
  refine (pick_any _ _ _ _ _ hrd2 (by omega) (by omega) (by omega)).mono ?_
  rintro e u3 ⟨r, hr0, hr1, rfl, hrd3, hon3⟩
  have O3 := hide (on_call hon3 O1.out)
  rcases (by omega : r = 0 ∨ r = 1 ∨ 1 < r) with rfl | rfl | hr
  · go_wp2_with fail
    refine (mutate_any _ _ _ _ _ hrd3 (by omega) (by omega)).mono ?_
    rintro e u4 ⟨s, hs, rfl, hrd4, hon4⟩
    go_wp2
    go_ret
    exact ⟨s, by omega, rfl, on_new (on_call hon4 O3.out) (Nat.le_refl _)⟩
  · go_wp2
    go_ret
    exact ⟨_, by rw [ByteArray.size_append]; have q : (ByteArray.mk #[122]).size = 1 := rfl; omega, rfl, on_new O3.out (Nat.le_refl _)⟩
  · go_wp2
    go_ret
    exact ⟨t, by omega, rfl, on_new O3.out (Nat.le_refl _)⟩
end Go.Proofs.Ytonkbakoifdmiaa
