/- Drawn numbers and numerals. -/
import Derived.Test.YtonkbakoifdmiaaDoorDrawS
import Derived.Test.YtonkbakoifdmiaaDoorNum
import Derived.Test.YtonkbakoifdmiaaDoorRom
namespace Go.Proofs.YtonkbakoifdmiaaDoor
open Go.ChangeShapes Go.WideShapes Go.ChangeAt Go.RowKit
set_option linter.unusedVariables false
set_option maxRecDepth 4000

set_option maxHeartbeats 1000000 in
theorem someNumber_any (w : World) (B g N : Nat) (h : RD w B g N) (hN : N ≤ 100000000) :
    Calls Tryd.prog 28 #[.pointer (some ⟨g, 0, none⟩)] w fun e w' => ∃ z : Int, (-1 ≤ z ∧ z ≤ 4000) ∧ e = .returned (.int .i64 z) ∧ RD w' B g (N + 3) ∧ w.grownBy w' (some g) := by
  have hg := h.lt
  go_enter Tryd.func28, Tryd.ntmps28
  go_wp2_with fail
  refine (pick_any _ B g _ _ h (by omega) (by omega) (by omega)).mono ?_
  rintro e u0 ⟨r, hr0, hr1, rfl, hrd, hon⟩
  go_wp2_with fail
  refine (pick_any _ B g _ _ hrd (by omega) (by omega) (by omega)).mono ?_
  rintro e u1 ⟨q, hq0, hq1, rfl, hrd1, hon1⟩
  have hz1 := hon1.size
  have hz0 := hon.size
  go_wp2_with fail
  refine (one_any _ B g _ _ _ (fun z => -1 ≤ z ∧ z ≤ 4000) (hrd1.alloc _) (by omega) (by exact heap_alloc_new _ _) (by omega) (by rfl) (by decide) (by simp; omega)).mono ?_
  rintro e u2 ⟨z, hz, rfl, hrd2, hon2⟩
  go_wp2
  go_ret
  exact ⟨z, hz, rfl, hrd2, on_call hon2 (on_alloc (on_call hon1 hon) _)⟩

theorem DrawRoman_any (w : World) (a : Option Addr) (n c : Nat) (zs : List Int) (h : IsRow .u8 w a n c zs) :
    Calls Tryd.prog 16 #[.slice a n c] w fun e w' => ∃ z : Int, (-1 ≤ z ∧ z ≤ 4000) ∧ e = .returned (.int .i64 z) ∧ Below w.heap.size w w' := by
  go_enter Tryd.func16, Tryd.ntmps16
  go_wp2_with fail
  refine (newReader_any _ _ _ _ _ h).mono ?_
  rintro e u0 ⟨rfl, hrd, hb⟩
  go_wp2_with fail
  refine (someNumber_any _ _ _ _ hrd (by omega)).mono ?_
  rintro e u1 ⟨z, hz, rfl, hrd1, hon1⟩
  have hb4 : Below w.heap.size w u1 := on_new (on_call hon1 (on_below hb (on_refl _ _))) (Nat.le_refl _)
  go_wp2
  go_ret
  exact ⟨z, hz, rfl, hb4⟩

theorem alpN_len (n : Int) : (bs (alpN n)).size ≤ 3 := by
  rw [bs_size]
  unfold alpN
  split
  · exact alp_len (by omega)
  · simp

theorem rom_len2 {n : Nat} (h : n ≤ 3999) : (rom 0 n).length ≤ 904 := by
  rw [rom_open (by omega), rom_open (by omega), List.length_append, List.length_append, List.length_flatten, List.length_flatten, List.map_replicate, List.map_replicate, List.sum_replicate_nat, List.sum_replicate_nat]
  have e0 : rpV 0 = 1000 := rfl
  have e1 : rpV (0 + 1) = 900 := rfl
  have t0 : (rpT 0).length = 1 := rfl
  have t1 : (rpT (0 + 1)).length = 2 := rfl
  have h3 := rom_len (k := 0 + 1 + 1) (n := n % rpV 0 % rpV (0 + 1)) (by omega)
  rw [e0, e1] at h3
  rw [e0, e1, t0, t1]
  have h1 : n / 1000 ≤ 3 := by omega
  have h2 : n % 1000 / 900 ≤ 1 := by omega
  have h4 : n % 1000 % 900 < 900 := Nat.mod_lt _ (by omega)
  omega
theorem romN_len2 (n : Int) : (bs (romN n)).size ≤ 904 := by
  rw [bs_size]
  unfold romN
  split
  · exact rom_len2 (by omega)
  · simp
set_option maxHeartbeats 1000000 in
theorem DrawFromRoman_any (w : World) (a : Option Addr) (n c : Nat) (zs : List Int) (h : IsRow .u8 w a n c zs) :
    Calls Tryd.prog 17 #[.slice a n c] w fun e w' => ∃ s : ByteArray, s.size ≤ 1000 ∧ e = .returned (.string s) ∧ Below w.heap.size w w' := by
  go_enter Tryd.func17, Tryd.ntmps17
  go_wp2_with fail
  refine (newReader_any _ _ _ _ _ h).mono ?_
  rintro e u0 ⟨rfl, hrd, hb⟩
  go_wp2_with fail
  refine (someNumber_any _ _ _ _ hrd (by omega)).mono ?_
  rintro e u1 ⟨z, hz, rfl, hrd1, hon1⟩
  have ht := romN_len2 z
  obtain ⟨t, et⟩ : ∃ t, t = bs (romN z) := ⟨_, rfl⟩
  have CS := fun (u : World) => Roman_s z u
  rw [← et] at CS ht
  have HCS := hide CS
  clear CS et
  go_wp2_with fail
  refine (HCS.out _).mono ?_
  rintro e u2 ⟨rfl, hb2⟩
  have hrd2 := hrd1.below hb2
  have O1 := hide (on_below hb2 (on_call hon1 (on_below hb (on_refl _ _))))
  clear hon1 hb hrd hrd1
  go_wp2_with fail
  refine (pick_any _ _ _ _ _ hrd2 (by omega) (by omega) (by omega)).mono ?_
  rintro e u3 ⟨r, hr0, hr1, rfl, hrd3, hon3⟩
  have O3 := hide (on_call hon3 O1.out)
  have hg3 := hrd3.lt
  rcases (by omega : r = 0 ∨ r = 1 ∨ 1 < r) with rfl | rfl | hr
  · go_wp2_with fail
    refine (mutate_any _ _ _ _ _ hrd3 (by omega) (by omega)).mono ?_
    rintro e u4 ⟨s, hs, rfl, hrd4, hon4⟩
    go_wp2
    go_ret
    exact ⟨s, by omega, rfl, on_new (on_call hon4 O3.out) (Nat.le_refl _)⟩
  · go_wp2_with fail
    refine (of_any _ _ _ _ _ _ (fun z => z.size ≤ 3) (RD.alloc hrd3 _) (by omega) (by exact heap_alloc_new _ _) (by omega) (by rfl) (by decide) (strs_le (by rfl))).mono ?_
    rintro e u4 ⟨s, hs, rfl, hrd4, hon4⟩
    go_wp2
    go_ret
    exact ⟨_, by rw [ByteArray.size_append]; omega, rfl, on_new (on_call hon4 (on_alloc O3.out _)) (Nat.le_refl _)⟩
  · go_wp2
    go_ret
    exact ⟨t, by omega, rfl, on_new O3.out (Nat.le_refl _)⟩
end Go.Proofs.YtonkbakoifdmiaaDoor
