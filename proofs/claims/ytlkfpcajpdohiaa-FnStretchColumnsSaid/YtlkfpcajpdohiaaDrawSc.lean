/- Drawn widths of columns and a total. -/
import Derived.Test.YtlkfpcajpdohiaaDrawI
namespace Go.Proofs.Ytlkfpcajpdohiaa
open Go.ChangeShapes Go.WideShapes Go.ChangeAt Go.RowKit
set_option linter.unusedVariables false
set_option linter.unusedSimpArgs false

set_option maxRecDepth 4000 in
set_option maxHeartbeats 2000000 in
theorem DrawStretchColumns_any (w : World) (a : Option Addr) (n c : Nat) (zs : List Int) (h : IsRow .u8 w a n c zs) :
    Calls Try.prog 47 #[.slice a n c] w fun e w' => ∃ (A : Option Addr) (c : Nat) (l : List Int) (m : Int), e = .returned (.tuple #[.slice A l.length c, .int .i64 m]) ∧ OL w' 3 w.heap.size A c l ∧ l.length ≤ 9 ∧ (-1 ≤ m ∧ m ≤ 20000) ∧ Below w.heap.size w w' := by
  obtain ⟨i0, hi0, jz0, jz1, jz2⟩ := info_parts int_info
  go_enter Try.func47, Try.ntmps47
  go_wp2_with fail
  (with_reducible refine (newReader_any _ _ _ _ _ h).mono ?_)
  rintro e u0 ⟨rfl, hrd, hb⟩
  have hgl : w.heap.size < u0.heap.size := hrd.lt
  have H0 : Hid (OL (u0.alloc (.cells #[] 3)) 3 (w.heap.size + 1) (some ⟨u0.heap.size, 0, none⟩) 0 []) := hide (by
      have := OL.lit (w := u0) (e := 3) (B := w.heap.size + 1) (by omega) [] (by simp)
      simpa using this)
  have O0 := hide (on_alloc (on_below hb (on_refl w (some w.heap.size))) (.cells #[] 3))
  go_wp2_with fail
  refine (one_any _ (w.heap.size + 1) w.heap.size _ _ _ (fun z => 0 ≤ z ∧ z ≤ 9) ((hrd.alloc _).alloc _) (by omega) (by exact heap_new2 _ _ _) (by simp; omega) (by rfl) (by decide) (by simp)).mono ?_
  rintro e u1 ⟨r, ⟨hr0, hr1⟩, rfl, hrd1, hon1⟩
  have H1 := hide ((H0.out.alloc _).read hon1 (by omega))
  have O1 := hide (on_call hon1 (on_alloc O0.out _))
  have hz1 := hon1.size
  simp at hz1
  clear hon1 hrd H0 O0 hb h
  go_wp2
  go_loopw [5, 6, 7] (fun v s i u => ∃ (p m : Nat) (A : Option Addr) (cc : Nat) (l : List Int) (z : Int), p + m ≤ 9 ∧ i = .int .i64 m ∧ v = .slice A p cc ∧ s = .int .i64 z ∧ (0 ≤ z ∧ z ≤ 10 * (p : Int)) ∧ p = l.length ∧ OL u 3 (w.heap.size + 1) A cc l ∧ RD u (w.heap.size + 1) w.heap.size (1 + p) ∧ w.grownBy u (some w.heap.size)) (fun _ _ i _ => (intOf i).toNat)
  case atStart => exact ⟨0, r.toNat, _, _, [], 0, by omega, by go_num, rfl, rfl, by omega, rfl, H1.out, hrd1.more (by omega) (Nat.le_refl _) (by omega), O1.out⟩
  case round =>
    obtain ⟨p, m, A, cc, l, z, hpm, rfl, rfl, rfl, ⟨z0, z1⟩, hpl, hol, hrd, hon⟩ := hrel
    have HPL := hide hpl
    have HON := hide hon
    clear hpl
    have hzr := hon.size
    have hgr := hrd.lt
    clear hon H1 O1 hrd1
    rcases Nat.eq_zero_or_pos m with hm | hm
    · have g0 : ¬ (0 : Int) < (m : Int) := by omega
      clear hm
      go_wp2_with fail
      refine (one_any _ (w.heap.size + 1) w.heap.size _ _ _ (fun z => -1 ≤ z ∧ z ≤ 10000) (hrd.alloc _) (by omega) (by exact heap_alloc_new _ _) (by omega) (by rfl) (by decide) (by simp)).mono ?_
      rintro e u1 ⟨r, ⟨hr0, hr1⟩, rfl, hrd1, hon1⟩
      have hol1 := hide ((hol.alloc _).read hon1 (by omega))
      have O2 := hide (on_call hon1 (on_alloc HON.out _))
      clear hon1 hol
      go_wp2
      refine bodyPost_ret (v := .tuple #[.slice A p cc, .int .i64 (z + r)]) (by simp [results, Try.results47, go_sem]) rfl ?_
      exact ⟨A, cc, l, z + r, by rw [← HPL.out], hol1.out.more (by omega), by rw [← HPL.out]; omega, by omega, on_new O2.out (Nat.le_refl _)⟩
    · have g0 : (0 : Int) < (m : Int) := by omega
      go_wp2_with fail
      refine (one_any _ (w.heap.size + 1) w.heap.size _ _ _ (fun z => 0 ≤ z ∧ z ≤ 10) (hrd.alloc _) (by omega) (by exact heap_alloc_new _ _) (by omega) (by rfl) (by decide) (by simp)).mono ?_
      rintro e u1 ⟨r, ⟨hr0, hr1⟩, rfl, hrd1, hon1⟩
      have hol1 := (hol.alloc _).read hon1 (by omega)
      have O2 := hide (on_call hon1 (on_alloc HON.out _))
      have hz1 := hon1.size
      simp at hz1
      clear hon1 hol hrd
      have hm1 : (m : Int) - 1 = ((m - 1 : Nat) : Int) := by omega
      go_wp2_with (at_builtin; refine wpList_append_int rfl (.tmp 22) (.tmp 24) _ rfl 3 i0 Try.underlying32 hi0 jz0 jz1 jz2 (w.heap.size + 1) A cc p l rfl (HPL.out) (hol1.alloc _) u1.heap.size r rfl (by simp) (by omega) (by simp; omega) ?_; intro A' c' w' hol' hb' hg')
      go_roundw
      case rel =>
        refine ⟨p + 1, m - 1, A', c', l ++ [r], z + r, by omega, by go_num, rfl, rfl, by omega, by simp [HPL.out], hol', ?_, ?_⟩
        · exact ((hrd1.alloc _).below' hb' (by omega)).more (by omega) (Nat.le_refl _) (by have := hb'.size; simp at this; omega)
        · exact on_below' hb' (by omega) (on_alloc O2.out _)
      case measure => simp [intOf]; omega
end Go.Proofs.Ytlkfpcajpdohiaa
