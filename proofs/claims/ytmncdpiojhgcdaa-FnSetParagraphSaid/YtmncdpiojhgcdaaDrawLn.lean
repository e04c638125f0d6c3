/- Drawn lines of paragraphs, widths and tolerances. -/
import Derived.Test.YtmncdpiojhgcdaaDrawIt
import Derived.Test.YtmncdpiojhgcdaaSd
import Derived.Test.YtmncdpiojhgcdaaApp
import Derived.Test.YtmncdpiojhgcdaaDrawI
namespace Go.Proofs.Ytmncdpiojhgcdaa
open Go.ChangeShapes Go.WideShapes Go.ChangeAt Go.RowKit
set_option linter.unusedVariables false

theorem OL.none_capl {w : World} {e : TypeId} {B : Nat} {A : Option Addr} {c : Nat} {l : List Int} (h : OL w e B A c l) : A = none → c = 0 := fun e => by
  subst e
  rcases h.2 with ⟨h1, _⟩ | ⟨g, cap, cur, h1, _⟩
  · injection h1
  · cases h1
theorem brTo_mem {L : List It} : ∀ {k : Nat} {x : Int}, x ∈ brTo L k → 0 ≤ x ∧ x < (k : Int)
  | 0, x, h => by simp [brTo] at h
  | k + 1, x, h => by
    simp only [brTo] at h
    split at h
    · rw [List.mem_append] at h
      rcases h with h | h
      · have := brTo_mem h; omega
      · simp at h; omega
    · have := brTo_mem h; omega
theorem brO_in {L : List It} (hl : L.length ≤ 23) {j : Nat} (hj : j < ([-1] ++ brO L).length) : -1 ≤ ng ([-1] ++ brO L) j ∧ ng ([-1] ++ brO L) j ≤ 23 := by
  rw [ng_lt hj]
  have hm := List.getElem_mem hj
  generalize ([-1] ++ brO L)[j] = v at hm ⊢
  rw [List.mem_append] at hm
  rcases hm with h | h
  · simp at h; omega
  · cases hok : isOk L
    · rw [brO_no hok] at h; simp at h
    · rw [brO_yes hok] at h
      have := brTo_mem h
      omega
theorem someTolerance_any (w : World) (B g N : Nat) (h : RD w B g N) (hN : N ≤ 100000000) (hB : B ≤ w.heap.size) :
    Calls Try.prog 76 #[.pointer (some ⟨g, 0, none⟩)] w fun e w' => ∃ z : Int, e = .returned (.int .i64 z) ∧ (-1 ≤ z ∧ z ≤ 20000) ∧ RD w' B g (N + 1) ∧ w.grownBy w' (some g) := by
  have hg := h.lt
  go_enter Try.func76, Try.ntmps76
  go_wp2_with fail
  refine (one_any _ B g _ _ _ (fun z => -1 ≤ z ∧ z ≤ 20000) (h.alloc _) (by omega) (by exact heap_alloc_new _ _) (by omega) (by rfl) (by decide) (by intro v hv; simp at hv; rcases hv with rfl | rfl | rfl | rfl | rfl | rfl | rfl | rfl | rfl | rfl <;> exact ⟨_, rfl, by omega⟩)).mono ?_
  rintro e u1 ⟨z, hz, rfl, hrd2, hon2⟩
  have O2 := hide (on_call hon2 (on_alloc (on_refl w (some g)) _))
  go_wp2
  go_ret
  exact ⟨z, rfl, hz, hrd2, O2.out⟩
set_option maxRecDepth 4000 in
set_option maxHeartbeats 4000000 in
theorem someLine_any (w : World) (B g N : Nat) (h : RD w B g N) (hN : N ≤ 1000000) (hB : B ≤ w.heap.size) :
    Calls Try.prog 100 #[.pointer (some ⟨g, 0, none⟩)] w fun e w' => ∃ (A : Option Addr) (c : Nat) (L : List It) (x y : Int), e = .returned (.tuple #[.slice A L.length c, .int .i64 x, .int .i64 y]) ∧ TO w' 45 w.heap.size A c L ∧ L.length ≤ 23 ∧ (-1 ≤ x ∧ x ≤ 23) ∧ (-1 ≤ y ∧ y ≤ 23) ∧ RD w' B g (N + 84) ∧ w.grownBy w' (some g) := by
  have hg := h.lt
  have hgB := h.1
  obtain ⟨i0, hi0, jz0, jz1, jz2⟩ := info_parts int_info
  go_enter Try.func100, Try.ntmps100
  go_wp2_with fail
  (with_reducible refine (anyItems_any w B g N h (by omega) hB).mono ?_)
  rintro e u0 ⟨A, c, L, rfl, hol, hl, hrd, hon⟩
  have hz0 := hon.size
  have HR := hide (hol.reads.alloc (.cells #[.int .i64 (-1)] 3))
  have H0 : Hid (OL (u0.alloc (.cells #[.int .i64 (-1)] 3)) 3 u0.heap.size (some ⟨u0.heap.size, 0, none⟩) 1 [-1]) := hide (by
    have := OL.lit (w := u0) (e := 3) (B := u0.heap.size) (Nat.le_refl _) [-1] (by simp [maxLen])
    simpa using this)
  have HO := hide hol
  have HRD := hide hrd
  have HON := hide hon
  have BO := fun (u : World) (h : TL u A L.length L) => BreaksOf_s u A L.length c L h (by omega)
  unfold RetL at BO
  have hlb := brO_len L
  obtain ⟨R, hR⟩ : ∃ R, R = brO L := ⟨_, rfl⟩
  rw [← hR] at BO hlb
  have HBO := hide BO
  have HIN := hide (fun (j : Nat) (hj : j < ([-1] ++ R).length) => show -1 ≤ ng ([-1] ++ R) j ∧ ng ([-1] ++ R) j ≤ 23 by rw [hR] at hj ⊢; exact brO_in hl hj)
  clear hol hrd hon h BO hR
  go_wp2_with fail
  (with_reducible refine (HBO.out _ HR.out).mono ?_)
  rintro e u1 ⟨A1, c1, rfl, hb1, hbl1⟩
  have H1 := hide (H0.out.below hbl1)
  have HB01 := hide (bl_call hbl1 (bl_alloc (bl_refl u0) (.cells #[.int .i64 (-1)] 3)))
  have hz1 := hbl1.size
  simp at hz1
  have HIB := hide hb1.reads
  have HNC := hide hb1.none_capl
  clear hbl1 hb1
  go_wp2_with (at_builtin; (refine wpList_append_list rfl (.tmp 11) (.tmp 13) _ rfl 3 i0 Try.underlying30 hi0 jz0 jz1 jz2 u0.heap.size (some ⟨u0.heap.size, 0, none⟩) 1 1 [-1] rfl rfl H1.out A1 R.length c1 R rfl HIB.out HNC.out (by omega) (by omega) ?_); intro A2 c2 u2 hol2 hb2 hg2)
  have hrl : ([-1] ++ R).length = 1 + R.length := by simp; omega
  obtain ⟨l2, hl2⟩ : ∃ l2, l2 = [-1] ++ R := ⟨_, rfl⟩
  rw [← hl2] at hol2 hrl HIN
  have hb02 := HB01.out.trans hb2
  have hz2 := hb02.size
  have hgu : g < u0.heap.size := by omega
  have HO2 := hide (HO.out.below hb02)
  have HRD2 := hide (HRD.out.below hb02)
  have O2 := hide (on_below hb02 HON.out)
  have HOL := hide hol2
  clear hol2 hb2 hg2 hb02 H1 HB01 HR HBO HIB HNC HO HRD HON H0
  go_wp2_with fail
  rw [show (1 : Int) + (R.length : Int) = ((1 + R.length : Nat) : Int) by omega]
  (with_reducible refine (pick_any _ B g _ _ HRD2.out (by omega) (by omega) (by omega)).mono ?_)
  rintro e u3 ⟨s, s0, s1, rfl, hrd3, hon3⟩
  obtain ⟨s, rfl⟩ := Int.eq_ofNat_of_zero_le s0
  have HOL := hide (HOL.out.read hon3 (by omega))
  have HO2 := hide (HO2.out.readI hon3 (by omega))
  have O2 := hide (on_call hon3 O2.out)
  have hz3 := hon3.size
  have HRD2 := hide hrd3
  have hsl : s < l2.length := by omega
  obtain ⟨b', o', hA, hb', cs⟩ := HOL.out.reads.at_ (i := s) hsl
  obtain ⟨x, hx⟩ : ∃ x, x = ng l2 s := ⟨_, rfl⟩
  have bx : -1 ≤ x ∧ x ≤ 23 := by rw [hx]; exact HIN.out s hsl
  rw [← hx] at cs
  have i1 : (s : Int) < ((1 + R.length : Nat) : Int) := by omega
  have i2 : (0 : Int) ≤ (s : Int) := by omega
  have i3 : s < 1 + R.length := by omega
  subst hA
  clear hon3 hrd3 hx
  go_wp2_with fail
  (with_reducible refine (pick_any _ B g _ _ HRD2.out (by omega) (by omega) (by omega)).mono ?_)
  rintro e u4 ⟨r, r0, r1, rfl, hrd4, hon4⟩
  clear cs i1 i2 i3 hb' s0 s1
  obtain ⟨r, rfl⟩ := Int.eq_ofNat_of_zero_le r0
  have HOL := hide (HOL.out.read hon4 (by omega))
  have HO2 := hide (HO2.out.readI hon4 (by omega))
  have O2 := hide (on_call hon4 O2.out)
  have hz4 := hon4.size
  have HRD2 := hide hrd4
  have hrl : r < l2.length := by omega
  obtain ⟨b2, o2, hA, hb2, cs⟩ := HOL.out.reads.at_ (i := r) hrl
  injection hA with hA
  cases hA
  obtain ⟨y, hy⟩ : ∃ x, x = ng l2 r := ⟨_, rfl⟩
  have by1 : -1 ≤ y ∧ y ≤ 23 := by rw [hy]; exact HIN.out r hrl
  rw [← hy] at cs
  have i1 : (r : Int) < ((1 + R.length : Nat) : Int) := by omega
  have i2 : (0 : Int) ≤ (r : Int) := by omega
  have i3 : r < 1 + R.length := by omega
  clear hon4 hrd4 hy
  rcases (by omega : y < x ∨ x ≤ y) with hxy | hxy
  · go_wp2
    go_ret3
    exact ⟨A, c, L, y, x, rfl, HO2.out.more (by omega), hl, by1, bx, HRD2.out.more (by omega) (Nat.le_refl _) (by omega), O2.out⟩
  · have hg2 : ¬ y < x := by omega
    go_wp2_with fail
    (with_reducible refine (pick_any _ B g _ _ HRD2.out (by omega) (by omega) (by omega)).mono ?_)
    rintro e u5 ⟨k, k0, k1, rfl, hrd5, hon5⟩
    have HO2 := hide (HO2.out.readI hon5 (by omega))
    have O2 := hide (on_call hon5 O2.out)
    have hz5 := hon5.size
    clear hon5 cs
    rcases (by omega : k = 0 ∨ k ≠ 0) with rfl | hk
    · go_wp2_with fail
      refine (one_any _ B g _ _ _ (fun z => -1 ≤ z ∧ z ≤ 23) (hrd5.alloc _) (by omega) (by exact heap_alloc_new _ _) (by omega) (by rfl) (by decide) (by intro v hv; simp at hv; rcases hv with rfl | rfl | rfl <;> exact ⟨_, rfl, by omega⟩)).mono ?_
      rintro e u6 ⟨z, hz, rfl, hrd6, hon6⟩
      have HO3 := hide ((HO2.out.alloc _).readI hon6 (by omega))
      have O3 := hide (on_call hon6 (on_alloc O2.out _))
      have hz6 := hon6.size
      simp at hz6
      clear hon6
      go_wp2
      go_ret3
      exact ⟨A, c, L, x, z, rfl, HO3.out.more (by omega), hl, bx, hz, hrd6.more (by omega) (Nat.le_refl _) (by omega), O3.out⟩
    · have hk' : (k == 0) = false := beq_eq_false_iff_ne.2 hk
      go_wp2
      go_ret3
      exact ⟨A, c, L, x, y, rfl, HO2.out.more (by omega), hl, bx, by1, hrd5.more (by omega) (Nat.le_refl _) (by omega), O2.out⟩
end Go.Proofs.Ytmncdpiojhgcdaa
