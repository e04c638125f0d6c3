/- Drawn lists of integers. -/
import Derived.Test.YtlfhfbeacleggaaRead
import Derived.Test.YtlfhfbeacleggaaInts
namespace Go.Proofs.Ytlfhfbeacleggaa
open Go.ChangeShapes Go.WideShapes Go.ChangeAt Go.RowKit
set_option linter.unusedVariables false

section
variable {w w' : World} {B B' g N : Nat}
theorem RD.below' (h : RD w B g N) (hb : Below B' w w') (hB : B ≤ B') : RD w' B g N :=
  h.keep (fun _ hq => hb.cell (Nat.lt_of_lt_of_le hq hB)) (fun _ hq => hb.frozen (Nat.lt_of_lt_of_le hq hB)) hb.size
theorem on_below' {a : World} (h : Below B w w') (hB : a.heap.size ≤ B) (h0 : a.grownBy w (some g)) : a.grownBy w' (some g) :=
  ⟨h.os.trans h0.os, h.tape.trans h0.tape, h.output.trans h0.output, Nat.le_trans h0.size h.size, fun i hi hne => (h.block i (by omega)).trans (h0.block i hi hne)⟩
/-- What the call owns stays while the reader reads. -/
theorem OL.read {e : TypeId} {A : Option Addr} {c : Nat} {l : List Int} (h : OL w e B A c l) (hg : w.grownBy w' (some g)) (hlt : g < B) : OL w' e B A c l :=
  h.kept hg (fun k hk e => by
    have := (h.own_lt k hk).1
    injection e with e
    omega)
end

set_option maxRecDepth 4000 in
theorem anyShape_any (w : World) (B g N : Nat) (h : RD w B g N) (hN : N ≤ 1000000000) (hB : B ≤ w.heap.size) :
    Calls Try.prog 111 #[.pointer (some ⟨g, 0, none⟩)] w fun e w' => ∃ (A : Option Addr) (c : Nat) (l : List Int), e = .returned (.slice A l.length c) ∧ OL w' 3 w.heap.size A c l ∧ l.length ≤ 4 ∧ (∀ j, j < l.length → 0 ≤ ng l j ∧ ng l j ≤ 10001) ∧ RD w' B g (N + 10) ∧ w.grownBy w' (some g) := by
  obtain ⟨i0, hi0, jz0, jz1, jz2⟩ := info_parts int_info
  have hg := h.lt
  go_enter Try.func111, Try.ntmps111
  go_wp2_with fail
  refine (pick_any _ B g _ _ (h.alloc _) (by omega) (by omega) (by omega)).mono ?_
  rintro e u0 ⟨r, hr0, hr1, rfl, hrd, hon⟩
  have H0 : Hid (OL (w.alloc (.cells #[] 3)) 3 w.heap.size (some ⟨w.heap.size, 0, none⟩) 0 []) := hide (by
      have := OL.lit (w := w) (e := 3) (B := w.heap.size) (Nat.le_refl _) [] (by simp)
      simpa using this)
  have H1 := hide (H0.out.read hon hg)
  have O1 := hide (on_call hon (on_alloc (on_refl w (some g)) _))
  have hz := hon.size
  simp at hz
  clear hon h
  go_wp2
  go_loopw [3, 4] (fun v i u => ∃ (p m : Nat) (A : Option Addr) (cc : Nat) (l : List Int), p + m ≤ 4 ∧ i = .int .i64 m ∧ v = .slice A p cc ∧ p = l.length ∧ 0 < p + m ∧ OL u 3 w.heap.size A cc l ∧ (∀ j, j < l.length → 0 ≤ ng l j ∧ ng l j ≤ 10001) ∧ RD u B g (N + 1 + p) ∧ w.grownBy u (some g)) (fun _ i _ => (intOf i).toNat)
  case atStart => exact ⟨0, (1 + r).toNat, _, _, [], by omega, by go_num, rfl, rfl, by omega, H1.out, fun j hj => by simp at hj, hrd, O1.out⟩
  case round =>
    obtain ⟨p, m, A, cc, l, hpm, rfl, rfl, hpl, h0, hol, hel, hrd, hon⟩ := hrel
    have HPL := hide hpl
    clear hpl
    have hzr := hon.size
    rcases Nat.eq_zero_or_pos m with hm | hm
    · subst hm
      go_wp2_with fail
      refine (pick_any _ B g _ _ hrd (by omega) (by omega) (by omega)).mono ?_
      rintro e u0 ⟨r, hr0, hr1, rfl, hrd1, hon1⟩
      have O2 := hide (on_call hon1 hon)
      have hol1 := hol.read hon1 hg
      have hz1 := hon1.size
      rcases (by omega : r = 0 ∨ r = 1 ∨ 2 ≤ r) with rfl | rfl | hr
      · go_wp2_with fail
        refine (one_any _ B g _ _ _ (fun z => 0 ≤ z ∧ z ≤ 10001) (hrd1.alloc _) (by omega) (by exact heap_alloc_new _ _) (by omega) (by rfl) (by decide) (by simp)).mono ?_
        rintro e u1 ⟨z, hz, rfl, hrd2, hon2⟩
        have hol2 := (hol1.alloc _).read hon2 hg
        have O3 := hide (on_call hon2 (on_alloc O2.out _))
        obtain ⟨g', rfl, hBg, hgz, hfz⟩ := hol2.frozen (by rw [← HPL.out]; omega)
        obtain ⟨b, o, he, _, hc⟩ := hol2.reads.at_ (i := 0) (by rw [← HPL.out]; omega)
        injection he with he
        cases he
        have fz := hfz 0
        have M := hide (hol2.set_ 0 z).1
        have HZ := hide hz
        rw [Nat.zero_add] at hc
        have hp0 : 0 < p := by omega
        clear hfz hz hon2 hon1 hol hol1 hol2
        go_wp2
        go_ret
        refine ⟨some ⟨g', 0, none⟩, cc, l.set 0 z, by rw [List.length_set, ← HPL.out]; rfl, M.out, by rw [List.length_set, ← HPL.out]; omega, fun j hj => ?_, (hrd2.set_ (Nat.le_trans hB hBg) _).more (by omega) (Nat.le_refl _) (by simp; omega), on_set O3.out (.inr hBg) _⟩
        rw [List.length_set] at hj
        rw [ng_set hj]
        split
        · exact HZ.out
        · exact hel j hj
      · have H3 : Hid (OL (u0.alloc (.cells #[] 3)) 3 w.heap.size (some ⟨u0.heap.size, 0, none⟩) 0 []) := hide (by
          have := OL.lit (w := u0) (e := 3) (B := w.heap.size) (by omega) [] (by simp)
          simpa using this)
        go_wp2
        go_ret
        exact ⟨_, _, [], rfl, H3.out, by simp, fun j hj => by simp at hj, (hrd1.alloc _).more (by omega) (Nat.le_refl _) (by simp; omega), on_alloc O2.out _⟩
      · go_wp2
        go_ret
        exact ⟨A, cc, l, by rw [HPL.out]; rfl, hol1, by rw [← HPL.out]; omega, hel, hrd1.more (by omega) (Nat.le_refl _) (by omega), O2.out⟩
    · go_wp2_with fail
      refine (one_any _ B g _ _ _ (fun z => 0 ≤ z ∧ z ≤ 10001) (hrd.alloc _) (by omega) (by exact heap_alloc_new _ _) (by omega) (by rfl) (by decide) (by simp)).mono ?_
      rintro e u1 ⟨z, hz, rfl, hrd1, hon1⟩
      have hol1 := (hol.alloc _).read hon1 hg
      have O2 := hide (on_call hon1 (on_alloc hon _))
      have hz1 := hon1.size
      simp at hz1
      have HZ := hide hz
      clear hz hon1 hon hol hrd
      go_wp2_with (at_builtin; refine wpList_append_int rfl (.tmp 13) (.tmp 17) _ rfl 3 i0 Try.underlying32 hi0 jz0 jz1 jz2 w.heap.size A cc p l rfl (HPL.out) (hol1.alloc _) u1.heap.size z rfl (by simp) (by omega) (by simp; omega) ?_; intro A' c' w' hol' hb' hg')
      go_roundw
      case rel => 
        refine ⟨p + 1, m - 1, A', c', l ++ [z], by omega, by go_num, rfl, by simp [HPL.out], by omega, hol', ?_, ?_, ?_⟩
        · intro j hj
          exact ng_snoc (P := fun x => 0 ≤ x ∧ x ≤ 10001) HZ.out hel j hj
        · exact ((hrd1.alloc _).below' hb' (by omega)).more (by omega) (Nat.le_refl _) (by have := hb'.size; simp at this; omega)
        · exact on_below' hb' (Nat.le_refl _) (on_alloc O2.out _)
      case measure => simp [intOf]; omega

theorem someWidth_any (w : World) (B g N : Nat) (h : RD w B g N) (hN : N ≤ 1000000000) :
    Calls Try.prog 119 #[.pointer (some ⟨g, 0, none⟩)] w fun e w' => ∃ z : Int, (0 ≤ z ∧ z ≤ 10001) ∧ e = .returned (.int .i64 z) ∧ RD w' B g (N + 2) ∧ w.grownBy w' (some g) := by
  have hlt := h.lt
  go_enter Try.func119, Try.ntmps119
  go_wp2_with fail
  refine (pick_any _ B g _ _ h (by omega) (by omega) (by omega)).mono ?_
  rintro e u0 ⟨r, hr0, hr1, rfl, hrd1, hon1⟩
  have hlt1 := hrd1.lt
  rcases (by omega : r = 0 ∨ 0 < r) with rfl | hr
  all_goals
    go_wp2_with fail
    refine (one_any _ B g _ _ _ (fun z => 0 ≤ z ∧ z ≤ 10001) (hrd1.alloc _) (by omega) (by exact heap_alloc_new _ _) (by omega) (by rfl) (by decide) (by simp)).mono ?_
    rintro e u1 ⟨z, hz, rfl, hrd2, hon2⟩
    go_wp2
    go_ret
    exact ⟨z, hz, rfl, hrd2.more (by omega) (Nat.le_refl _) (by have := hrd2.2.1; omega), on_call hon2 (on_alloc (on_call hon1 (on_refl _ _)) _)⟩


end Go.Proofs.Ytlfhfbeacleggaa
