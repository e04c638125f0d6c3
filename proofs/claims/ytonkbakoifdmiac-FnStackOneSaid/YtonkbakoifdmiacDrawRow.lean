/- Drawn lists of boxes. -/
import Derived.Test.YtonkbakoifdmiacDrawBox
import Derived.Test.YtonkbakoifdmiacRec3
import Derived.Test.YtonkbakoifdmiacRecA
namespace Go.Proofs.Ytonkbakoifdmiac
open Go.ChangeShapes Go.WideShapes Go.ChangeAt Go.RowKit
set_option linter.unusedVariables false
set_option maxRecDepth 4000

theorem RD.belowR {w w' : World} {B B' g N : Nat} (h : RD w B g N) (hb : Below B' w w') (hB : B ≤ B') : RD w' B g N :=
  h.keep (fun _ hq => hb.cell (Nat.lt_of_lt_of_le hq hB)) (fun _ hq => hb.frozen (Nat.lt_of_lt_of_le hq hB)) hb.size
theorem on_belowR {w w' a : World} {B g : Nat} (h : Below B w w') (hB : a.heap.size ≤ B) (h0 : a.grownBy w (some g)) : a.grownBy w' (some g) :=
  ⟨h.os.trans h0.os, h.tape.trans h0.tape, h.output.trans h0.output, Nat.le_trans h0.size h.size, fun i hi hne => (h.block i (by omega)).trans (h0.block i hi hne)⟩
theorem TO.read {w w' : World} {B g c : Nat} {e : TypeId} {A : Option Addr} {L : List Gp} (h : TO w e B A c L) (hg : w.grownBy w' (some g)) (hlt : g < B) : TO w' e B A c L :=
  h.kept hg (fun k hk e => by
    have := (h.own_lt k hk).1
    injection e with e
    omega)
theorem cells3 (u : World) (a b c : Int) (t : TypeId) : ∀ j, j < Rec.size Gp → (u.alloc (.cells #[.int .i64 a, .int .i64 b, .int .i64 c] t)).cell? ⟨u.heap.size, j, none⟩ = (Rec.cells (⟨a, b, c⟩ : Gp))[j]? := by
  intro j hj
  have hj' : j < 3 := hj
  rcases (by omega : j = 0 ∨ j = 1 ∨ j = 2) with rfl | rfl | rfl <;> simp [go_sem, Rec.cells]
theorem ones3 (x : Gp) : ∀ u ∈ Rec.cells x, u.oneCell' = true := by
  intro u hu
  simp [Rec.cells] at hu
  rcases hu with rfl | rfl | rfl <;> rfl
/-- A store of a whole record at the place 0. -/
theorem TO.set0 {w : World} {B g c : Nat} {e : TypeId} {L : List Gp} (h : TO w e B (some ⟨g, 0, none⟩) c L) (h0 : 0 < L.length) (x y z : Int) :
    TO (((w.setCell ⟨g, 0, none⟩ (.int .i64 x)).setCell ⟨g, 1, none⟩ (.int .i64 y)).setCell ⟨g, 2, none⟩ (.int .i64 z)) e B (some ⟨g, 0, none⟩) c (L.set 0 ⟨x, y, z⟩) := by
  cases L with
  | nil => simp at h0
  | cons r L =>
    have hF : (((⟨x, y, z⟩ : Gp) :: L).flatMap Rec.cells).length = ((r :: L).flatMap Rec.cells).length := by rw [flat_len, flat_len]; simp
    have h' : w.ownsRow B e 3 (.slice (some ⟨g, 0, none⟩) (r :: L).length c) (r :: L).length (vmix (((⟨x, y, z⟩ : Gp) :: L).flatMap Rec.cells) ((r :: L).flatMap Rec.cells) (0 * 3)) := by
      rw [Nat.zero_mul, vmix_zero]; exact h
    have := own_put3 (p := 0) h' hF.symm (a := .int .i64 x) (b := .int .i64 y) (v := .int .i64 z) rfl rfl rfl
    unfold TO
    simp only [Nat.zero_mul, Nat.zero_add] at this
    rw [List.set_cons_zero]
    have e : vmix (((⟨x, y, z⟩ : Gp) :: L).flatMap Rec.cells) ((r :: L).flatMap Rec.cells) (1 * 3) = ((⟨x, y, z⟩ : Gp) :: L).flatMap Rec.cells := by
      simp [vmix, Rec.cells]
    rw [← e]
    exact this

set_option maxHeartbeats 2000000 in
theorem anyBoxes_any (w : World) (B g N : Nat) (h : RD w B g N) (hN : N ≤ 100000000) (hB : B ≤ w.heap.size) :
    Calls Try.prog 37 #[.pointer (some ⟨g, 0, none⟩)] w fun e w' => ∃ (A : Option Addr) (c : Nat) (L : List Gp), e = .returned (.slice A L.length c) ∧ TO w' 26 w.heap.size A c L ∧ L.length ≤ 21 ∧ RD w' B g (N + 100) ∧ w.grownBy w' (some g) := by
  obtain ⟨i0, hi0, jz0, jz1, jz2⟩ := info_parts Box_info
  have hg := h.lt
  go_enter Try.func37, Try.ntmps37
  have H0 : Hid (TO (w.alloc (.cells #[] 26)) 26 w.heap.size (some ⟨w.heap.size, 0, none⟩) 0 ([] : List Gp)) := hide (TO.lit0 (Nat.le_refl _))
  go_wp2_with fail
  refine (one_any _ B g _ _ _ (fun z => 0 ≤ z ∧ z ≤ 21) (RD.alloc (RD.alloc h _) _) (by omega) (by first | exact heap_alloc_new _ _ | exact heap_new2 _ _ _) (by omega) (by rfl) (by decide) (by simp)).mono ?_
  rintro e u0 ⟨r, ⟨hr0, hr1⟩, rfl, hrd, hon⟩
  have H1 := hide ((H0.out.alloc _).read hon hg)
  have O1 := hide (on_call hon (on_alloc (on_alloc (on_refl w (some g)) _) _))
  have hz := hon.size
  simp at hz
  clear hon h H0
  go_wp2
  go_loopw [3, 4] (fun v i u => ∃ (q m : Nat) (A : Option Addr) (cc : Nat) (L : List Gp), q + m ≤ 21 ∧ i = .int .i64 m ∧ v = .slice A q cc ∧ q = L.length ∧ TO u 26 w.heap.size A cc L ∧ RD u B g (N + 1 + 3 * q) ∧ w.grownBy u (some g)) (fun _ i _ => (intOf i).toNat)
  case atStart => exact ⟨0, r.toNat, _, _, [], by omega, by go_num, rfl, rfl, H1.out, hrd, O1.out⟩
  case round =>
    obtain ⟨q, m, A, cc, L, hqm, rfl, rfl, hpl, hol, hrd, hon⟩ := hrel
    have HPL := hide hpl
    clear hpl
    have hzr := hon.size
    rcases Nat.eq_zero_or_pos m with hm | hm
    · subst hm
      have HOL := hide hol
      have HRD := hide hrd
      have HON := hide hon
      rcases Nat.eq_zero_or_pos q with hq | hq
      · subst hq
        go_wp2
        go_ret
        exact ⟨A, cc, L, by rw [← HPL.out]; rfl, HOL.out, by rw [← HPL.out]; omega, HRD.out.more (by omega) (Nat.le_refl _) (by omega), HON.out⟩
      · go_wp2_with fail
        refine (pick_any _ B g _ _ hrd (by omega) (by omega) (by omega)).mono ?_
        rintro e u1 ⟨s, hs0, hs1, rfl, hrd1, hon1⟩
        have hol1 := hol.read hon1 hg
        have O2 := hide (on_call hon1 hon)
        have hz1 := hon1.size
        clear hol hon hon1 hrd HOL HRD HON
        rcases (by omega : s = 0 ∨ 0 < s) with rfl | hs
        · go_wp2_with fail
          refine (anyBox_any _ B g _ hrd1 (by omega)).mono ?_
          rintro e u2 ⟨x, y, z, rfl, hrd2, hon2⟩
          have hol2 := hol1.read hon2 hg
          have O3 := hide (on_call hon2 O2.out)
          have hz2 := hon2.size
          obtain ⟨g', rfl, hBg, hgz, hfz⟩ := hol2.frozen (by rw [← HPL.out]; omega)
          obtain ⟨b, o, he, _, c0, c1, c2⟩ := hol2.reads.at3 (i := 0) (by rw [← HPL.out]; omega)
          injection he with he
          cases he
          have f0 := hfz 0
          have f1 := hfz 1
          have f2 := hfz 2
          have M := hide (hol2.set0 (by rw [← HPL.out]; omega) x y z)
          simp only [Nat.zero_mul, Nat.zero_add] at c0 c1 c2
          clear hfz hon2 hol1 hol2
          go_wp2
          go_ret
          exact ⟨some ⟨g', 0, none⟩, cc, L.set 0 ⟨x, y, z⟩, by rw [List.length_set, ← HPL.out]; rfl, M.out, by rw [List.length_set, ← HPL.out]; omega, ((RD.set_ (RD.set_ (RD.set_ hrd2 (Nat.le_trans hB hBg) _) (Nat.le_trans hB hBg) _) (Nat.le_trans hB hBg) _)).more (by omega) (Nat.le_refl _) (by simp; omega), on_set (on_set (on_set O3.out (.inr hBg) _) (.inr hBg) _) (.inr hBg) _⟩
        · have hs' : (s == 0) = false := beq_eq_false_iff_ne.2 (by omega)
          go_wp2
          go_ret
          exact ⟨A, cc, L, by rw [← HPL.out]; rfl, hol1, by rw [← HPL.out]; omega, hrd1.more (by omega) (Nat.le_refl _) (by omega), O2.out⟩
    · go_wp2_with fail
      refine (randomBox_any _ B g _ hrd (by omega)).mono ?_
      rintro e u1 ⟨x, y, z, rfl, hx, hy, hz', hrd1, hon1⟩
      have hol1 := hol.read hon1 hg
      have O2 := hide (on_call hon1 hon)
      have hz1 := hon1.size
      have hz2 : w.heap.size ≤ u1.heap.size := by omega
      clear hx hy hz' hon1 hon hol hrd
      go_wp2_with (at_builtin; refine wpList_append_rec rfl (.tmp 13) (.tmp 16) _ rfl 26 i0 _ 24 Try.underlying23 hi0 jz0 jz1 jz2 rfl (by decide) w.heap.size A cc q L rfl (HPL.out) (hol1.alloc _) u1.heap.size ⟨x, y, z⟩ rfl (ones3 _) (cells3 _ _ _ _ _) (by omega) (by simp; omega) ?_; intro A' c' w' hol' hb' hg')
      go_roundw
      case rel =>
        exact ⟨q + 1, m - 1, A', c', L ++ [⟨x, y, z⟩], by omega, by go_num, rfl, by simp [HPL.out], hol', ((hrd1.alloc _).belowR hb' (by omega)).more (by omega) (Nat.le_refl _) (by have := hb'.size; simp at this; omega), on_belowR hb' (Nat.le_refl _) (on_alloc O2.out _)⟩
      case measure => simp [intOf]; omega

theorem DrawRowBox_any (w : World) (a : Option Addr) (n c : Nat) (zs : List Int) (h : IsRow .u8 w a n c zs) :
    Calls Try.prog 11 #[.slice a n c] w fun e w' => ∃ (A : Option Addr) (c : Nat) (L : List Gp), e = .returned (.slice A L.length c) ∧ TO w' 26 w.heap.size A c L ∧ L.length ≤ 21 ∧ Below w.heap.size w w' := by
  go_enter Try.func11, Try.ntmps11
  go_wp2_with fail
  refine (newReader_any _ _ _ _ _ h).mono ?_
  rintro e u0 ⟨rfl, hrd, hb⟩
  go_wp2_with fail
  refine (anyBoxes_any _ _ _ _ hrd (by omega) hrd.2.1).mono ?_
  rintro e u1 ⟨A, c1, L, rfl, hol, hll, hrd1, hon1⟩
  have hb1 : Below w.heap.size w u1 := on_new (on_call hon1 (on_below hb (on_refl _ _))) (Nat.le_refl _)
  go_wp2
  go_ret
  exact ⟨A, c1, L, rfl, hol.more hb.size, hll, hb1⟩
end Go.Proofs.Ytonkbakoifdmiac
