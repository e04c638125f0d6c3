/- Drawn figures and spaces of pages. -/
import Derived.Test.YtkclecfjpabplaaDrawI
import Derived.Test.YtkclecfjpabplaaRec2
import Derived.Test.YtkclecfjpabplaaRecA
namespace Go.Proofs.Ytkclecfjpabplaa
open Go.ChangeShapes Go.WideShapes Go.ChangeAt Go.RowKit
set_option linter.unusedVariables false
set_option maxRecDepth 4000

theorem Figure_info : (Try.prog.info? 46).map (fun i => (i.zero, i.size, i.bytes)) = some (some (.agg #[.int .i64 0, .int .i64 0]), 2, 16) := by kernel_rfl
theorem TO.readF {w w' : World} {B g c : Nat} {e : TypeId} {A : Option Addr} {L : List Du} (h : TO w e B A c L) (hg : w.grownBy w' (some g)) (hlt : g < B) : TO w' e B A c L :=
  h.kept hg (fun k hk e => by
    have := (h.own_lt k hk).1
    injection e with e
    omega)
theorem cells2 (u : World) (a b : Int) (t : TypeId) : ∀ j, j < Rec.size Du → (u.alloc (.cells #[.int .i64 a, .int .i64 b] t)).cell? ⟨u.heap.size, j, none⟩ = (Rec.cells (⟨a, b⟩ : Du))[j]? := by
  intro j hj
  have hj' : j < 2 := hj
  rcases (by omega : j = 0 ∨ j = 1) with rfl | rfl <;> simp [go_sem, Rec.cells]
theorem ones2 (x : Du) : ∀ u ∈ Rec.cells x, u.oneCell' = true := by
  intro u hu
  simp [Rec.cells] at hu
  rcases hu with rfl | rfl <;> rfl
/-- Pages of figures that do not run away. -/
def FB (L : List Du) : Prop := ∀ x ∈ L, -1 ≤ x.b ∧ x.b ≤ 12
theorem FB.nil : FB [] := fun x hx => by cases hx
theorem FB.snoc {L : List Du} {x : Du} (h : FB L) (hx : -1 ≤ x.b ∧ x.b ≤ 12) : FB (L ++ [x]) := fun y hy => by
  rcases List.mem_append.1 hy with hy | hy
  · exact h y hy
  · simp at hy; subst hy; exact hx
theorem TO.setA {w : World} {B g c : Nat} {e : TypeId} {L : List Du} (h : TO w e B (some ⟨g, 0, none⟩) c L) (h0 : 0 < L.length) (hL : FB L) (z : Int) : ∃ L' : List Du, L'.length = L.length ∧ FB L' ∧ TO (w.setCell ⟨g, 0, none⟩ (.int .i64 z)) e B (some ⟨g, 0, none⟩) c L' := by
  cases L with
  | nil => simp at h0
  | cons r L =>
    refine ⟨⟨z, r.b⟩ :: L, rfl, fun x hx => ?_, ?_⟩
    · rcases List.mem_cons.1 hx with rfl | hx
      · exact hL r (List.mem_cons_self ..)
      · exact hL x (List.mem_cons_of_mem _ hx)
    · have := (World.ownsRow.stored h 0 (.int .i64 z)).1
      unfold TO
      simpa [Rec.cells] using this
theorem TO.setB {w : World} {B g c : Nat} {e : TypeId} {L : List Du} (h : TO w e B (some ⟨g, 0, none⟩) c L) (h0 : 0 < L.length) (hL : FB L) {z : Int} (hz : -1 ≤ z ∧ z ≤ 12) : ∃ L' : List Du, L'.length = L.length ∧ FB L' ∧ TO (w.setCell ⟨g, 1, none⟩ (.int .i64 z)) e B (some ⟨g, 0, none⟩) c L' := by
  cases L with
  | nil => simp at h0
  | cons r L =>
    refine ⟨⟨r.a, z⟩ :: L, rfl, fun x hx => ?_, ?_⟩
    · rcases List.mem_cons.1 hx with rfl | hx
      · exact hz
      · exact hL x (List.mem_cons_of_mem _ hx)
    · have := (World.ownsRow.stored h 1 (.int .i64 z)).1
      unfold TO
      simpa [Rec.cells] using this

set_option maxHeartbeats 2000000 in
theorem randomFigures_any (w : World) (B g N : Nat) (h : RD w B g N) (hN : N ≤ 100000000) (hB : B ≤ w.heap.size) :
    Calls Try.prog 109 #[.pointer (some ⟨g, 0, none⟩)] w fun e w' => ∃ (A : Option Addr) (c : Nat) (L : List Du), e = .returned (.slice A L.length c) ∧ TO w' 46 w.heap.size A c L ∧ L.length ≤ 5 ∧ FB L ∧ RD w' B g (N + 20) ∧ w.grownBy w' (some g) := by
  obtain ⟨i0, hi0, jz0, jz1, jz2⟩ := info_parts Figure_info
  have hg := h.lt
  go_enter Try.func109, Try.ntmps109
  have H0 : Hid (TO (w.alloc (.cells #[] 46)) 46 w.heap.size (some ⟨w.heap.size, 0, none⟩) 0 ([] : List Du)) := hide (TO.lit0 (Nat.le_refl _))
  go_wp2_with fail
  refine (pick_any _ B g _ _ (RD.alloc h _) (by omega) (by omega) (by omega)).mono ?_
  rintro e u0 ⟨r, hr0, hr1, rfl, hrd, hon⟩
  have H1 := hide (H0.out.readF hon hg)
  have O1 := hide (on_call hon (on_alloc (on_refl w (some g)) _))
  have hz := hon.size
  simp at hz
  clear hon h H0
  go_wp2
  go_loopw [3, 4, 5] (fun v pg i u => ∃ (q m k : Nat) (A : Option Addr) (cc : Nat) (L : List Du), q + m ≤ 5 ∧ k ≤ 11 ∧ i = .int .i64 m ∧ pg = .int .i64 k ∧ v = .slice A q cc ∧ q = L.length ∧ FB L ∧ TO u 46 w.heap.size A cc L ∧ RD u B g (N + 1 + 2 * q) ∧ w.grownBy u (some g)) (fun _ _ i _ => (intOf i).toNat)
  case atStart => exact ⟨0, r.toNat, 0, _, _, [], by omega, by omega, by go_num, rfl, rfl, rfl, FB.nil, H1.out, hrd, O1.out⟩
  case round =>
    obtain ⟨q, m, k, A, cc, L, hqm, hk11, rfl, rfl, rfl, hpl, hfb, hol, hrd, hon⟩ := hrel
    have HPL := hide hpl
    have HFB := hide hfb
    clear hpl hfb
    have hzr := hon.size
    rcases Nat.eq_zero_or_pos m with hm | hm
    · subst hm
      go_wp2
      go_ret
      exact ⟨A, cc, L, by rw [← HPL.out]; rfl, hol, by rw [← HPL.out]; omega, HFB.out, hrd.more (by omega) (Nat.le_refl _) (by omega), hon⟩
    · go_wp2_with fail
      refine (pick_any _ B g _ _ hrd (by omega) (by omega) (by omega)).mono ?_
      rintro e u1 ⟨r, hr0, hr1, rfl, hrd1, hon1⟩
      have hol1 := hol.readF hon1 hg
      have O2 := hide (on_call hon1 hon)
      have hz1 := hon1.size
      clear hol hon hon1 hrd
      obtain ⟨k', hk'⟩ : ∃ k' : Nat, (k' : Int) = min ((k : Int) + r) 11 := ⟨(min ((k : Int) + r) 11).toNat, by omega⟩
      rcases (by omega : (k : Int) + r ≤ 11 ∧ (k : Int) + r = (k' : Int) ∨ 11 < (k : Int) + r ∧ (k' : Int) = 11) with ⟨e1, e2⟩ | ⟨e1, e2⟩
      all_goals
        have kk : k' ≤ 11 := by omega
        clear hk'
        go_wp2_with fail
        refine (pick_any _ B g _ _ hrd1 (by omega) (by omega) (by omega)).mono ?_
        rintro e u2 ⟨s, hs0, hs1, rfl, hrd2, hon2⟩
        have hol2 := hol1.readF hon2 hg
        have O3 := hide (on_call hon2 O2.out)
        have hz2 := hon2.size
        have hz3 : w.heap.size ≤ u2.heap.size := by omega
        clear hol1 hon2 hrd1 O2
        first
          | (go_wp2_with (at_builtin; refine wpList_append_rec rfl (.tmp 18) (.tmp 24) _ rfl 46 i0 _ 16 Try.underlying38 hi0 jz0 jz1 jz2 rfl (by decide) w.heap.size A cc q L rfl (HPL.out) (hol2.alloc _) u2.heap.size ⟨1 + s, (k' : Int)⟩ rfl (ones2 _) (cells2 _ _ _ _) (by omega) (by simp; omega) ?_; intro A' c' w' hol' hb' hg'); go_roundw; (case rel => exact ⟨q + 1, m - 1, k', A', c', L ++ [⟨1 + s, (k' : Int)⟩], by omega, kk, by go_num, by first | rfl | rw [e2], rfl, by simp [HPL.out], HFB.out.snoc ⟨by show (-1 : Int) ≤ (k' : Int); omega, by show (k' : Int) ≤ (12 : Int); omega⟩, hol', ((hrd2.alloc _).below' hb' (by omega)).more (by omega) (Nat.le_refl _) (by have := hb'.size; simp at this; omega), on_below' hb' (Nat.le_refl _) (on_alloc O3.out _)⟩); (case measure => (simp [intOf]; omega)))
          | (go_wp2_with (at_builtin; refine wpList_append_rec rfl (.tmp 18) (.tmp 24) _ rfl 46 i0 _ 16 Try.underlying38 hi0 jz0 jz1 jz2 rfl (by decide) w.heap.size A cc q L rfl (HPL.out) (hol2.alloc _) u2.heap.size ⟨1 + s, 11⟩ rfl (ones2 _) (cells2 _ _ _ _) (by omega) (by simp; omega) ?_; intro A' c' w' hol' hb' hg'); go_roundw; (case rel => exact ⟨q + 1, m - 1, k', A', c', L ++ [⟨1 + s, 11⟩], by omega, kk, by go_num, by first | rfl | rw [e2.symm], rfl, by simp [HPL.out], HFB.out.snoc ⟨by show (-1 : Int) ≤ 11; omega, by show 11 ≤ (12 : Int); omega⟩, hol', ((hrd2.alloc _).below' hb' (by omega)).more (by omega) (Nat.le_refl _) (by have := hb'.size; simp at this; omega), on_below' hb' (Nat.le_refl _) (on_alloc O3.out _)⟩); (case measure => (simp [intOf]; omega)))

set_option maxHeartbeats 1000000 in
theorem anyFigures_any (w : World) (B g N : Nat) (h : RD w B g N) (hN : N ≤ 100000000) (hB : B ≤ w.heap.size) :
    Calls Try.prog 97 #[.pointer (some ⟨g, 0, none⟩)] w fun e w' => ∃ (A : Option Addr) (c : Nat) (L : List Du), e = .returned (.slice A L.length c) ∧ TO w' 46 w.heap.size A c L ∧ L.length ≤ 5 ∧ FB L ∧ RD w' B g (N + 30) ∧ w.grownBy w' (some g) := by
  have hg := h.lt
  go_enter Try.func97, Try.ntmps97
  go_wp2_with fail
  refine (randomFigures_any _ B g _ h (by omega) hB).mono ?_
  rintro e u0 ⟨A, cc, L, rfl, hol, hll, hfb, hrd, hon⟩
  have HFB := hide hfb
  have hz := hon.size
  clear hfb
  rcases Nat.eq_zero_or_pos L.length with h0 | h0
  · have g0 : decide ((0 : Int) < (L.length : Int)) = false := decide_eq_false (by omega)
    have g1 : ¬ (0 : Int) < (L.length : Int) := by omega
    go_wp2
    go_ret
    exact ⟨A, cc, L, by rw [h0]; rfl, hol, hll, HFB.out, hrd.more (by omega) (Nat.le_refl _) (by omega), hon⟩
  go_wp2_with fail
  refine (pick_any _ B g _ _ hrd (by omega) (by omega) (by omega)).mono ?_
  rintro e u1 ⟨r, hr0, hr1, rfl, hrd1, hon1⟩
  have hol1 := hol.readF hon1 hg
  have O1 := hide (on_call hon1 hon)
  have hz1 := hon1.size
  clear hol hon hon1 hrd
  rcases (by omega : r = 0 ∨ r = 1 ∨ 1 < r) with rfl | rfl | hr
  · go_wp2_with fail
    refine (one_any _ B g _ _ _ (fun z => True) (hrd1.alloc _) (by omega) (by exact heap_alloc_new _ _) (by omega) (by rfl) (by decide) (by simp)).mono ?_
    rintro e u2 ⟨z, _, rfl, hrd2, hon2⟩
    have hol2 := (hol1.alloc _).readF hon2 hg
    have O2 := hide (on_call hon2 (on_alloc O1.out _))
    obtain ⟨g', rfl, hBg, hgz, hfz⟩ := hol2.frozen h0
    obtain ⟨b, o, he, _, c0, c1⟩ := hol2.reads.at2 (i := 0) h0
    injection he with he
    cases he
    have f0 := hfz 0
    obtain ⟨L', hl', hfb', M'⟩ := hol2.setA h0 HFB.out z
    have M := hide M'
    have HF2 := hide hfb'
    simp only [Nat.zero_mul, Nat.zero_add] at c0 c1
    clear hfz hon2 hol1 hol2 M' hfb'
    go_wp2
    go_ret
    exact ⟨some ⟨g', 0, none⟩, cc, L', by rw [hl']; rfl, M.out, by omega, HF2.out, (RD.set_ hrd2 (Nat.le_trans hB hBg) _).more (by omega) (Nat.le_refl _) (by simp; omega), on_set O2.out (.inr hBg) _⟩
  · go_wp2_with fail
    refine (one_any _ B g _ _ _ (fun z => -1 ≤ z ∧ z ≤ 12) (hrd1.alloc _) (by omega) (by exact heap_alloc_new _ _) (by omega) (by rfl) (by decide) (by simp)).mono ?_
    rintro e u2 ⟨z, hz', rfl, hrd2, hon2⟩
    have hol2 := (hol1.alloc _).readF hon2 hg
    have O2 := hide (on_call hon2 (on_alloc O1.out _))
    obtain ⟨g', rfl, hBg, hgz, hfz⟩ := hol2.frozen h0
    obtain ⟨b, o, he, _, c0, c1⟩ := hol2.reads.at2 (i := 0) h0
    injection he with he
    cases he
    have f1 := hfz 1
    obtain ⟨L', hl', hfb', M'⟩ := hol2.setB h0 HFB.out hz'
    have M := hide M'
    have HF2 := hide hfb'
    simp only [Nat.zero_mul, Nat.zero_add] at c0 c1
    clear hfz hon2 hol1 hol2 M' hfb' hz'
    go_wp2
    go_ret
    exact ⟨some ⟨g', 0, none⟩, cc, L', by rw [hl']; rfl, M.out, by omega, HF2.out, (RD.set_ hrd2 (Nat.le_trans hB hBg) _).more (by omega) (Nat.le_refl _) (by simp; omega), on_set O2.out (.inr hBg) _⟩
  · have g0 : (r == 0) = false := beq_eq_false_iff_ne.2 (by omega)
    have g1 : (r == 1) = false := beq_eq_false_iff_ne.2 (by omega)
    go_wp2
    go_ret
    exact ⟨A, cc, L, rfl, hol1, by omega, HFB.out, hrd1.more (by omega) (Nat.le_refl _) (by omega), O1.out⟩

set_option maxHeartbeats 1000000 in
theorem someSpace_any (w : World) (B g N : Nat) (h : RD w B g N) (hN : N ≤ 1000000000) (hB : B ≤ w.heap.size) :
    Calls Try.prog 98 #[.pointer (some ⟨g, 0, none⟩)] w fun e w' => ∃ (A : Option Addr) (c : Nat) (l : List Int), e = .returned (.slice A l.length c) ∧ OL w' 3 w.heap.size A c l ∧ l.length ≤ 13 ∧ (∀ j, j < l.length → -1 ≤ ng l j ∧ ng l j ≤ 10001) ∧ RD w' B g (N + 20) ∧ w.grownBy w' (some g) := by
  obtain ⟨i0, hi0, jz0, jz1, jz2⟩ := info_parts int_info
  have hg := h.lt
  go_enter Try.func98, Try.ntmps98
  have H0 : Hid (OL (w.alloc (.cells #[] 3)) 3 w.heap.size (some ⟨w.heap.size, 0, none⟩) 0 []) := hide (by
      have := OL.lit (w := w) (e := 3) (B := w.heap.size) (Nat.le_refl _) [] (by simp)
      simpa using this)
  go_wp2_with fail
  refine (one_any _ B g _ _ _ (fun z => 0 ≤ z ∧ z ≤ 13) ((h.alloc _).alloc _) (by omega) (by exact heap_new2 _ _ _) (by omega) (by rfl) (by decide) (by simp)).mono ?_
  rintro e u0 ⟨r, ⟨hr0, hr1⟩, rfl, hrd, hon⟩
  have H1 := hide ((H0.out.alloc _).read hon hg)
  have O1 := hide (on_call hon (on_alloc (on_alloc (on_refl w (some g)) _) _))
  have hz := hon.size
  simp at hz
  clear hon h
  go_wp2
  go_loopw [3, 4] (fun v i u => ∃ (p m : Nat) (A : Option Addr) (cc : Nat) (l : List Int), p + m ≤ 13 ∧ i = .int .i64 m ∧ v = .slice A p cc ∧ p = l.length ∧ OL u 3 w.heap.size A cc l ∧ (∀ j, j < l.length → -1 ≤ ng l j ∧ ng l j ≤ 10001) ∧ RD u B g (N + 1 + p) ∧ w.grownBy u (some g)) (fun _ i _ => (intOf i).toNat)
  case atStart => exact ⟨0, r.toNat, _, _, [], by omega, by go_num, rfl, rfl, H1.out, fun j hj => by simp at hj, hrd, O1.out⟩
  case round =>
    obtain ⟨p, m, A, cc, l, hpm, rfl, rfl, hpl, hol, hel, hrd, hon⟩ := hrel
    have HPL := hide hpl
    clear hpl
    have hzr := hon.size
    rcases Nat.eq_zero_or_pos m with hm | hm
    · subst hm
      rcases Nat.eq_zero_or_pos p with hp | hp
      · have p0 : decide ((0 : Int) < (p : Int)) = false := decide_eq_false (by omega)
        subst hp
        go_wp2
        go_ret
        exact ⟨A, cc, l, by rw [← HPL.out]; rfl, hol, by rw [← HPL.out]; omega, hel, hrd.more (by omega) (Nat.le_refl _) (by omega), hon⟩
      go_wp2_with fail
      refine (pick_any _ B g _ _ hrd (by omega) (by omega) (by omega)).mono ?_
      rintro e u0 ⟨r, hr0, hr1, rfl, hrd1, hon1⟩
      have O2 := hide (on_call hon1 hon)
      have hol1 := hol.read hon1 hg
      have hz1 := hon1.size
      rcases (by omega : r = 0 ∨ 0 < r) with rfl | hr
      · go_wp2_with fail
        refine (one_any _ B g _ _ _ (fun z => -1 ≤ z ∧ z ≤ 10001) (hrd1.alloc _) (by omega) (by exact heap_alloc_new _ _) (by omega) (by rfl) (by decide) (by simp)).mono ?_
        rintro e u1 ⟨z, hz, rfl, hrd2, hon2⟩
        have hol2 := (hol1.alloc _).read hon2 hg
        have O3 := hide (on_call hon2 (on_alloc O2.out _))
        obtain ⟨g', rfl, hBg, hgz, hfz⟩ := hol2.frozen (by rw [← HPL.out]; omega)
        obtain ⟨b, o, he, _, hc⟩ := hol2.reads.at_ (i := 0) (by rw [← HPL.out]; omega)
        injection he with he
        cases he
        have fz := hfz 0
        have M := hide (hol2.set_ 0 z).1
        have HZ := hide hz
        rw [Nat.zero_add] at hc
        clear hfz hz hon2 hon1 hol hol1 hol2
        go_wp2
        go_ret
        refine ⟨some ⟨g', 0, none⟩, cc, l.set 0 z, by rw [List.length_set, ← HPL.out]; rfl, M.out, by rw [List.length_set, ← HPL.out]; omega, fun j hj => ?_, (hrd2.set_ (Nat.le_trans hB hBg) _).more (by omega) (Nat.le_refl _) (by simp; omega), on_set O3.out (.inr hBg) _⟩
        rw [List.length_set] at hj
        rw [ng_set hj]
        split
        · exact HZ.out
        · exact hel j hj
      · have r0 : (r == 0) = false := beq_eq_false_iff_ne.2 (by omega)
        go_wp2
        go_ret
        exact ⟨A, cc, l, by rw [HPL.out]; rfl, hol1, by rw [← HPL.out]; omega, hel, hrd1.more (by omega) (Nat.le_refl _) (by omega), O2.out⟩
    · go_wp2_with fail
      refine (one_any _ B g _ _ _ (fun z => -1 ≤ z ∧ z ≤ 10001) (hrd.alloc _) (by omega) (by exact heap_alloc_new _ _) (by omega) (by rfl) (by decide) (by simp)).mono ?_
      rintro e u1 ⟨z, hz, rfl, hrd1, hon1⟩
      have hol1 := (hol.alloc _).read hon1 hg
      have O2 := hide (on_call hon1 (on_alloc hon _))
      have hz1 := hon1.size
      simp at hz1
      have HZ := hide hz
      clear hz hon1 hon hol hrd
      go_wp2_with (at_builtin; refine wpList_append_int rfl (.tmp 13) (.tmp 17) _ rfl 3 i0 Try.underlying22 hi0 jz0 jz1 jz2 w.heap.size A cc p l rfl (HPL.out) (hol1.alloc _) u1.heap.size z rfl (by simp) (by omega) (by simp; omega) ?_; intro A' c' w' hol' hb' hg')
      go_roundw
      case rel =>
        refine ⟨p + 1, m - 1, A', c', l ++ [z], by omega, by go_num, rfl, by simp [HPL.out], hol', ?_, ?_, ?_⟩
        · intro j hj
          exact ng_snoc (P := fun x => -1 ≤ x ∧ x ≤ 10001) HZ.out hel j hj
        · exact ((hrd1.alloc _).below' hb' (by omega)).more (by omega) (Nat.le_refl _) (by have := hb'.size; simp at this; omega)
        · exact on_below' hb' (Nat.le_refl _) (on_alloc O2.out _)
      case measure => simp [intOf]; omega

end Go.Proofs.Ytkclecfjpabplaa
