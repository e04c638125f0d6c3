/- Drawn items of a paragraph, with their widths. -/
import Derived.Test.YtmncdpiojhgcdaaDrawIt
import Derived.Test.YtmncdpiojhgcdaaDrawCb
import Derived.Test.YtmncdpiojhgcdaaFfG
namespace Go.Proofs.Ytmncdpiojhgcdaa
open Go.ChangeShapes Go.WideShapes Go.ChangeAt Go.RowKit
set_option linter.unusedVariables false
set_option linter.unusedSimpArgs false
set_option maxRecDepth 4000

/-- Items of small width. -/
def Sm (L : List It) : Prop := ∀ x ∈ L, x.w ≤ 15
theorem Sm.nil : Sm [] := fun x h => by cases h
theorem Sm.snoc {L : List It} {x : It} (h : Sm L) (hx : x.w ≤ 15) : Sm (L ++ [x]) := fun y hy => by
  rcases List.mem_append.1 hy with e | e
  · exact h y e
  · rw [List.mem_singleton.1 e]; exact hx
theorem Sm.snoc2 {L : List It} {x y : It} (h : Sm L) (hx : x.w ≤ 15) (hy : y.w ≤ 15) : Sm (L ++ [x, y]) := fun z hz => by
  rcases List.mem_append.1 hz with e | e
  · exact h z e
  · simp at e
    rcases e with rfl | rfl
    · exact hx
    · exact hy
theorem Sm.at_ {L : List It} (h : Sm L) {k : Nat} (hk : k < L.length) : (tg L k).w ≤ 15 := by
  rw [tg_lt hk]; exact h _ (List.getElem_mem hk)
theorem Sm.take {L : List It} (h : Sm L) {m : Nat} : Sm (L.take m) := fun x hx => h x (List.mem_of_mem_take hx)
theorem Sm.small {L : List It} (h : Sm L) : Small L := ⟨L.length, fun j hj => by rw [if_neg (by omega)]; exact h.at_ hj⟩
theorem Sm.set {L : List It} (h : Sm L) {k : Nat} {x : It} (hx : x.w ≤ 1001) : Small (L.set k x) := ⟨k, fun j hj => by
  rw [List.length_set] at hj
  rw [tgI_set hj]
  by_cases e : k = j
  · subst e; rw [if_pos rfl, if_pos rfl]; exact hx
  · rw [if_neg e, if_neg (fun q => e q.symm)]; exact h.at_ hj⟩

set_option maxHeartbeats 4000000 in
theorem randomItems_w (w : World) (B g N : Nat) (h : RD w B g N) (hN : N ≤ 100000000) (hB : B ≤ w.heap.size) :
    Calls Try.prog 124 #[.pointer (some ⟨g, 0, none⟩)] w fun e w' => ∃ (A : Option Addr) (c : Nat) (L : List It), e = .returned (.slice A L.length c) ∧ TO w' 45 w.heap.size A c L ∧ (1 ≤ L.length ∧ L.length ≤ 23) ∧ RD w' B g (N + 70) ∧ w.grownBy w' (some g) ∧ Sm L := by
  obtain ⟨i0, hi0, jz0, jz1, jz2⟩ := info_parts it_info
  have hg := h.lt
  go_enter Try.func124, Try.ntmps124
  have H0 : Hid (TO (w.alloc (.cells #[] 45)) 45 w.heap.size (some ⟨w.heap.size, 0, none⟩) 0 ([] : List It)) := hide (TO.lit0 (Nat.le_refl _))
  go_wp2_with fail
  refine (pick_any _ B g _ _ (RD.alloc h _) (by omega) (by omega) (by omega)).mono ?_
  rintro e u0 ⟨r, hr0, hr1, rfl, hrd, hon⟩
  have H1 := hide (H0.out.readI hon (by omega))
  have O1 := hide (on_call hon (on_alloc (on_refl w (some g)) _))
  have hz := hon.size
  simp at hz
  clear hon h H0
  go_wp2
  go_loopw [3, 4] (fun v i u => ∃ (q m : Nat) (A : Option Addr) (cc : Nat) (L : List It), q + 2 * m ≤ 20 ∧ i = .int .i64 m ∧ v = .slice A q cc ∧ q = L.length ∧ TO u 45 w.heap.size A cc L ∧ RD u B g (N + 1 + 3 * q) ∧ w.grownBy u (some g) ∧ Sm L) (fun _ i _ => (intOf i).toNat)
  case atStart => exact ⟨0, r.toNat, _, _, [], by omega, by go_num, rfl, rfl, H1.out, hrd, O1.out, Sm.nil⟩
  case round =>
    clear hrd
    obtain ⟨q, m, A, cc, L, hqm, rfl, rfl, hpl, hol, hrd, hon, hsm⟩ := hrel
    have HSM := hide hsm
    clear hsm
    have HPL := hide hpl
    clear hpl
    have hzr := hon.size
    rcases Nat.eq_zero_or_pos m with hm | hm
    · subst hm
      go_wp2_with fail
      refine (pick_any _ B g _ _ hrd (by omega) (by omega) (by omega)).mono ?_
      rintro e u1 ⟨r, hr0, hr1, rfl, hrd1, hon1⟩
      have hol1 := hol.readI hon1 (by omega)
      have O2 := hide (on_call hon1 hon)
      have hz1 := hon1.size
      clear hol hon hon1 hrd
      rcases (by omega : r = 0 ∨ 0 < r) with rfl | hr
      · go_wp2_with (at_builtin; refine wpList_append_rec rfl (.tmp 71) (.tmp 73) _ rfl 45 i0 _ 48 Try.underlying25 hi0 jz0 jz1 jz2 rfl (by decide) w.heap.size A cc q L rfl (HPL.out) (hol1.alloc _) u1.heap.size ⟨3, 0, 0, 0, -1000, false⟩ rfl (ones6 _) (cells6 _ _ _ _ _ _ rfl) (by omega) (by simp; omega) ?_; intro A' c' w' hol' hb' hg')
        go_ret
        exact ⟨A', c', _, by rw [List.length_append, ← HPL.out]; rfl, hol', by rw [List.length_append, ← HPL.out]; simp; omega, ((hrd1.alloc (.cells #[.int .i64 3, .int .i64 0, .int .i64 0, .int .i64 0, .int .i64 (-1000), .bool false] 45)).belowR hb' hB).more (by omega) (Nat.le_refl _) (by have := hb'.size; simp at this; omega), on_belowR hb' (Nat.le_refl _) (on_alloc O2.out _), HSM.out.snoc (by first | (dsimp only; omega) | decide)⟩
      · go_wp2_with (first | (at_builtin; refine wpList_append_rec2 rfl (.tmp 65) (.tmp 69) _ rfl 45 i0 _ Try.underlying25 hi0 jz0 jz1 jz2 rfl w.heap.size A cc q L rfl (HPL.out) (hol1.alloc _) u1.heap.size ⟨3, 0, 0, 0, 1000, false⟩ ⟨2, 0, 1000, 0, 0, false⟩ rfl (by intro j hj; rcases (by omega : j = 0 ∨ j = 1 ∨ j = 2 ∨ j = 3 ∨ j = 4 ∨ j = 5 ∨ j = 6 ∨ j = 7 ∨ j = 8 ∨ j = 9 ∨ j = 10 ∨ j = 11) with rfl | rfl | rfl | rfl | rfl | rfl | rfl | rfl | rfl | rfl | rfl | rfl <;> simp [go_sem, Rec.cells]) (by omega) (by simp; omega) ?_; intro A' c' w' hol' hb' hg') | (have hzz := hb'.size; simp at hzz; at_builtin; refine wpList_append_rec rfl (.tmp 71) (.tmp 73) _ rfl 45 i0 _ 48 Try.underlying25 hi0 jz0 jz1 jz2 rfl (by decide) w.heap.size A' c' (q + 2) _ rfl (by rw [List.length_append, ← HPL.out]; rfl) (hol'.alloc _) w'.heap.size ⟨3, 0, 0, 0, -1000, false⟩ rfl (ones6 _) (cells6 _ _ _ _ _ _ rfl) (by omega) (by simp; omega) ?_; intro A2 c2 w2 hol2 hb2 hg2))
        go_ret
        exact ⟨A2, c2, _, by rw [List.length_append, List.length_append, ← HPL.out]; rfl, hol2, by rw [List.length_append, List.length_append, ← HPL.out]; simp; omega, ((((hrd1.alloc (.cells #[.int .i64 3, .int .i64 0, .int .i64 0, .int .i64 0, .int .i64 1000, .bool false, .int .i64 2, .int .i64 0, .int .i64 1000, .int .i64 0, .int .i64 0, .bool false] 45)).belowR hb' hB).alloc (.cells #[.int .i64 3, .int .i64 0, .int .i64 0, .int .i64 0, .int .i64 (-1000), .bool false] 45)).belowR hb2 hB).more (by omega) (Nat.le_refl _) (by have := hb2.size; simp at this; have := hb'.size; simp at this; omega), on_belowR hb2 (Nat.le_refl _) (on_alloc (on_belowR hb' (Nat.le_refl _) (on_alloc O2.out _)) _), (HSM.out.snoc2 (by first | (dsimp only; omega) | decide) (by first | (dsimp only; omega) | decide)).snoc (by first | (dsimp only; omega) | decide)⟩
    · go_wp2_with fail
      refine (pick_any _ B g _ _ hrd (by omega) (by omega) (by omega)).mono ?_
      rintro e u1 ⟨r, hr0, hr1, rfl, hrd1, hon1⟩
      have hol1 := hol.readI hon1 (by omega)
      have O2 := hide (on_call hon1 hon)
      have hz1 := hon1.size
      clear hol hon hon1 hrd
      go_wp2_with (first | (at_builtin; refine wpList_append_rec rfl (.tmp 13) (.tmp 19) _ rfl 45 i0 _ 48 Try.underlying25 hi0 jz0 jz1 jz2 rfl (by decide) w.heap.size A cc q L rfl (HPL.out) (hol1.alloc _) u1.heap.size ⟨1, 2 + r, 0, 0, 0, false⟩ rfl (ones6 _) (cells6 _ _ _ _ _ _ rfl) (by omega) (by simp; omega) ?_; intro A' c' w' hol' hb' hg') | fail)
      have HPL2 : Hid (q + 1 = (L ++ [(⟨1, 2 + r, 0, 0, 0, false⟩ : It)]).length) := hide (by rw [List.length_append, ← HPL.out]; rfl)
      have hzq := hb'.size
      simp at hzq
      have hrd2 := (hrd1.alloc (.cells #[.int .i64 1, .int .i64 (2 + r), .int .i64 0, .int .i64 0, .int .i64 0, .bool false] 45)).belowR hb' hB
      have O3 := hide (on_belowR hb' (Nat.le_refl _) (on_alloc O2.out (.cells #[.int .i64 1, .int .i64 (2 + r), .int .i64 0, .int .i64 0, .int .i64 0, .bool false] 45)))
      obtain ⟨LL, hLL⟩ : ∃ LL, LL = L ++ [(⟨1, 2 + r, 0, 0, 0, false⟩ : It)] := ⟨_, rfl⟩
      have HSM2 : Hid (Sm (L ++ [(⟨1, 2 + r, 0, 0, 0, false⟩ : It)])) := hide (HSM.out.snoc (show (2 + r : Int) ≤ 15 by omega))
      rw [← hLL] at hol' HPL2 HSM2
      clear hb' hg' hol1 hrd1 hLL O2
      refine (pick_any _ B g _ _ hrd2 (by omega) (by omega) (by omega)).mono ?_
      rintro e u2 ⟨s, hs0, hs1, rfl, hrd3, hon3⟩
      have hol3 := hol'.readI hon3 (by omega)
      have O4 := hide (on_call hon3 O3.out)
      have hz3 := hon3.size
      have hg3 := hrd3.lt
      clear hol' hon3 hrd2
      rcases (by omega : s = 0 ∨ s = 1 ∨ 2 ≤ s) with rfl | rfl | hs
      · go_wp2_with fail
        refine (pick_any _ B g _ _ hrd3 (by omega) (by omega) (by omega)).mono ?_
        rintro e u3 ⟨x, hx0, hx1, rfl, hrd4, hon4⟩
        have hol4 := hol3.readI hon4 (by omega)
        have O5 := hide (on_call hon4 O4.out)
        have hz4 := hon4.size
        have hg4 := hrd4.lt
        clear hol3 hon4 hrd3
        go_wp2_with fail
        refine (one_any _ B g _ _ _ (fun _ => True) (hrd4.alloc _) (by omega) (by exact heap_alloc_new _ _) (by omega) (by rfl) (by decide) (by simp)).mono ?_
        rintro e u4 ⟨y, _, rfl, hrd5, hon5⟩
        have hol5 := (hol4.alloc _).readI hon5 (by omega)
        have O6 := hide (on_call hon5 (on_alloc O5.out _))
        have hz5 := hon5.size
        simp at hz5
        clear hol4 hon5 hrd4
        go_wp2_with fail
        refine (pick_any _ B g _ _ hrd5 (by omega) (by omega) (by omega)).mono ?_
        rintro e u5 ⟨z, hz0, hz1', rfl, hrd6, hon6⟩
        have hol6 := hol5.readI hon6 (by omega)
        have O7 := hide (on_call hon6 O6.out)
        have hz6 := hon6.size
        clear hol5 hon6 hrd5
        go_wp2_with (at_builtin; refine wpList_append_rec rfl (.tmp 40) (.tmp 51) _ rfl 45 i0 _ 48 Try.underlying25 hi0 jz0 jz1 jz2 rfl (by decide) w.heap.size A' c' (q + 1) LL rfl (HPL2.out) (hol6.alloc _) u5.heap.size ⟨3, x, 0, 0, y, z == 0⟩ rfl (ones6 _) (cells6 _ _ _ _ _ _ rfl) (by omega) (by simp; omega) ?_; intro A' c' w' hol' hb' hg')
        go_roundw
        case rel => exact ⟨q + 2, m - 1, _, _, _, by omega, by go_num, rfl, by rw [List.length_append, ← HPL2.out]; rfl, hol', ((hrd6.alloc _).belowR hb' hB).more (by omega) (Nat.le_refl _) ((hrd6.alloc _).belowR hb' hB).2.1, on_belowR hb' (Nat.le_refl _) (on_alloc O7.out _), HSM2.out.snoc (by first | (dsimp only; omega) | decide)⟩
        case measure => simp [intOf]; omega
      · go_wp2_with fail
        refine (one_any _ B g _ _ _ (fun _ => True) (hrd3.alloc _) (by omega) (by exact heap_alloc_new _ _) (by omega) (by rfl) (by decide) (by simp)).mono ?_
        rintro e u4 ⟨y, _, rfl, hrd5, hon5⟩
        have hol5 := (hol3.alloc _).readI hon5 (by omega)
        have O6 := hide (on_call hon5 (on_alloc O4.out _))
        have hz5 := hon5.size
        simp at hz5
        clear hol3 hon5 hrd3
        go_wp2_with (at_builtin; refine wpList_append_rec rfl (.tmp 55) (.tmp 60) _ rfl 45 i0 _ 48 Try.underlying25 hi0 jz0 jz1 jz2 rfl (by decide) w.heap.size A' c' (q + 1) LL rfl (HPL2.out) (hol5.alloc _) u4.heap.size ⟨3, 0, 0, 0, y, false⟩ rfl (ones6 _) (cells6 _ _ _ _ _ _ rfl) (by omega) (by simp; omega) ?_; intro A' c' w' hol' hb' hg')
        go_roundw
        case rel => exact ⟨q + 2, m - 1, _, _, _, by omega, by go_num, rfl, by rw [List.length_append, ← HPL2.out]; rfl, hol', ((hrd5.alloc _).belowR hb' hB).more (by omega) (Nat.le_refl _) ((hrd5.alloc _).belowR hb' hB).2.1, on_belowR hb' (Nat.le_refl _) (on_alloc O6.out _), HSM2.out.snoc (by first | (dsimp only; omega) | decide)⟩
        case measure => simp [intOf]; omega
      · have gs0 : (s == 0) = false := beq_eq_false_iff_ne.2 (by omega)
        have gs1 : (s == 1) = false := beq_eq_false_iff_ne.2 (by omega)
        go_wp2_with fail
        refine (pick_any _ B g _ _ hrd3 (by omega) (by omega) (by omega)).mono ?_
        rintro e u3 ⟨x, hx0, hx1, rfl, hrd4, hon4⟩
        have hol4 := hol3.readI hon4 (by omega)
        have O5 := hide (on_call hon4 O4.out)
        have hz4 := hon4.size
        clear hol3 hon4 hrd3
        go_wp2_with fail
        refine (pick_any _ B g _ _ hrd4 (by omega) (by omega) (by omega)).mono ?_
        rintro e u4 ⟨y, hy0, hy1, rfl, hrd5, hon5⟩
        have hol5 := hol4.readI hon5 (by omega)
        have O6 := hide (on_call hon5 O5.out)
        have hz5 := hon5.size
        clear hol4 hon5 hrd4
        go_wp2_with fail
        refine (pick_any _ B g _ _ hrd5 (by omega) (by omega) (by omega)).mono ?_
        rintro e u5 ⟨z, hz0, hz1', rfl, hrd6, hon6⟩
        have hol6 := hol5.readI hon6 (by omega)
        have O7 := hide (on_call hon6 O6.out)
        have hz6 := hon6.size
        clear hol5 hon6 hrd5
        go_wp2_with (at_builtin; refine wpList_append_rec rfl (.tmp 26) (.tmp 36) _ rfl 45 i0 _ 48 Try.underlying25 hi0 jz0 jz1 jz2 rfl (by decide) w.heap.size A' c' (q + 1) LL rfl (HPL2.out) (hol6.alloc _) u5.heap.size ⟨2, 2 + x, y, z, 0, false⟩ rfl (ones6 _) (cells6 _ _ _ _ _ _ rfl) (by omega) (by simp; omega) ?_; intro A' c' w' hol' hb' hg')
        go_roundw
        case rel => exact ⟨q + 2, m - 1, _, _, _, by omega, by go_num, rfl, by rw [List.length_append, ← HPL2.out]; rfl, hol', ((hrd6.alloc _).belowR hb' hB).more (by omega) (Nat.le_refl _) ((hrd6.alloc _).belowR hb' hB).2.1, on_belowR hb' (Nat.le_refl _) (on_alloc O7.out _), HSM2.out.snoc (by first | (dsimp only; omega) | decide)⟩
        case measure => simp [intOf]; omega

set_option maxHeartbeats 4000000 in
theorem anyItems_w (w : World) (B g N : Nat) (h : RD w B g N) (hN : N ≤ 10000000) (hB : B ≤ w.heap.size) :
    Calls Try.prog 74 #[.pointer (some ⟨g, 0, none⟩)] w fun e w' => ∃ (A : Option Addr) (c : Nat) (L : List It), e = .returned (.slice A L.length c) ∧ TO w' 45 w.heap.size A c L ∧ L.length ≤ 23 ∧ RD w' B g (N + 80) ∧ w.grownBy w' (some g) ∧ Small L := by
  have hg := h.lt
  go_enter Try.func74, Try.ntmps74
  go_wp2_with fail
  refine (randomItems_w _ B g _ h (by omega) hB).mono ?_
  rintro e u0 ⟨A, c, L, rfl, hol, ⟨hl1, hl2⟩, hrd, hon, hsm⟩
  have HSM := hide hsm
  clear hsm
  have hz0 := hon.size
  go_wp2_with fail
  refine (pick_any _ B g _ _ hrd (by omega) (by omega) (by omega)).mono ?_
  rintro e u1 ⟨k, hk0, hk1, rfl, hrd1, hon1⟩
  obtain ⟨k, rfl⟩ := Int.eq_ofNat_of_zero_le hk0
  have hkl : k < L.length := by omega
  have hol1 := hol.readI hon1 (by have := h.1; omega)
  have O1 := hide (on_call hon1 hon)
  have hz1 := hon1.size
  clear hol hon1 hrd hk0 hk1
  go_wp2_with fail
  refine (pick_any _ B g _ _ hrd1 (by omega) (by omega) (by omega)).mono ?_
  rintro e u2 ⟨r, hr0, hr1, rfl, hrd2, hon2⟩
  have hol2 := hol1.readI hon2 (by have := h.1; omega)
  have O2 := hide (on_call hon2 O1.out)
  have hz2 := hon2.size
  have hgB := h.1
  have hg2 := hrd2.lt
  clear hol1 hon2 hrd1
  rcases (by omega : r = 0 ∨ r = 1 ∨ r = 2 ∨ r = 3 ∨ 4 ≤ r) with rfl | rfl | rfl | rfl | hr
  iterate 3
    · go_wp2_with fail
      refine (one_any _ B g _ _ _ (fun z => z ≤ 1001) (hrd2.alloc _) (by omega) (by exact heap_alloc_new _ _) (by omega) (by rfl) (by decide) (by simp)).mono ?_
      rintro e u3 ⟨z, hz9, rfl, hrd3, hon3⟩
      have hol3 := (hol2.alloc _).readI hon3 (by omega)
      have O3 := hide (on_call hon3 (on_alloc O2.out _))
      have hz3 := hon3.size
      simp at hz3
      obtain ⟨g', rfl, hBg, hgz, hfz⟩ := hol3.frozen (by omega)
      obtain ⟨b, o, he, _, c0, c1, c2, c3, c4, c5⟩ := hol3.reads.at6 (i := k) hkl
      injection he with he
      cases he
      rw [Nat.zero_add] at c0 c1 c2 c3 c4 c5
      have f0 := hfz (k * 6)
      have f1 := hfz (k * 6 + 1)
      have f4 := hfz (k * 6 + 4)
      have S0 := hide (hol3.set6 (i := k) (j := 0) (x := ⟨z, (tg L k).w, (tg L k).st, (tg L k).sh, (tg L k).p, (tg L k).f⟩) (v := .int .i64 z) hkl (by omega) rfl)
      have S1 := hide (hol3.set6 (i := k) (j := 1) (x := ⟨(tg L k).k, z, (tg L k).st, (tg L k).sh, (tg L k).p, (tg L k).f⟩) (v := .int .i64 z) hkl (by omega) rfl)
      have S4 := hide (hol3.set6 (i := k) (j := 4) (x := ⟨(tg L k).k, (tg L k).w, (tg L k).st, (tg L k).sh, z, (tg L k).f⟩) (v := .int .i64 z) hkl (by omega) rfl)
      clear hfz hol3 hon3 hol2
      go_wp2
      go_ret
      first
      | exact ⟨_, c, _, by rw [List.length_set]; rfl, S0.out, by rw [List.length_set]; omega, (hrd3.set_ (Nat.le_trans hB hBg) _).more (by omega) (Nat.le_refl _) (by simp; omega), on_set O3.out (.inr hBg) _, HSM.out.set (by first | exact hz9 | exact Int.le_trans (HSM.out.at_ hkl) (by decide))⟩
      | exact ⟨_, c, _, by rw [List.length_set]; rfl, S1.out, by rw [List.length_set]; omega, (hrd3.set_ (Nat.le_trans hB hBg) _).more (by omega) (Nat.le_refl _) (by simp; omega), on_set O3.out (.inr hBg) _, HSM.out.set (by first | exact hz9 | exact Int.le_trans (HSM.out.at_ hkl) (by decide))⟩
      | exact ⟨_, c, _, by rw [List.length_set]; rfl, S4.out, by rw [List.length_set]; omega, (hrd3.set_ (Nat.le_trans hB hBg) _).more (by omega) (Nat.le_refl _) (by simp; omega), on_set O3.out (.inr hBg) _, HSM.out.set (by first | exact hz9 | exact Int.le_trans (HSM.out.at_ hkl) (by decide))⟩
  · obtain ⟨m, hm⟩ : ∃ m, L.length = m + 1 := ⟨L.length - 1, by omega⟩
    have em : (L.length : Int) - 1 = (m : Int) := by omega
    obtain ⟨g', rfl, hBg, hgz, hlc, hcm⟩ := hol2.form (by omega)
    have S := hide (hol2.take (k := m) (by omega) (by omega))
    have hmc : m ≤ c := by omega
    have hc0 : ¬ c = 0 := by omega
    unfold maxLen at hcm
    have HM := hide hm
    clear hol2 hm
    go_wp2
    go_ret
    exact ⟨_, c, _, by rw [List.length_take, HM.out, Nat.min_eq_left (by omega)]; rfl, S.out, by rw [List.length_take]; omega, hrd2.more (by omega) (Nat.le_refl _) hrd2.2.1, O2.out, HSM.out.take.small⟩
  · have g0 : (r == 0) = false := beq_eq_false_iff_ne.2 (by omega)
    have g1 : (r == 1) = false := beq_eq_false_iff_ne.2 (by omega)
    have g2 : (r == 2) = false := beq_eq_false_iff_ne.2 (by omega)
    have g3 : (r == 3) = false := beq_eq_false_iff_ne.2 (by omega)
    go_wp2
    go_ret
    exact ⟨A, c, L, rfl, hol2, hl2, hrd2.more (by omega) (Nat.le_refl _) hrd2.2.1, O2.out, HSM.out.small⟩
theorem DrawOverfullLines_w (w : World) (a : Option Addr) (n c : Nat) (zs : List Int) (h : IsRow .u8 w a n c zs) :
    Calls Try.prog 56 #[.slice a n c] w fun e w' => ∃ (A A' : Option Addr) (c c' : Nat) (L : List It) (d : Int) (E : List Int), e = .returned (.tuple #[.slice A L.length c, .int .i64 d, .slice A' E.length c']) ∧ TL w' A L.length L ∧ L.length ≤ 23 ∧ (0 ≤ d ∧ d ≤ 10001) ∧ IL w' A' E.length E ∧ E.length ≤ 60 ∧ okW E ∧ Below w.heap.size w w' ∧ Small L := by
  go_enter Try.func56, Try.ntmps56
  go_wp2_with fail; (with_reducible refine (newReader_any _ _ _ _ _ h).mono ?_); rintro e u0 ⟨rfl, hrd, hb⟩; have hgl : w.heap.size < u0.heap.size := hrd.lt; go_wp2_with fail; (with_reducible refine (anyItems_w _ _ _ _ hrd (by omega) (by omega)).mono ?_); rintro e u1 ⟨A, c1, L, rfl, hol, hll, hrd1, hon1, hsm⟩; have HO1 := hide (on_call hon1 (on_below hb (on_refl w (some w.heap.size)))); have hz1 := hon1.size; clear hon1 hb
  go_wp2_with fail; (with_reducible refine (someWidth_any _ _ _ _ hrd1 (by omega)).mono ?_); rintro e u2 ⟨d, hd, rfl, hrd2, hon2⟩; have hol2 := hol.readI hon2 (by omega); have HO2 := hide (on_call hon2 HO1.out); have hz2 := hon2.size; clear hon2
  go_wp2_with fail
  (with_reducible refine (someBreaks_any _ _ w.heap.size _ hrd2 (by omega) (by omega) A c1 _ L hol2 (by omega) hll 25 10000).mono ?_)
  rintro e u4 ⟨A', c', E, rfl, ho4, hEl, hEw, hrd4, hon4⟩
  have hol4 := hol2.readI hon4 (by omega)
  have O4 := on_call hon4 HO2.out
  go_wp2
  refine bodyPost_ret (v := .tuple #[.slice A L.length c1, .int .i64 d, .slice A' E.length c']) (by simp [results, Try.results56, go_sem]) rfl ⟨A, A', c1, c', L, d, E, rfl, hol4.reads, hll, hd, ho4.reads, hEl, hEw, on_new O4 (Nat.le_refl _), hsm⟩
end Go.Proofs.Ytmncdpiojhgcdaa
