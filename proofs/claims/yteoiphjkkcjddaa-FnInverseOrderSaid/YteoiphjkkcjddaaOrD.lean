/- The promises on orders hold for every code. No condition. -/
import Derived.Test.YteoiphjkkcjddaaDrawT
import Derived.Test.YteoiphjkkcjddaaDirS
import Derived.Test.YteoiphjkkcjddaaInv
import Derived.Test.YteoiphjkkcjddaaApp
namespace Go.Proofs.Yteoiphjkkcjddaa
open Go.ChangeShapes Go.WideShapes Go.ChangeAt Go.RowKit
set_option linter.unusedVariables false

theorem OL.none_cap {w : World} {e : TypeId} {B : Nat} {A : Option Addr} {c : Nat} {l : List Int} (h : OL w e B A c l) : A = none → c = 0 := fun e => by
  subst e
  rcases h.2 with ⟨h1, _⟩ | ⟨g, cap, cur, h1, _⟩
  · injection h1
  · cases h1
theorem ordO_ne {l : List Int} (h : (ordO l).length ≠ 0) : okL l = true ∧ ordO l = ordL l ∧ (ordO l).length = l.length := by
  cases k : okL l
  · rw [ordO_no k] at h; simp at h
  · exact ⟨rfl, ordO_yes k, by rw [ordO_yes k, ordL_len]⟩
theorem invO_ne {l : List Int} (h : (invO l).length ≠ 0) : okI l = true ∧ invO l = invL l ∧ (invO l).length = l.length := by
  cases k : okI l
  · rw [invO_no k] at h; simp at h
  · exact ⟨rfl, invO_yes k, by rw [invO_yes k, invL_len]⟩
theorem invO_len (l : List Int) : (invO l).length ≤ 60 := by
  cases h : okI l
  · rw [invO_no h]; simp
  · rw [invO_yes h, invL_len]; exact (okI_iff.1 h).1
theorem okL_rep {n : Nat} {x : Int} (hn : n ≤ 60) (hx : 0 ≤ x ∧ x ≤ 6) : okL (List.replicate n x) = true := okL_iff.2 ⟨by simpa using hn, fun j hj => by rw [ng_rep (by simpa using hj)]; exact hx⟩

set_option maxHeartbeats 1000000 in
theorem DrawInverseOrder_any (w : World) (a : Option Addr) (n c : Nat) (zs : List Int) (h : IsRow .u8 w a n c zs) :
    Calls Try.prog 35 #[.slice a n c] w fun e w' => ∃ (A : Option Addr) (c : Nat) (l : List Int), e = .returned (.slice A l.length c) ∧ OL w' 3 w.heap.size A c l ∧ l.length ≤ 60 ∧ Below w.heap.size w w' := by
  obtain ⟨i0, hi0, jz0, jz1, jz2⟩ := info_parts int_info
  go_enter Try.func35, Try.ntmps35
  go_wp2_with fail
  refine (newReader_any _ _ _ _ _ h).mono ?_
  rintro e u0 ⟨rfl, hrd, hb⟩
  have hgl : w.heap.size < u0.heap.size := hrd.lt
  have h2 : IsRow .u8 (u0.alloc (.cells #[] 3)) a n c zs := IsRow.below h (bl_alloc hb _)
  have H0 : Hid (OL (u0.alloc (.cells #[] 3)) 3 u0.heap.size (some ⟨u0.heap.size, 0, none⟩) 0 []) := hide (by
      have := OL.lit (w := u0) (e := 3) (B := u0.heap.size) (Nat.le_refl _) [] (by simp)
      simpa using this)
  have HRD := hide (hrd.alloc (.cells #[] 3))
  have HB := hide hb
  clear hrd hb h
  go_wp2_with fail
  refine (DrawOrderOf_any _ _ _ _ _ h2).mono ?_
  rintro e u1 ⟨A1, c1, l, rfl, ho1, hl9, hb1⟩
  have HRD1 := hide (HRD.out.below hb1)
  have H1 := hide (H0.out.below hb1)
  have hb01 : Below u0.heap.size u0 u1 := bl_call hb1 (bl_alloc (bl_refl _) _)
  clear h2
  go_wp2_with fail
  (with_reducible refine (OrderOf_s _ _ _ _ l ho1.reads (by omega)).mono ?_)
  rintro e u2 ⟨A2, c2, rfl, ho2, hb2⟩
  have hO6 := ordO_len l
  obtain ⟨O, hO⟩ : ∃ O, O = ordO l := ⟨_, rfl⟩
  rw [← hO] at ho2 hO6 ⊢
  have HRD2 := hide (HRD1.out.below hb2)
  have H2 := hide (H1.out.below hb2)
  have hb02 : Below u0.heap.size u0 u2 := bl_call hb2 hb01
  have hr2 := ho2.reads
  have hn2 := ho2.none_cap
  have hz2 : u0.heap.size ≤ u2.heap.size := hb02.size
  clear ho1 ho2 hO hb1 hb2 hb01
  rcases Nat.eq_zero_or_pos O.length with h0 | h0
  · have q' : ¬ 0 < O.length := by omega
    clear h0
    go_wp2_with (at_builtin; refine wpList_append_list rfl (.tmp 7) (.tmp 10) _ rfl 3 i0 Try.underlying22 hi0 jz0 jz1 jz2 u0.heap.size (some ⟨u0.heap.size, 0, none⟩) 0 0 [] rfl rfl H2.out A2 O.length c2 O rfl hr2 hn2 (by omega) hz2 ?_; intro A3 c3 u3 ho3 hb3 hg3)
    rw [List.nil_append] at ho3
    have HRD3 := hide (HRD2.out.below' hb3 (by omega))
    have hb03 : Below u0.heap.size u0 u3 := hb02.trans hb3
    have O3 := hide (on_below hb03 (on_refl u0 (some w.heap.size)))
    have hz3 := hb03.size
    clear hr2 hn2 hg3 hb3 hb02 hb03 hz2
    go_ret
    exact ⟨A3, c3, O, by first | rfl | simp, ho3.more HB.out.size, hO6, on_new (on_call O3.out (on_below HB.out (on_refl _ _))) (Nat.le_refl _)⟩
  · go_wp2_with (first | (at_builtin; refine wpList_append_list rfl (.tmp 7) (.tmp 10) _ rfl 3 i0 Try.underlying22 hi0 jz0 jz1 jz2 u0.heap.size (some ⟨u0.heap.size, 0, none⟩) 0 0 [] rfl rfl H2.out A2 O.length c2 O rfl hr2 hn2 (by omega) hz2 ?_; intro A3 c3 u3 ho3 hb3 hg3) | fail)
    rw [List.nil_append] at ho3
    have HRD3 := hide (HRD2.out.below' hb3 (by omega))
    have hb03 : Below u0.heap.size u0 u3 := hb02.trans hb3
    have O3 := hide (on_below hb03 (on_refl u0 (some w.heap.size)))
    have hz3 := hb03.size
    clear hr2 hn2 hg3 hb3 hb02 hb03 hz2
    have hg3 := HRD3.out.lt
    refine (pick_any _ _ _ _ _ HRD3.out (by omega) (by omega) (by omega)).mono ?_
    rintro e u4 ⟨r, hr0, hr1, rfl, hrd4, hon4⟩
    have ho4 := ho3.read hon4 hgl
    have O4 := hide (on_call hon4 O3.out)
    have hz4 := hon4.size
    have hg4 := hrd4.lt
    clear ho3 hon4
    rcases (by omega : r = 0 ∨ 1 ≤ r) with rfl | hr
    · go_wp2_with fail
      refine (pick_any _ _ _ _ _ hrd4 (by omega) (by omega) (by omega)).mono ?_
      rintro e u5 ⟨k, hk0, hk1, rfl, hrd5, hon5⟩
      obtain ⟨k, rfl⟩ := Int.eq_ofNat_of_zero_le hk0
      have ho5 := ho4.read hon5 hgl
      have O5 := hide (on_call hon5 O4.out)
      have hz5 := hon5.size
      have hg5 := hrd5.lt
      clear ho4 hon5
      go_wp2_with fail
      refine (one_any _ _ _ _ _ _ (fun _ => True) (hrd5.alloc _) (by omega) (by exact heap_alloc_new _ _) (by omega) (by rfl) (by decide) (by simp)).mono ?_
      rintro e u6 ⟨z, hz, rfl, hrd6, hon6⟩
      have ho6 := (ho5.alloc (.cells #[.int .i64 0, .int .i64 1, .int .i64 (-1), .int .i64 (O.length : Int)] 3)).read hon6 hgl
      have O6 := hide (on_call hon6 (on_alloc O5.out _))
      obtain ⟨g', rfl, hBg, hgz, hfz⟩ := ho6.frozen h0
      obtain ⟨b, o, he, _, hc⟩ := ho6.reads.at_ (i := k) (by omega)
      injection he with he
      cases he
      have fz := hfz k
      have M := hide (ho6.set_ k z).1
      rw [Nat.zero_add] at hc
      have hkO : k < O.length := by omega
      clear hfz hon6 ho5 ho6
      go_wp2
      go_ret
      refine ⟨some ⟨g', 0, none⟩, c3, O.set k z, by rw [List.length_set]; first | rfl | simp, M.out.more HB.out.size, by rw [List.length_set]; exact hO6, ?_⟩
      exact on_new (on_call (on_set O6.out (.inr hBg) _) (on_below HB.out (on_refl _ _))) (Nat.le_refl _)
    · go_wp2
      go_ret
      exact ⟨A3, c3, O, by first | rfl | simp, ho4.more HB.out.size, hO6, on_new (on_call O4.out (on_below HB.out (on_refl _ _))) (Nat.le_refl _)⟩
end Go.Proofs.Yteoiphjkkcjddaa
