/- Drawn words and widths to wrap. -/
import Derived.Test.YtmljmcckkbomcaaDrawW
import Derived.Test.YtmljmcckkbomcaaLwB
import Derived.Test.YtmljmcckkbomcaaDrawE
import Derived.Test.YtmljmcckkbomcaaApp
namespace Go.Proofs.Ytmljmcckkbomcaa
open Go.ChangeShapes Go.WideShapes Go.ChangeAt Go.RowKit
set_option linter.unusedVariables false
set_option linter.unusedSimpArgs false
set_option maxRecDepth 4000

set_option maxHeartbeats 4000000 in
theorem DrawWrapWords_any (w : World) (a : Option Addr) (n c : Nat) (zs : List Int) (h : IsRow .u8 w a n c zs) :
    Calls Try.prog 31 #[.slice a n c] w fun e w' => ∃ (A : Option Addr) (c : Nat) (l : List ByteArray) (z : Int), e = .returned (.tuple #[.slice A l.length c, .int .i64 z]) ∧ OS w' 9 w.heap.size A c l ∧ l.length ≤ 11 ∧ WQ l ∧ (19 ≤ z ∧ z ≤ 61) ∧ Below w.heap.size w w' := by
  go_enter Try.func31, Try.ntmps31
  go_wp2_with fail
  (with_reducible refine (newReader_any _ _ _ _ _ h).mono ?_)
  rintro e u0 ⟨rfl, hrd, hb⟩
  have hgl : w.heap.size < u0.heap.size := hrd.lt
  go_wp2_with fail
  (with_reducible refine (someWords_any _ _ _ _ hrd (by omega) (by omega)).mono ?_)
  rintro e u1 ⟨A, cc, l, rfl, hol, hll, hwq, hrd1, hon1⟩
  have hz1 := hon1.size
  have O1 := hide (on_call hon1 (on_below hb (on_refl w (some w.heap.size))))
  have HWQ := hide hwq
  clear hon1 hb hwq h
  go_wp2_with fail
  (with_reducible refine (textWidth_any _ _ _ _ hrd1 (by omega) (by omega)).mono ?_)
  rintro e u2 ⟨z, hz, rfl, hrd2, hon2⟩
  have HO := hide ((hol.readW hon2 (by omega)).more (B' := w.heap.size) (by omega))
  have O2 := hide (on_call hon2 O1.out)
  have HZ := hide hz
  clear hz hol hon2
  go_wp2
  go_ret2
  exact ⟨A, cc, l, z, rfl, HO.out, hll, HWQ.out, HZ.out, on_new O2.out (Nat.le_refl _)⟩
theorem OS.cap3 {w : World} {e : TypeId} {B c : Nat} {A : Option Addr} {l : List ByteArray} (h : OS w e B A c l) : l.length ≤ c := by
  rcases Nat.eq_zero_or_pos l.length with h0 | h0
  · omega
  · obtain ⟨g, _, _, _, hc, _⟩ := h.form h0
    exact hc
theorem OL.none_capw {w : World} {e : TypeId} {B : Nat} {A : Option Addr} {c : Nat} {l : List Int} (h : OL w e B A c l) : A = none → c = 0 := fun e => by
  subst e
  rcases h.2 with ⟨h1, _⟩ | ⟨g, cap, cur, h1, _⟩
  · injection h1
  · cases h1
set_option maxRecDepth 8000 in
set_option maxHeartbeats 4000000 in
theorem DrawWrapCost_any (w : World) (a : Option Addr) (n c : Nat) (zs : List Int) (h : IsRow .u8 w a n c zs) :
    Calls Try.prog 34 #[.slice a n c] w fun e w' => ∃ (A : Option Addr) (c : Nat) (l : List ByteArray) (z : Int) (B : Option Addr) (d : Nat) (E : List Int), e = .returned (.tuple #[.slice A l.length c, .int .i64 z, .slice B E.length d]) ∧ OS w' 9 w.heap.size A c l ∧ l.length ≤ 11 ∧ WQ l ∧ (19 ≤ z ∧ z ≤ 61) ∧ OL w' 3 w.heap.size B d E ∧ E.length ≤ 40 ∧ Below w.heap.size w w' := by
  obtain ⟨i0, hi0, jz0, jz1, jz2⟩ := info_parts int_info
  go_enter Try.func34, Try.ntmps34
  go_wp2_with fail
  (with_reducible refine (newReader_any _ _ _ _ _ h).mono ?_)
  rintro e u0 ⟨rfl, hrd, hb⟩
  have hgl : w.heap.size < u0.heap.size := hrd.lt
  go_wp2_with fail
  (with_reducible refine (someWords_any _ _ _ _ hrd (by omega) (by omega)).mono ?_)
  rintro e u1 ⟨A, cc, l, rfl, hol, hll, hwq, hrd1, hon1⟩
  have hz1 := hon1.size
  have O1 := hide (on_call hon1 (on_below hb (on_refl w (some w.heap.size))))
  have HWQ := hide hwq
  clear hon1 hb hwq h
  go_wp2_with fail
  (with_reducible refine (textWidth_any _ _ _ _ hrd1 (by omega) (by omega)).mono ?_)
  rintro e u2 ⟨z, hz, rfl, hrd2, hon2⟩
  have hz2 := hon2.size
  have HO := hide (hol.readW hon2 (by omega))
  have O2 := hide (on_call hon2 O1.out)
  have HZ := hide hz
  clear hz hol hon2
  go_wp2_with fail
  (with_reducible refine (pick_any _ _ _ _ _ hrd2 (by omega) (by omega) (by omega)).mono ?_)
  rintro e u3 ⟨s, hs0, hs1, rfl, hrd3, hon3⟩
  have hz3 := hon3.size
  have HO3 := hide (HO.out.readW hon3 (by omega))
  have O3 := hide (on_call hon3 O2.out)
  clear hon3 hrd1 hrd2 hrd
  rcases (by omega : s = 0 ∨ s ≠ 0) with rfl | hs
  · have H0 : Hid (OL (u3.alloc (.cells #[] 3)) 3 u3.heap.size (some ⟨u3.heap.size, 0, none⟩) 0 []) := hide (by
      have := OL.lit (w := u3) (e := 3) (B := u3.heap.size) (Nat.le_refl _) [] (by simp)
      simpa using this)
    have HS := hide (HO3.out.below (bl_alloc (bl_refl _) (.cells #[] 3)))
    have hcap := HO3.out.cap3
    have HSZ := hide (fun k (hk : k < l.length) => show (sg l k).size ≤ 1048576 by have := HWQ.out k hk; omega)
    have W := hide (WrapWords_s (u3.alloc (.cells #[] 3)) A l.length cc l z HS.out.reads hcap HSZ.out (by omega))
    have hlen := wwO_len (l := l) (wd := z)
    unfold RetI at W
    obtain ⟨E, hE⟩ : ∃ E, E = wwO l z := ⟨_, rfl⟩
    rw [← hE] at W hlen
    clear hE
    go_wp2_with fail
    (with_reducible refine W.out.mono ?_)
    rintro e u4 ⟨A4, c4, rfl, ho4, hb4⟩
    have hz4 := hb4.size
    have H4 := hide (H0.out.below hb4)
    have HS4 := hide (HS.out.below hb4)
    have HB4 := hide (bl_call hb4 (bl_alloc (bl_refl u3) (.cells #[] 3)))
    have HR := hide ho4.reads
    have HNC := hide (OL.none_capw ho4)
    have hzz : u3.heap.size ≤ u4.heap.size := HB4.out.size
    clear hb4 ho4 H0
    go_wp2_with (at_builtin; go_loud (refine wpList_append_list rfl (.tmp 19) (.tmp 22) _ rfl 3 i0 Try.underlying23 hi0 jz0 jz1 jz2 u3.heap.size (some ⟨u3.heap.size, 0, none⟩) 0 0 [] rfl rfl H4.out A4 E.length c4 E rfl HR.out HNC.out (by omega) hzz ?_); intro A5 c5 u5 ho5 hb5 hg5; rw [List.nil_append] at ho5; have HO5 := hide ho5; have HB5 := hide hb5; clear ho5 hb5 hg5)
    have hb35 : Below u3.heap.size u3 u5 := HB4.out.trans HB5.out
    refine bodyPost_ret (v := .tuple #[.slice A l.length cc, .int .i64 z, .slice A5 E.length c5]) (by simp [results, Try.results34, go_sem]) rfl ?_
    exact ⟨A, cc, l, z, A5, c5, E, rfl, (HO3.out.below hb35).more (by omega), hll, HWQ.out, HZ.out, HO5.out.more (by omega), hlen, on_new (on_below hb35 O3.out) (Nat.le_refl _)⟩
  · have hs' : (s == 0) = false := beq_eq_false_iff_ne.2 hs
    go_wp2_with fail
    (with_reducible refine (someEnds_any _ _ _ _ l.length hrd3 (by omega) (by omega) (by omega)).mono ?_)
    rintro e u4 ⟨A4, c4, E, rfl, ho4, hel, hin, hrd4, hon4⟩
    have hz4 := hon4.size
    have HO4 := hide (HO3.out.readW hon4 (by omega))
    have O4 := hide (on_call hon4 O3.out)
    have HE := hide ho4
    clear ho4 hon4 hin
    go_wp2
    refine bodyPost_ret (v := .tuple #[.slice A l.length cc, .int .i64 z, .slice A4 E.length c4]) (by simp [results, Try.results34, go_sem]) rfl ?_
    exact ⟨A, cc, l, z, A4, c4, E, rfl, HO4.out.more (by omega), hll, HWQ.out, HZ.out, HE.out.more (by omega), by omega, on_new O4.out (Nat.le_refl _)⟩
end Go.Proofs.Ytmljmcckkbomcaa
