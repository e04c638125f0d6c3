/- Drawn pages: lines, a height, ends. -/
import Derived.Test.YtkclecfjpabplaaDrawL
import Derived.Test.YtkclecfjpabplaaDrawE
import Derived.Test.YtkclecfjpabplaaBps
namespace Go.Proofs.Ytkclecfjpabplaa
open Go.ChangeShapes Go.WideShapes Go.ChangeAt Go.RowKit
set_option linter.unusedVariables false
set_option maxRecDepth 4000

theorem pageSize_any (w : World) (B g N : Nat) (h : RD w B g N) (hN : N ≤ 100000000) (hB : B ≤ w.heap.size) :
    Calls Try.prog 87 #[.pointer (some ⟨g, 0, none⟩)] w fun e w' => ∃ z : Int, e = .returned (.int .i64 z) ∧ (0 ≤ z ∧ z ≤ 20000) ∧ RD w' B g (N + 1) ∧ w.grownBy w' (some g) := by
  have hg := h.lt
  go_enter Try.func87, Try.ntmps87
  go_wp2_with fail
  refine (one_any _ B g _ _ _ (fun z => 0 ≤ z ∧ z ≤ 20000) (h.alloc _) (by omega) (by exact heap_alloc_new _ _) (by omega) (by rfl) (by decide) (by intro v hv; simp at hv; rcases hv with rfl | rfl | rfl | rfl | rfl | rfl | rfl | rfl | rfl <;> exact ⟨_, rfl, by omega⟩)).mono ?_
  rintro e u1 ⟨z, hz, rfl, hrd2, hon2⟩
  have O2 := hide (on_call hon2 (on_alloc (on_refl w (some g)) _))
  go_wp2
  go_ret
  exact ⟨z, rfl, hz, hrd2, O2.out⟩
theorem DrawBestPages_any (w : World) (a : Option Addr) (n c : Nat) (zs : List Int) (h : IsRow .u8 w a n c zs) :
    Calls Try.prog 47 #[.slice a n c] w fun e w' => ∃ (A : Option Addr) (c : Nat) (L : List Gp) (z : Int), e = .returned (.tuple #[.slice A L.length c, .int .i64 z]) ∧ TO w' 84 w.heap.size A c L ∧ L.length ≤ 12 ∧ (0 ≤ z ∧ z ≤ 20000) ∧ Below w.heap.size w w' := by
  go_enter Try.func47, Try.ntmps47
  go_wp2_with fail
  refine (newReader_any _ _ _ _ _ h).mono ?_
  rintro e u0 ⟨rfl, hrd, hb⟩
  have hgl : w.heap.size < u0.heap.size := hrd.lt
  go_wp2_with fail
  refine (anyLines_any _ _ _ _ hrd (by omega) (by omega)).mono ?_
  rintro e u1 ⟨A, c1, L, rfl, hol, hll, hrd1, hon1⟩
  go_wp2_with fail
  refine (pageSize_any _ _ _ _ hrd1 (by omega) hrd1.2.1).mono ?_
  rintro e u2 ⟨z, rfl, hz, hrd2, hon2⟩
  have hol2 := (hol.read hon2 hgl).more (B' := w.heap.size) hb.size
  have hb2 : Below w.heap.size w u2 := on_new (on_call hon2 (on_call hon1 (on_below hb (on_refl _ _)))) (Nat.le_refl _)
  go_wp2
  go_ret2
  exact ⟨A, c1, L, z, rfl, hol2, hll, hz, hb2⟩
theorem DrawFillPages_any (w : World) (a : Option Addr) (n c : Nat) (zs : List Int) (h : IsRow .u8 w a n c zs) :
    Calls Try.prog 51 #[.slice a n c] w fun e w' => ∃ (A : Option Addr) (c : Nat) (L : List Gp) (z : Int), e = .returned (.tuple #[.slice A L.length c, .int .i64 z]) ∧ TO w' 84 w.heap.size A c L ∧ L.length ≤ 12 ∧ (0 ≤ z ∧ z ≤ 20000) ∧ Below w.heap.size w w' := by
  go_enter Try.func51, Try.ntmps51
  go_wp2_with fail
  (with_reducible refine (DrawBestPages_any _ _ _ _ _ h).mono ?_)
  rintro e u2 ⟨A, c1, L, z, rfl, hol, hll, hz, hb⟩
  go_wp2
  go_ret2
  exact ⟨A, c1, L, z, rfl, hol, hll, hz, hb⟩
theorem bpV_len12 {L : List Gp} {h : Int} : (bpV L h).1.length ≤ 40 := by
  cases q : (lok L && inB h 1 10000)
  · rw [bpV_no q]; simp
  · rw [bpV_yes q]
    have ok := okPg_of q
    have h1 := ok.l1
    unfold dpR
    cases e : dpD (gP L h) L.length with
    | none => simp
    | some d =>
      have := (dp_bd ok (by omega) e).2
      have h2 : ∀ {n j : Nat}, (bkL (gP L h) ndP n j).length = n := fun {n} => by
        induction n with
        | zero => intro j; rfl
        | succ n ih => intro j; simp only [bkL, List.length_append, ih]; rfl
      simp only [h2]
      omega
set_option maxRecDepth 8000 in
set_option maxHeartbeats 4000000 in
theorem DrawCheckPages_any (w : World) (a : Option Addr) (n c : Nat) (zs : List Int) (h : IsRow .u8 w a n c zs) :
    Calls Try.prog 49 #[.slice a n c] w fun e w' => ∃ (A : Option Addr) (c : Nat) (L : List Gp) (z : Int) (B : Option Addr) (d : Nat) (E : List Int), e = .returned (.tuple #[.slice A L.length c, .int .i64 z, .slice B E.length d]) ∧ TO w' 84 w.heap.size A c L ∧ L.length ≤ 12 ∧ (0 ≤ z ∧ z ≤ 20000) ∧ OL w' 3 w.heap.size B d E ∧ E.length ≤ 40 ∧ Below w.heap.size w w' := by
  obtain ⟨i0, hi0, jz0, jz1, jz2⟩ := info_parts int_info
  go_enter Try.func49, Try.ntmps49
  go_wp2_with fail
  (with_reducible refine (newReader_any _ _ _ _ _ h).mono ?_)
  rintro e u0 ⟨rfl, hrd, hb⟩
  have hgl : w.heap.size < u0.heap.size := hrd.lt
  go_wp2_with fail
  (with_reducible refine (anyLines_any _ _ _ _ hrd (by omega) (by omega)).mono ?_)
  rintro e u1 ⟨A, cc, L, rfl, hol, hll, hrd1, hon1⟩
  have hz1 := hon1.size
  have O1 := hide (on_call hon1 (on_below hb (on_refl w (some w.heap.size))))
  clear hon1 hb h
  go_wp2_with fail
  (with_reducible refine (pageSize_any _ _ _ _ hrd1 (by omega) (by omega)).mono ?_)
  rintro e u2 ⟨z, rfl, hz, hrd2, hon2⟩
  have hz2 := hon2.size
  have HO := hide (hol.read hon2 hgl)
  have O2 := hide (on_call hon2 O1.out)
  have HZ := hide hz
  clear hz hol hon2
  have PL := bpV_len12 (L := L) (h := z)
  have BS := fun (u : World) (h : TL u A L.length L) => BestPages_s u A L.length cc L z h (by omega)
  unfold RetB at BS
  obtain ⟨V, hV⟩ : ∃ V, V = bpV L z := ⟨_, rfl⟩
  rw [← hV] at BS PL
  obtain ⟨R, y, t⟩ := V
  simp only at BS PL
  have HBS := hide BS
  clear hV BS
  go_wp2_with fail
  (with_reducible refine (HBS.out _ HO.out.reads).mono ?_)
  rintro e v2 ⟨A2, c2, rfl, ho2, hb2⟩
  have HO2 := hide (HO.out.below hb2)
  have O2 := hide (on_below hb2 O2.out)
  have HRD2 := hide (hrd2.below hb2)
  have hz2' := hb2.size
  have HR := hide ho2
  clear hb2 ho2 HO HBS hrd hrd1 hrd2
  cases t
  · (go_wp2_with fail; (with_reducible refine (someEnds_any _ _ _ _ L.length HRD2.out (by omega) (by omega) (by omega)).mono ?_); rintro e u4 ⟨A5, c5, E, rfl, ho4, hel, hin, hrd4, hon4⟩; have hz4 := hon4.size; have HO4 := hide (HO2.out.read hon4 (by omega)); have O4 := hide (on_call hon4 O2.out); have HE := hide ho4; clear ho4 hon4 hin; go_wp2; (refine bodyPost_ret (v := .tuple #[.slice A L.length cc, .int .i64 z, .slice A5 E.length c5]) (by simp [results, Try.results49, go_sem]) rfl ?_); exact ⟨A, cc, L, z, A5, c5, E, rfl, HO4.out.more (by omega), hll, HZ.out, HE.out.more (by omega), by omega, on_new O4.out (Nat.le_refl _)⟩)
  go_wp2_with fail
  (with_reducible refine (pick_any _ _ _ _ _ HRD2.out (by omega) (by omega) (by omega)).mono ?_)
  rintro e u3 ⟨s, hs0, hs1, rfl, hrd3, hon3⟩
  have hz3 := hon3.size
  have HO3 := hide (HO2.out.read hon3 (by omega))
  have HR3 := hide (HR.out.read hon3 (by omega))
  have O3 := hide (on_call hon3 O2.out)
  have HRD3 := hide hrd3
  clear hon3 hrd3 HRD2 HO2 O2 HR
  rcases (by omega : s = 0 ∨ s ≠ 0) with rfl | hs
  · have H0 : Hid (OL (u3.alloc (.cells #[] 3)) 3 u3.heap.size (some ⟨u3.heap.size, 0, none⟩) 0 []) := hide (by
      have := OL.lit (w := u3) (e := 3) (B := u3.heap.size) (Nat.le_refl _) [] (by simp)
      simpa using this)
    have HRR := hide (HR3.out.alloc (.cells #[] 3)).reads
    have HNC := hide HR3.out.none_capb
    go_wp2_with (at_builtin; go_loud (refine wpList_append_list rfl (.tmp 32) (.tmp 33) _ rfl 3 i0 Try.underlying22 hi0 jz0 jz1 jz2 u3.heap.size (some ⟨u3.heap.size, 0, none⟩) 0 0 [] rfl rfl H0.out A2 R.length c2 R rfl HRR.out HNC.out (by omega) (by simp) ?_); intro A5 c5 u5 ho5 hb5 hg5; rw [List.nil_append] at ho5; have HO5 := hide ho5; have HB5 := hide hb5; clear ho5 hb5 hg5)
    have hb35 : Below u3.heap.size u3 u5 := (bl_alloc (bl_refl u3) _).trans HB5.out
    obtain ⟨E, hE⟩ : ∃ E, E = R := ⟨_, rfl⟩
    rw [← hE] at HO5 PL ⊢
    (refine bodyPost_ret (v := .tuple #[.slice A L.length cc, .int .i64 z, .slice A5 E.length c5]) (by simp [results, Try.results49, go_sem]) rfl ?_)
    exact ⟨A, cc, L, z, A5, c5, E, rfl, (HO3.out.below hb35).more (by omega), hll, HZ.out, HO5.out.more (by omega), PL, on_new (on_below hb35 O3.out) (Nat.le_refl _)⟩
  · have hs' : (s == 0) = false := beq_eq_false_iff_ne.2 hs
    (go_wp2_with fail; (with_reducible refine (someEnds_any _ _ _ _ L.length HRD3.out (by omega) (by omega) (by omega)).mono ?_); rintro e u4 ⟨A5, c5, E, rfl, ho4, hel, hin, hrd4, hon4⟩; have hz4 := hon4.size; have HO4 := hide (HO3.out.read hon4 (by omega)); have O4 := hide (on_call hon4 O3.out); have HE := hide ho4; clear ho4 hon4 hin; go_wp2; (refine bodyPost_ret (v := .tuple #[.slice A L.length cc, .int .i64 z, .slice A5 E.length c5]) (by simp [results, Try.results49, go_sem]) rfl ?_); exact ⟨A, cc, L, z, A5, c5, E, rfl, HO4.out.more (by omega), hll, HZ.out, HE.out.more (by omega), by omega, on_new O4.out (Nat.le_refl _)⟩)
end Go.Proofs.Ytkclecfjpabplaa
