/- The laws on fitting lines and their cost hold for every code: lines fit like their glue, allowed lines are not overfull. No condition. -/
import Derived.Test.YtmolkppdfbldnaaJn
import Derived.Test.YtmolkppdfbldnaaFitL
import Derived.Test.YtmolkppdfbldnaaCostL
import Derived.Test.YtmolkppdfbldnaaLnP
namespace Go.Proofs.Ytmolkppdfbldnaa
open Go.ChangeShapes Go.WideShapes Go.ChangeAt Go.RowKit
set_option linter.unusedVariables false

theorem DrawFitLine_any (w : World) (a : Option Addr) (n c : Nat) (zs : List Int) (h : IsRow .u8 w a n c zs) :
    Calls Try.prog 49 #[.slice a n c] w fun e w' => ∃ (A : Option Addr) (c : Nat) (L : List It) (x y d : Int), e = .returned (.tuple #[.slice A L.length c, .int .i64 x, .int .i64 y, .int .i64 d]) ∧ TO w' 51 w.heap.size A c L ∧ L.length ≤ 23 ∧ (-1 ≤ x ∧ x ≤ 23) ∧ (-1 ≤ y ∧ y ≤ 23) ∧ (0 ≤ d ∧ d ≤ 10001) ∧ Below w.heap.size w w' := by
  go_enter Try.func49, Try.ntmps49
  go_wp2_with fail
  (with_reducible refine (newReader_any _ _ _ _ _ h).mono ?_)
  rintro e u0 ⟨rfl, hrd, hb⟩
  have hgl : w.heap.size < u0.heap.size := hrd.lt
  go_wp2_with fail
  (with_reducible refine (someLine_any _ _ _ _ hrd (by omega) (by omega)).mono ?_)
  rintro e u1 ⟨A, c1, L, x, y, rfl, hol, hll, hx, hy, hrd1, hon1⟩
  have HO1 := hide (on_call hon1 (on_below hb (on_refl w (some w.heap.size))))
  have hz1 := hon1.size
  clear hon1 hb
  go_wp2_with fail
  (with_reducible refine (someWidth_any _ _ _ _ hrd1 (by omega)).mono ?_)
  rintro e u2 ⟨d, hd, rfl, hrd2, hon2⟩
  have hol2 := hol.readI hon2 (by omega)
  have O2 := on_call hon2 HO1.out
  go_wp2
  refine bodyPost_ret (v := .tuple #[.slice A L.length c1, .int .i64 x, .int .i64 y, .int .i64 d]) (by simp [results, Try.results49, go_sem]) rfl ⟨A, c1, L, x, y, d, rfl, hol2.more (by omega), hll, hx, hy, hd, on_new O2 (Nat.le_refl _)⟩
theorem DrawLineCost_any (w : World) (a : Option Addr) (n c : Nat) (zs : List Int) (h : IsRow .u8 w a n c zs) :
    Calls Try.prog 51 #[.slice a n c] w fun e w' => ∃ (A : Option Addr) (c : Nat) (L : List It) (x y d t : Int), e = .returned (.tuple #[.slice A L.length c, .int .i64 x, .int .i64 y, .int .i64 d, .int .i64 t]) ∧ TO w' 51 w.heap.size A c L ∧ L.length ≤ 23 ∧ (-1 ≤ x ∧ x ≤ 23) ∧ (-1 ≤ y ∧ y ≤ 23) ∧ (0 ≤ d ∧ d ≤ 10001) ∧ (-1 ≤ t ∧ t ≤ 20000) ∧ Below w.heap.size w w' := by
  go_enter Try.func51, Try.ntmps51
  go_wp2_with fail
  (with_reducible refine (newReader_any _ _ _ _ _ h).mono ?_)
  rintro e u0 ⟨rfl, hrd, hb⟩
  have hgl : w.heap.size < u0.heap.size := hrd.lt
  go_wp2_with fail
  (with_reducible refine (someLine_any _ _ _ _ hrd (by omega) (by omega)).mono ?_)
  rintro e u1 ⟨A, c1, L, x, y, rfl, hol, hll, hx, hy, hrd1, hon1⟩
  have HO1 := hide (on_call hon1 (on_below hb (on_refl w (some w.heap.size))))
  have hz1 := hon1.size
  clear hon1 hb
  go_wp2_with fail
  (with_reducible refine (someWidth_any _ _ _ _ hrd1 (by omega)).mono ?_)
  rintro e u2 ⟨d, hd, rfl, hrd2, hon2⟩
  have hol2 := hol.readI hon2 (by omega)
  have HO2 := hide (on_call hon2 HO1.out)
  have hz2 := hon2.size
  clear hon2
  go_wp2_with fail
  (with_reducible refine (someTolerance_any _ _ _ _ hrd2 (by omega) (by omega)).mono ?_)
  rintro e u3 ⟨t, rfl, ht, hrd3, hon3⟩
  have hol3 := hol2.readI hon3 (by omega)
  have O3 := on_call hon3 HO2.out
  go_wp2
  refine bodyPost_ret (v := .tuple #[.slice A L.length c1, .int .i64 x, .int .i64 y, .int .i64 d, .int .i64 t]) (by simp [results, Try.results51, go_sem]) rfl ⟨A, c1, L, x, y, d, t, rfl, hol3.more (by omega), hll, hx, hy, hd, ht, on_new O3 (Nat.le_refl _)⟩
set_option maxRecDepth 8000 in
set_option maxHeartbeats 4000000 in
theorem walk_FnFitLine (a : Option Addr) (n c : Nat) (zs : List Int) (w : World) (hr : IsRow .u8 w a n c zs) :
    Calls Try.prog 13 #[.slice a n c] w fun e w' => e = .returned (.bool true) ∧ Below w.heap.size w w' := by
  have hm := small_rown hr; unfold maxLen at hm
  rcases (by omega : 1048576 < n ∨ n ≤ 1048576) with hn | hn
  · go_enter Try.func13, Try.ntmps13
    go_wp2
    go_ret
    exact ⟨rfl, bl_refl _⟩
  go_enter Try.func13, Try.ntmps13
  go_wp2_with fail
  (with_reducible refine (DrawFitLine_any _ _ _ _ _ hr).mono ?_)
  rintro e u0 ⟨A, c0, L, f, t, d, rfl, hol, hll, hf, ht, hd, hb⟩
  clear hr
  have HR := hide hol.reads
  have HB := hide hb
  clear hol hb
  have FI := fun (u : World) (h : TL u A L.length L) => FitLine_i u A L.length c0 L h (by omega) f t d (by omega) (by omega)
  have FS := fun (u : World) (h : TL u A L.length L) => FitLine_s u A L.length c0 L h (by omega) f t d (by omega) (by omega)
  have GI := fun (u : World) (h : TL u A L.length L) => LineGlue_i u A L.length c0 L h (by omega) f t (by omega) (by omega)
  obtain ⟨P, hP⟩ : ∃ P, P = (ftO L f t d).1 := ⟨_, rfl⟩
  obtain ⟨Q, hQ⟩ : ∃ P, P = (ftO L f t d).2 := ⟨_, rfl⟩
  rw [← hP, ← hQ] at FI FS
  have HFI := hide FI
  have HFS := hide FS
  clear FI FS
  cases hok : okL L f t && inB d 1 10000
  · have E := ftO_non hok
    rw [E] at hP hQ
    subst hP
    subst hQ
    clear GI hok E
    go_wp2_with fail
    (with_reducible refine (HFI.out _ HR.out).mono ?_)
    rintro e u1 ⟨rfl, hb1⟩
    have HB1 := hide (bl_call hb1 HB.out)
    have HR1 := hide (HR.out.below hb1)
    clear hb1
    go_wp2_with fail
    (with_reducible refine (HFS.out _ HR1.out).mono ?_)
    rintro e u2 ⟨rfl, hb2⟩
    have HB2 := hide (bl_call hb2 HB1.out)
    clear hb2
    go_wp2
    go_ret
    exact ⟨by simp, HB2.out⟩
  · rw [Bool.and_eq_true] at hok
    obtain ⟨hok, hd1⟩ := hok
    have hok' := hok
    simp only [okL, Bool.and_eq_true] at hok'
    obtain ⟨p, q, hp, rfl, hpq, hq, _⟩ := hasL_of hok'.2
    have OK := isOk_iff.1 hok'.1
    have q0 : (hasL L f q && inB d 1 10000) = true := by rw [hok'.2, hd1]; rfl
    have hb0 := ftL_bad OK.1 q0
    rw [lgO_yes hok hp rfl] at GI
    obtain ⟨e1, e2, e3⟩ := lg_eqs (L := L) (q := q) hp
    obtain ⟨b1, b2, b3⟩ := lg_bd (p := p) OK.1 hq (min (fBx L p) q) (Nat.min_le_right _ _)
    have E := ftL_yes q0
    rw [ftO_yes hok'.1] at hP hQ
    rw [← hQ] at hb0
    rw [e1, e2, e3] at E
    obtain ⟨x, hx⟩ : ∃ x, x = sW L q - sW L (min (fBx L p) q) + atW (tg L q) := ⟨_, rfl⟩
    obtain ⟨y, hy⟩ : ∃ x, x = sT L q - sT L (min (fBx L p) q) := ⟨_, rfl⟩
    obtain ⟨z, hz⟩ : ∃ x, x = sS L q - sS L (min (fBx L p) q) := ⟨_, rfl⟩
    rw [← hx, ← hy, ← hz] at GI E
    rw [← hx] at b1
    rw [← hy] at b2
    rw [← hz] at b3
    have hd' := inB_iff.1 hd1
    have HGI := hide GI
    have FG : Hid (x ≤ 10000 → y ≤ 10000 → z ≤ 10000 → ∀ u : World, Calls Try.prog 50 #[gv x y z, .int .i64 d] u fun e w' => e = .returned (.tuple #[.int .i64 P, .int .i64 Q]) ∧ Below u.heap.size u w') := hide (fun g1 g2 g3 u => by
      have V : fitv x y z d = fitOf x y z d := fitv_yes (by
        rw [Bool.and_eq_true]
        exact ⟨vg_iff.2 ⟨⟨by omega, g1⟩, ⟨b2, g2⟩, ⟨b3, g3⟩⟩, inB_yes (by omega) hd'.2⟩)
      have C := FitGlue_i x y z d u
      rw [V] at C
      have c1 : cl x = x := by simp [cl, g1]
      have c2 : cl y = y := by simp [cl, g2]
      have c3 : cl z = z := by simp [cl, g3]
      rw [c1, c2, c3] at E
      rw [hP, hQ, E]
      exact C)
    have k3 : ¬ Q < 0 := by omega
    clear GI hok hok' OK E e1 e2 e3 hx hy hz hp hP hQ q0 hd1
    go_wp2_with fail
    (with_reducible refine (HFI.out _ HR.out).mono ?_)
    rintro e u1 ⟨rfl, hb1⟩
    have HB1 := hide (bl_call hb1 HB.out)
    have HR1 := hide (HR.out.below hb1)
    clear hb1
    go_wp2_with fail
    (with_reducible refine (HFS.out _ HR1.out).mono ?_)
    rintro e u2 ⟨rfl, hb2⟩
    have HB2 := hide (bl_call hb2 HB1.out)
    have HR2 := hide (HR1.out.below hb2)
    have p1 : (P != P) = false := by simp
    have p2 : (Q != Q) = false := by simp
    clear hb2
    go_wp2_with fail
    (with_reducible refine (HGI.out _ HR2.out).mono ?_)
    rintro e u3 ⟨rfl, hb3⟩
    have HB3 := hide (bl_alloc (bl_call hb3 HB2.out) (.cells #[.int .i64 x, .int .i64 y, .int .i64 z] 34))
    have m0 : (u3.alloc (.cells #[.int .i64 x, .int .i64 y, .int .i64 z] 34)).cell? ⟨u3.heap.size, 0, none⟩ = some (.int .i64 x) := by simp [go_sem]
    have m1 : (u3.alloc (.cells #[.int .i64 x, .int .i64 y, .int .i64 z] 34)).cell? ⟨u3.heap.size, 1, none⟩ = some (.int .i64 y) := by simp [go_sem]
    have m2 : (u3.alloc (.cells #[.int .i64 x, .int .i64 y, .int .i64 z] 34)).cell? ⟨u3.heap.size, 2, none⟩ = some (.int .i64 z) := by simp [go_sem]
    clear hb3 HFI HFS HGI
    rcases (by omega : 10000 < x ∨ x ≤ 10000) with g1 | g1
    · go_wp2
      go_ret
      exact ⟨rfl, HB3.out⟩
    rcases (by omega : 10000 < y ∨ y ≤ 10000) with g2 | g2
    · go_wp2
      go_ret
      exact ⟨rfl, HB3.out⟩
    rcases (by omega : 10000 < z ∨ z ≤ 10000) with g3 | g3
    · go_wp2
      go_ret
      exact ⟨rfl, HB3.out⟩
    · have HFG := hide (FG.out g1 g2 g3)
      have p3 : (P == P) = true := by simp
      have p4 : (Q == Q) = true := by simp
      go_wp2_with fail
      (with_reducible refine (HFG.out _).mono ?_)
      rintro e u4 ⟨rfl, hb4⟩
      go_wp2
      go_ret
      exact ⟨by first | rfl | simp, bl_call hb4 HB3.out⟩
set_option maxRecDepth 100000 in
theorem lifted_FnFitLine (os : Os) (started : os.Started) (H : Type) (enc : TypeId × Value → H) :
    ReturnsInHanded {} Try.checked os 13 .any (Rows.fnFitLineSpec.pre6 enc Try.prog Try.f13 Rows.fnFitLineRow.domain false) (Rows.fnFitLineSpec.post enc Try.prog Try.f13 false true false false) := by
  refine returnsInHanded_of_change (C := Try.checked) own_knob started (by kernel_rfl) Try.func13
    (ChangeSpec.witness6 (enc := enc) (C := Try.checked) false ⟨#[], #[.slice none 0 0], []⟩ 8 (by kernel_rfl) (by kernel_rfl) (by kernel_rfl) (by kernel_rfl)) ?_
  intro W base args ds gs before hval0 hW hcnd _
  have hval : ∀ (j : Nat) t v, Try.f13.params[j]? = some t → args[j]? = some v → Value.okWide Try.prog W .any base t v := hval0
  have hW' := hW
  obtain ⟨p, q, hA0, hV, rfl, hfz, hnd⟩ := hW
  have hA : DataW.TrodAll enc Try.prog W 0 (fun _ => true) true Try.f13.params.toList args.toList ds p := hA0
  rw [Try.params13] at hA hval
  obtain ⟨v0, vs0, d0, ds0, p0, q0, hargs, rfl, rfl, zh0, r0⟩ := trodAll_cons hA
  obtain ⟨rfl, rfl, rfl⟩ := trodAll_nil r0
  obtain rfl : args = #[v0] := by cases args; simp_all
  obtain ⟨rfl, rfl⟩ := trodVars_none hV
  have zk0 := zh0
  have zl0 : ∀ x ∈ p0, x.block < W.heap.size := by obtain ⟨m, hm⟩ := zk0; exact DataW.trod_lt m _ _ _ hm
  clear hA0 hval0
  obtain ⟨a_code, n_code, c_code, rfl⟩ := okWide_slice Try.underlying47 (hval 0 47 v0 rfl rfl)
  obtain ⟨code, w_code⟩ := isRow_of Try.underlying47 Try.underlying5 (by kernel_rfl) zh0
  refine (walk_FnFitLine a_code n_code c_code code W w_code).mono fun e W' ⟨he, bel⟩ => ?_
  subst he
  exact ⟨_, rfl, _, _, _, [], _, [], hW', trodAll_mk1 (shut_bool Try.underlying4 _), (trodAll_cons_mk (Below.trod laid_out (by kernel_rfl) (of_decide_eq_true (by kernel_rfl)) zk0 bel zl0) trodAll_mk0), rfl, bel.frame _, fun h => by cases h⟩

/-- The statement. -/
theorem FnFitLine_holds : Rows.FnFitLineSaid :=
  OpenClaim.holds_of_wide 13 Try.f13 rfl rfl rfl rfl rfl rfl rfl ⟨rfl, rfl, rfl, rfl, rfl⟩ rfl rfl rfl rfl rfl (by kernel_rfl) Try.func13 (by unfold joinedFacts; rw [may_enter, lifts_final, make_cut]; kernel_rfl)
    (of_decide_eq_true (by kernel_rfl)) (by unfold Func.isWrapper; first | (rw [if_pos (by decide +kernel)]; kernel_rfl) | (rw [if_neg (by decide +kernel)]; exact ⟨rfl, rfl⟩))
    (fun os started H enc _ => lifted_FnFitLine os started H enc)
theorem coO_t {L : List It} {a b d t : Int} {n : Int} (h : coO L a b d t = (n, true)) : okL L a b = true ∧ inB d 1 10000 = true ∧ (ftO L a b d).1 ≠ 4 ∧ (ftO L a b d).2 ≤ t ∧ coO L a b d 10000 = (n, true) := by
  cases q : isOk L
  · rw [coO_no q] at h; cases h
  · rw [coO_yes q] at h
    cases q2 : (hasL L a b && inB d 1 10000 && inB t 0 10000 && decide ((ftL L a b d).1 ≠ 4) && decide ((ftL L a b d).2 ≤ t))
    · rw [coL_no q2] at h; cases h
    · rw [coL_yes q2] at h
      simp only [Bool.and_eq_true, decide_eq_true_eq] at q2
      obtain ⟨⟨⟨⟨h1, h2⟩, h3⟩, h4⟩, h5⟩ := q2
      have h3' := inB_iff.1 h3
      refine ⟨by simp [okL, q, h1], h2, by rw [ftO_yes q]; exact h4, by rw [ftO_yes q]; exact h5, ?_⟩
      rw [coO_yes q, coL_yes (by rw [h1, h2, decide_eq_true h4, decide_eq_true (show (ftL L a b d).2 ≤ 10000 by omega)]; rfl)]
      exact h
set_option maxRecDepth 8000 in
set_option maxHeartbeats 4000000 in
theorem walk_FnLineCost (a : Option Addr) (n c : Nat) (zs : List Int) (w : World) (hr : IsRow .u8 w a n c zs) :
    Calls Try.prog 14 #[.slice a n c] w fun e w' => e = .returned (.bool true) ∧ Below w.heap.size w w' := by
  have hm := small_rown hr; unfold maxLen at hm
  rcases (by omega : 1048576 < n ∨ n ≤ 1048576) with hn | hn
  · go_enter Try.func14, Try.ntmps14
    go_wp2
    go_ret
    exact ⟨rfl, bl_refl _⟩
  go_enter Try.func14, Try.ntmps14
  go_wp2_with fail
  (with_reducible refine (DrawLineCost_any _ _ _ _ _ hr).mono ?_)
  rintro e u0 ⟨A, c0, L, f, t, d, o, rfl, hol, hll, hf, ht, hd, ho, hb⟩
  clear hr
  have HR := hide hol.reads
  have HB := hide hb
  clear hol hb
  have CI := fun (u : World) (h : TL u A L.length L) => LineCost_i u A L.length c0 L h (by omega) f t d o (by omega) (by omega)
  have CS := fun (u : World) (h : TL u A L.length L) => LineCost_s u A L.length c0 L h (by omega) f t d o (by omega) (by omega)
  have CX := fun (u : World) (h : TL u A L.length L) => LineCost_i u A L.length c0 L h (by omega) f t d 10000 (by omega) (by omega)
  have FI := fun (u : World) (h : TL u A L.length L) => FitLine_i u A L.length c0 L h (by omega) f t d (by omega) (by omega)
  obtain ⟨P, hP⟩ : ∃ P, P = (coO L f t d o).1 := ⟨_, rfl⟩
  obtain ⟨Q, hQ⟩ : ∃ P, P = (coO L f t d o).2 := ⟨_, rfl⟩
  rw [← hP, ← hQ] at CI CS
  have HCI := hide CI
  have HCS := hide CS
  clear CI CS
  cases Q
  · clear CX FI hP hQ
    go_wp2_with fail
    (with_reducible refine (HCI.out _ HR.out).mono ?_)
    rintro e u1 ⟨rfl, hb1⟩
    have HB1 := hide (bl_call hb1 HB.out)
    have HR1 := hide (HR.out.below hb1)
    clear hb1
    go_wp2_with fail
    (with_reducible refine (HCS.out _ HR1.out).mono ?_)
    rintro e u2 ⟨rfl, hb2⟩
    have HB2 := hide (bl_call hb2 HB1.out)
    have p1 : (P != P) = false := by simp
    have p2 : (P == P) = true := by simp
    clear hb2
    go_wp2
    go_ret
    exact ⟨by first | rfl | simp, HB2.out⟩
  · obtain ⟨_, _, h4, h5, hx⟩ := coO_t (show coO L f t d o = (P, true) by rw [hP, hQ])
    rw [hx] at CX
    obtain ⟨F, hF⟩ : ∃ P, P = (ftO L f t d).1 := ⟨_, rfl⟩
    obtain ⟨G, hG⟩ : ∃ P, P = (ftO L f t d).2 := ⟨_, rfl⟩
    rw [← hF, ← hG] at FI
    rw [← hF] at h4
    rw [← hG] at h5
    have HCX := hide CX
    have HFI := hide FI
    have g4 : (F != 4) = true := bne_iff_ne.2 h4
    have g5 : (F == 4) = false := beq_eq_false_iff_ne.2 h4
    clear CX FI hP hQ hx hF hG h4
    go_wp2_with fail
    (with_reducible refine (HCI.out _ HR.out).mono ?_)
    rintro e u1 ⟨rfl, hb1⟩
    have HB1 := hide (bl_call hb1 HB.out)
    have HR1 := hide (HR.out.below hb1)
    clear hb1
    go_wp2_with fail
    (with_reducible refine (HCS.out _ HR1.out).mono ?_)
    rintro e u2 ⟨rfl, hb2⟩
    have HB2 := hide (bl_call hb2 HB1.out)
    have HR2 := hide (HR1.out.below hb2)
    have p1 : (P != P) = false := by simp
    have p2 : (P == P) = true := by simp
    clear hb2
    go_wp2_with fail
    (with_reducible refine (HFI.out _ HR2.out).mono ?_)
    rintro e u3 ⟨rfl, hb3⟩
    have HB3 := hide (bl_call hb3 HB2.out)
    have HR3 := hide (HR2.out.below hb3)
    clear hb3
    go_wp2_with fail
    (with_reducible refine (HCX.out _ HR3.out).mono ?_)
    rintro e u4 ⟨rfl, hb4⟩
    have HB4 := hide (bl_call hb4 HB3.out)
    clear hb4
    go_wp2
    go_ret
    exact ⟨by first | rfl | simp, HB4.out⟩
set_option maxRecDepth 100000 in
theorem lifted_FnLineCost (os : Os) (started : os.Started) (H : Type) (enc : TypeId × Value → H) :
    ReturnsInHanded {} Try.checked os 14 .any (Rows.fnLineCostSpec.pre6 enc Try.prog Try.f14 Rows.fnLineCostRow.domain false) (Rows.fnLineCostSpec.post enc Try.prog Try.f14 false true false false) := by
  refine returnsInHanded_of_change (C := Try.checked) own_knob started (by kernel_rfl) Try.func14
    (ChangeSpec.witness6 (enc := enc) (C := Try.checked) false ⟨#[], #[.slice none 0 0], []⟩ 8 (by kernel_rfl) (by kernel_rfl) (by kernel_rfl) (by kernel_rfl)) ?_
  intro W base args ds gs before hval0 hW hcnd _
  have hval : ∀ (j : Nat) t v, Try.f14.params[j]? = some t → args[j]? = some v → Value.okWide Try.prog W .any base t v := hval0
  have hW' := hW
  obtain ⟨p, q, hA0, hV, rfl, hfz, hnd⟩ := hW
  have hA : DataW.TrodAll enc Try.prog W 0 (fun _ => true) true Try.f14.params.toList args.toList ds p := hA0
  rw [Try.params14] at hA hval
  obtain ⟨v0, vs0, d0, ds0, p0, q0, hargs, rfl, rfl, zh0, r0⟩ := trodAll_cons hA
  obtain ⟨rfl, rfl, rfl⟩ := trodAll_nil r0
  obtain rfl : args = #[v0] := by cases args; simp_all
  obtain ⟨rfl, rfl⟩ := trodVars_none hV
  have zk0 := zh0
  have zl0 : ∀ x ∈ p0, x.block < W.heap.size := by obtain ⟨m, hm⟩ := zk0; exact DataW.trod_lt m _ _ _ hm
  clear hA0 hval0
  obtain ⟨a_code, n_code, c_code, rfl⟩ := okWide_slice Try.underlying47 (hval 0 47 v0 rfl rfl)
  obtain ⟨code, w_code⟩ := isRow_of Try.underlying47 Try.underlying5 (by kernel_rfl) zh0
  refine (walk_FnLineCost a_code n_code c_code code W w_code).mono fun e W' ⟨he, bel⟩ => ?_
  subst he
  exact ⟨_, rfl, _, _, _, [], _, [], hW', trodAll_mk1 (shut_bool Try.underlying4 _), (trodAll_cons_mk (Below.trod laid_out (by kernel_rfl) (of_decide_eq_true (by kernel_rfl)) zk0 bel zl0) trodAll_mk0), rfl, bel.frame _, fun h => by cases h⟩

/-- The statement. -/
theorem FnLineCost_holds : Rows.FnLineCostSaid :=
  OpenClaim.holds_of_wide 14 Try.f14 rfl rfl rfl rfl rfl rfl rfl ⟨rfl, rfl, rfl, rfl, rfl⟩ rfl rfl rfl rfl rfl (by kernel_rfl) Try.func14 (by unfold joinedFacts; rw [may_enter, lifts_final, make_cut]; kernel_rfl)
    (of_decide_eq_true (by kernel_rfl)) (by unfold Func.isWrapper; first | (rw [if_pos (by decide +kernel)]; kernel_rfl) | (rw [if_neg (by decide +kernel)]; exact ⟨rfl, rfl⟩))
    (fun os started H enc _ => lifted_FnLineCost os started H enc)
end Go.Proofs.Ytmolkppdfbldnaa
