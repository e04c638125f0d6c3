/- The last line of a filled text has its words separated by single spaces, for every code. No condition. -/
import Derived.Test.YtlfhfbeacleggaaJn
import Derived.Test.YtlfhfbeacleggaaFtX
import Derived.Test.YtlfhfbeacleggaaLwR
import Derived.BigQuiet
namespace Go.Proofs.Ytlfhfbeacleggaa
open Go.ChangeShapes Go.WideShapes Go.ChangeAt Go.RowKit
set_option linter.unusedVariables false
set_option linter.unusedSimpArgs false

theorem sg_end {l : List ByteArray} {x : ByteArray} : sg (l ++ [x]) l.length = x := by
  unfold sg
  simp [List.getD]
theorem ftO_len_eq {l : List ByteArray} {wd : Int} : (ftO l wd).length = (wwO l wd).length := by
  cases q : wok l && inB wd 20 60
  · rw [ftO_no q, wwO_no q]; rfl
  · rw [ftO_yes q, wwO_yes q, ftT_len]
/-- The last line. -/
theorem ft_last {l : List ByteArray} {wd : Int} {m : Nat} (h : (wwO l wd).length = m + 1) : ∃ f : Nat, f < l.length ∧ frm 0 (wwO l wd) m = f ∧ sg (ftO l wd) m = mkb (fb (sub l f l.length) 0 (sub l f l.length).length) := by
  cases q : wok l && inB wd 20 60
  · rw [wwO_no q] at h; simp at h
  · rw [wwO_yes q] at h
    obtain ⟨f, t, e1, e2, e3, e4, _, _, e7⟩ := ww_line q (k := m) (by omega)
    have ht := e7.2 h.symm
    subst ht
    refine ⟨f, by omega, by rw [wwO_yes q]; exact e1, ?_⟩
    rw [ftO_yes q, h]
    show sg (ftT l wd (wW l wd) m ++ [ln l wd (frm 0 (wW l wd) m).toNat (ng (wW l wd) m).toNat]) m = _
    have := sg_end (l := ftT l wd (wW l wd) m) (x := ln l wd (frm 0 (wW l wd) m).toNat (ng (wW l wd) m).toNat)
    rw [ftT_len] at this
    rw [this, e1, e2]
    show ln l wd f l.length = _
    unfold ln lr
    rw [if_pos rfl]
theorem DrawFillText_any (w : World) (a : Option Addr) (n c : Nat) (zs : List Int) (h : IsRow .u8 w a n c zs) :
    Calls Try.prog 27 #[.slice a n c] w fun e w' => ∃ (A : Option Addr) (c : Nat) (l : List ByteArray) (z : Int), e = .returned (.tuple #[.slice A l.length c, .int .i64 z]) ∧ OS w' 9 w.heap.size A c l ∧ l.length ≤ 11 ∧ WQ l ∧ (19 ≤ z ∧ z ≤ 61) ∧ Below w.heap.size w w' := by
  go_enter Try.func27, Try.ntmps27
  go_wp2_with fail
  (with_reducible refine (DrawWrapWords_any _ _ _ _ _ h).mono ?_)
  rintro e u0 ⟨A, cc, l, z, rfl, hol, hll, hwq, hz, hb⟩
  have HO := hide hol
  have HW := hide hwq
  have HZ := hide hz
  clear hol hwq hz h
  go_wp2
  go_ret2
  exact ⟨A, cc, l, z, rfl, HO.out, hll, HW.out, HZ.out, hb⟩
set_option maxRecDepth 8000 in
set_option maxHeartbeats 4000000 in
theorem walk_FnFillLast (a : Option Addr) (n c : Nat) (zs : List Int) (w : World) (hr : IsRow .u8 w a n c zs) :
    Calls Try.prog 5 #[.slice a n c] w fun e w' => e = .returned (.bool true) ∧ Below w.heap.size w w' := by
  have hm := small_rowl hr
  unfold maxLen at hm
  rcases (by omega : 1048576 < n ∨ n ≤ 1048576) with hn | hn
  · go_enter Try.func5, Try.ntmps5
    go_wp2
    go_ret
    exact ⟨rfl, bl_refl _⟩
  go_enter Try.func5, Try.ntmps5
  go_wp2_with fail
  (with_reducible refine (DrawFillText_any _ _ _ _ _ hr).mono ?_)
  rintro e u0 ⟨A, cc, l, wd, rfl, hol, hll, hwq, ⟨wd0, wd1⟩, hb⟩
  clear hr
  have R := hide hol.reads
  have HSZ := hide (fun k (hk : k < l.length) => show (sg l k).size ≤ 1048576 by have := hwq k hk; omega)
  have HSS := hide (fun k (hk : k < l.length) => show (sg l k).size ≤ 1000 by have := hwq k hk; omega)
  have HB := hide hb
  have hcap := OS.capF hol
  clear hol hb hwq
  have WI := hide (fun (V : World) (h : SL V A l.length l) => WrapWords_i V A l.length cc l wd h hcap HSZ.out (by omega))
  have FI := hide (fun (V : World) (h : SL V A l.length l) => FillText_i V A l.length cc l wd h hcap HSZ.out (by omega))
  have FS := hide (fun (V : World) (h : SL V A l.length l) => FillText_s V A l.length cc l wd h hcap HSZ.out (by omega))
  have hL40 := ftO_len (l := l) (wd := wd)
  have hLE := ftO_len_eq (l := l) (wd := wd)
  have LAST := hide (fun (m : Nat) (h : (wwO l wd).length = m + 1) => ft_last h)
  unfold RetT at FI FS
  unfold RetI at WI
  obtain ⟨E, hE⟩ : ∃ E, E = wwO l wd := ⟨_, rfl⟩
  obtain ⟨L, hL⟩ : ∃ L, L = ftO l wd := ⟨_, rfl⟩
  rw [← hE] at WI LAST hLE
  rw [← hL] at FI FS LAST hLE hL40
  clear hE hL
  have HLE := hide hLE
  clear hLE
  go_wp2_with fail
  (with_reducible refine (FI.out _ R.out).mono ?_)
  rintro e u1 ⟨A1, c1, rfl, ho1, hb1⟩
  have R1 := hide (R.out.below hb1)
  have HB1 := hide (bl_call hb1 HB.out)
  clear hb1
  go_wp2_with fail
  (with_reducible refine (WI.out _ R1.out).mono ?_)
  rintro e u2 ⟨A2, c2, rfl, ho2, hb2⟩
  have ho1 := ho1.below hb2
  have R2 := hide (R1.out.below hb2)
  have HB2 := hide (bl_call hb2 HB1.out)
  clear hb2
  go_wp2_with fail
  (with_reducible refine (FS.out _ R2.out).mono ?_)
  rintro e u3 ⟨A3, c3, rfl, ho3, hb3⟩
  have T1 := hide (ho1.below hb3).reads
  have E1 := hide (ho2.below hb3).reads
  have T3 := hide ho3.reads
  have R3 := hide (R2.out.below hb3)
  have HB3 := hide (bl_call hb3 HB2.out)
  clear ho1 ho2 ho3 hb3
  rcases Nat.eq_zero_or_pos L.length with h0 | h0
  · have q0 : ((L.length : Int) == 0) = true := beq_iff_eq.2 (by omega)
    clear h0
    go_wp2_with fail
    (with_reducible refine (eqTexts_l _ _ _ _ _ _ _ L L T1.out T3.out (by omega) (by omega)).mono ?_)
    rintro e u4 ⟨rfl, j4, rfl⟩
    simp only [decide_true]
    go_wp2_with fail
    (with_reducible refine (FS.out _ (R3.out.drewN j4)).mono ?_)
    rintro e u5 ⟨A5, c5, rfl, ho5, hb5⟩
    have HB5 := hide (bl_call hb5 (bl_drewN HB3.out j4))
    have T5 := hide ((T1.out.drewN j4).below hb5)
    clear hb5
    go_wp2_with fail
    (with_reducible refine (eqTexts_l _ _ _ _ _ _ _ L L T5.out ho5.reads (by omega) (by omega)).mono ?_)
    rintro e u6 ⟨rfl, j6, rfl⟩
    simp only [decide_true]
    go_wp2
    go_ret
    exact ⟨rfl, bl_drewN HB5.out _⟩
  · have q0 : ((L.length : Int) == 0) = false := beq_eq_false_iff_ne.2 (by omega)
    have q1 : ((E.length : Int) == (L.length : Int)) = true := beq_iff_eq.2 (by have := HLE.out; omega)
    obtain ⟨m, HM⟩ : ∃ m, Hid (E.length = m + 1) := ⟨E.length - 1, hide (by have := HLE.out; omega)⟩
    obtain ⟨f, hf, hfr, hsl⟩ := LAST.out m HM.out
    have hmL : m < L.length := by have := HLE.out; have := HM.out; omega
    have hLm : (L.length : Int) - 1 = (m : Int) := by have := HLE.out; have := HM.out; omega
    have sl := sub_len (l := l) (f := f) (Nat.le_refl l.length)
    have JW := hide (fun (V : World) (b o d : Nat) (h : SL V (some ⟨b, o, none⟩) l.length l) => joinWords_l V (some ⟨b, o + f, none⟩) (l.length - f) d (sub l f l.length) (h.sub (f := f) (t := l.length) (by omega) (Nat.le_refl _)) (fun k hk => by rw [sl] at hk; rw [sg_sub hk]; exact HSS.out _ (by omega)) (by rw [sl]; omega))
    obtain ⟨z, hz⟩ : ∃ z, z = mkb (fb (sub l f l.length) 0 (sub l f l.length).length) := ⟨_, rfl⟩
    rw [← hz] at JW hsl
    obtain ⟨b1, o1, rfl, _, d1⟩ := T1.out.at_ (i := m) hmL
    rw [hsl] at d1
    obtain ⟨b2, o2, rfl, _, d2⟩ := R3.out.at_ (i := 0) (by omega)
    have tz := teq_yes z
    have g1 : f ≤ l.length := by omega
    have g2 : l.length ≤ cc := hcap
    have g3 : ¬ cc = f := by omega
    have g4 : (f : Int) ≤ (l.length : Int) := by omega
    have g5 : ((l.length : Int) - (f : Int)) = ((l.length - f : Nat) : Int) := by omega
    have JV := hide (fun (d j : Nat) => JW.out (u3.drewN j) b2 o2 d (R3.out.drewN j))
    have HFR := hide hfr
    have hwm : IntKind.i64.wrap (m : Int) = (m : Int) := IntWalk.i64_in _ (by omega)
    clear hz hsl sl LAST JW hfr h0
    go_wp2_with fail
    (with_reducible refine (eqTexts_l _ _ _ _ _ _ _ L L T1.out T3.out (by omega) (by omega)).mono ?_)
    rintro e u4 ⟨rfl, j4, rfl⟩
    simp only [decide_true]
    rcases Nat.eq_zero_or_pos m with e0 | e0
    · obtain rfl : f = 0 := by
        have := HFR.out
        rw [e0] at this
        have h3 : frm 0 E 0 = 0 := rfl
        omega
      have c1 : decide ((1 : Int) < (E.length : Int)) = false := decide_eq_false (by have := HM.out; omega)
      have c2 : decide (1 < E.length) = false := decide_eq_false (by have := HM.out; omega)
      have c3 : ¬ (1 : Int) < (E.length : Int) := by have := HM.out; omega
      have JV := hide (fun (d j : Nat) => show Calls Try.prog 30 #[.slice (some ⟨b2, o2, none⟩) l.length d] (u3.drewN j) (fun e w' => e = .returned (.string z) ∧ u3.drewN j = w') from JV.out d j)
      clear e0
      go_wp2
      go_quiet (first | (go_at_call 30; (with_reducible refine (JV.out _ _).mono ?_); exact fun _ _ h => ⟨h.1, _, h.2.symm⟩))
      go_wp2
      go_ret
      exact ⟨rfl, bl_drewN (bl_drewN HB3.out _) _⟩
    · obtain ⟨q, rfl⟩ : ∃ q, m = q + 1 := ⟨m - 1, by omega⟩
      obtain ⟨b3, o3, rfl, _, d3⟩ := E1.out.at_ (i := q) (by have := HM.out; omega)
      rw [show ng E q = (f : Int) from by rw [← HFR.out, frm_succ]] at d3
      have c1 : decide ((1 : Int) < (E.length : Int)) = true := decide_eq_true (by have := HM.out; omega)
      have c2 : decide (1 < E.length) = true := decide_eq_true (by have := HM.out; omega)
      have c3 : (1 : Int) < (E.length : Int) := by have := HM.out; omega
      have c4 : (E.length : Int) - 2 = (q : Int) := by have := HM.out; omega
      have c5 : q < E.length := by have := HM.out; omega
      clear e0
      go_wp2
      go_quiet (first | (go_at_call 30; (with_reducible refine (JV.out _ _).mono ?_); exact fun _ _ h => ⟨h.1, _, h.2.symm⟩))
      go_wp2
      go_ret
      exact ⟨rfl, bl_drewN (bl_drewN HB3.out _) _⟩
set_option maxRecDepth 100000 in
theorem lifted_FnFillLast (os : Os) (started : os.Started) (H : Type) (enc : TypeId × Value → H) :
    ReturnsInHanded {} Try.checked os 5 .any (Rows.fnFillLastSpec.pre6 enc Try.prog Try.f5 Rows.fnFillLastRow.domain false) (Rows.fnFillLastSpec.post enc Try.prog Try.f5 false true false false) := by
  refine returnsInHanded_of_change (C := Try.checked) own_knob started (by kernel_rfl) Try.func5
    (ChangeSpec.witness6 (enc := enc) (C := Try.checked) false ⟨#[], #[.slice none 0 0], []⟩ 8 (by kernel_rfl) (by kernel_rfl) (by kernel_rfl) (by kernel_rfl)) ?_
  intro W base args ds gs before hval0 hW hcnd _
  have hval : ∀ (j : Nat) t v, Try.f5.params[j]? = some t → args[j]? = some v → Value.okWide Try.prog W .any base t v := hval0
  have hW' := hW
  obtain ⟨p, q, hA0, hV, rfl, hfz, hnd⟩ := hW
  have hA : DataW.TrodAll enc Try.prog W 0 (fun _ => true) true Try.f5.params.toList args.toList ds p := hA0
  rw [Try.params5] at hA hval
  obtain ⟨v0, vs0, d0, ds0, p0, q0, hargs, rfl, rfl, zh0, r0⟩ := trodAll_cons hA
  obtain ⟨rfl, rfl, rfl⟩ := trodAll_nil r0
  obtain rfl : args = #[v0] := by cases args; simp_all
  obtain ⟨rfl, rfl⟩ := trodVars_none hV
  have zk0 := zh0
  have zl0 : ∀ x ∈ p0, x.block < W.heap.size := by obtain ⟨m, hm⟩ := zk0; exact DataW.trod_lt m _ _ _ hm
  clear hA0 hval0
  obtain ⟨a_code, n_code, c_code, rfl⟩ := okWide_slice Try.underlying28 (hval 0 28 v0 rfl rfl)
  obtain ⟨code, w_code⟩ := isRow_of Try.underlying28 Try.underlying5 (by kernel_rfl) zh0
  refine (walk_FnFillLast a_code n_code c_code code W w_code).mono fun e W' ⟨he, bel⟩ => ?_
  subst he
  exact ⟨_, rfl, _, _, _, [], _, [], hW', trodAll_mk1 (shut_bool Try.underlying4 _), (trodAll_cons_mk (Below.trod laid_out (by kernel_rfl) (of_decide_eq_true (by kernel_rfl)) zk0 bel zl0) trodAll_mk0), rfl, bel.frame _, fun h => by cases h⟩

/-- The statement. -/
theorem FnFillLast_holds : Rows.FnFillLastSaid :=
  OpenClaim.holds_of_wide 5 Try.f5 rfl rfl rfl rfl rfl rfl rfl ⟨rfl, rfl, rfl, rfl, rfl⟩ rfl rfl rfl rfl rfl (by kernel_rfl) Try.func5 (by unfold joinedFacts; rw [may_enter, lifts_final, make_cut]; kernel_rfl)
    (of_decide_eq_true (by kernel_rfl)) (by unfold Func.isWrapper; first | (rw [if_pos (by decide +kernel)]; kernel_rfl) | (rw [if_neg (by decide +kernel)]; exact ⟨rfl, rfl⟩))
    (fun os started H enc _ => lifted_FnFillLast os started H enc)
end Go.Proofs.Ytlfhfbeacleggaa
