/- The law FnWrapCost holds at every input: the costs of lines add up. No condition. -/
import Derived.Test.YtmljmcckkbomcaaLwR
namespace Go.Proofs.Ytmljmcckkbomcaa
open Go.ChangeShapes Go.WideShapes Go.ChangeAt Go.RowKit
set_option linter.unusedVariables false
set_option linter.unusedSimpArgs false
open Classical

section
variable {l : List ByteArray} {wd : Int} {E : List Int}
theorem wc_true (h : (wcO l wd E).2 = true) : WOk l ∧ 20 ≤ wd ∧ wd ≤ 60 ∧ ve E l.length = true ∧ okT 0 E (fun _ f t => cW l wd f t) E.length ∧ (wcO l wd E).1 = wS l wd E E.length := by
  cases q : (wok l && inB wd 20 60 && ve E l.length) with
  | false => rw [wcO_no q] at h; cases h
  | true =>
    obtain ⟨q1, q2⟩ := (Bool.and_eq_true _ _).mp q
    obtain ⟨h1, h2, h3⟩ := ww_parts q1
    rw [wcO_yes q] at h ⊢
    by_cases hk : okT 0 E (fun _ f t => cW l wd f t) E.length
    · exact ⟨h1, h2, h3, q2, hk, by rw [toO_yes hk]; rfl⟩
    · rw [toO_no hk] at h; cases h
/-- One line but the last. -/
theorem wc_step (h : (wcO l wd E).2 = true) {j : Nat} (hj : j + 1 < E.length) : ∃ f t : Nat, frm 0 E j = f ∧ ng E j = t ∧ f < t ∧ t ≤ l.length ∧ wS l wd E (j + 1) = wS l wd E j + rs l wd f t * rs l wd f t ∧ 0 ≤ rs l wd f t ∧ rs l wd f t ≤ 61 := by
  obtain ⟨h1, h2, h3, h4, h5, _⟩ := wc_true h
  obtain ⟨f, t, e1, e2, e3, e4⟩ := ve_at h4 (show j < E.length by omega)
  obtain ⟨f', t', a1, a2, a3, a4⟩ := ve_at h4 (show j + 1 < E.length by omega)
  rw [frm_succ, e2] at a1
  have hk := h5 j (by omega)
  dsimp only at hk
  rw [e1, e2] at hk
  have hr := (cW_true hk).2.2
  have hb := rs_bd (wd := wd) (f := f) h1 e4
  refine ⟨f, t, e1, e2, e3, e4, ?_, hr, by omega⟩
  show wS l wd E j + (cW l wd (frm 0 E j) (ng E j)).1 = _
  rw [e1, e2, cW_mid e3 hr (by omega)]
theorem wc_end (h : (wcO l wd E).2 = true) {k : Nat} (hk : k + 1 = E.length) : wS l wd E E.length = wS l wd E k := by
  obtain ⟨h1, h2, h3, h4, h5, _⟩ := wc_true h
  obtain ⟨f, t, e1, e2, e3, e4⟩ := ve_at h4 (show k < E.length by omega)
  have hl := (ve_iff.1 h4).2
  unfold lst at hl
  rw [pv_frm, ← hk, frm_succ, e2] at hl
  have hq := h5 k (by omega)
  dsimp only at hq
  rw [e1, e2] at hq
  have hr := (cW_true hq).2.2
  rw [← hk]
  show wS l wd E k + (cW l wd (frm 0 E k) (ng E k)).1 = _
  rw [e1, e2, cW_last e3 hr (by omega)]
  simp
theorem jn_rest {f t : Nat} (h1 : f < t) (h2 : t ≤ l.length) : wd - ((mkb (fb (sub l f t) 0 (sub l f t).length)).size : Int) = rs l wd f t := by
  have e := sub_len (l := l) (f := f) h2
  obtain ⟨k, hk⟩ : ∃ k, (sub l f t).length = k + 1 := ⟨(sub l f t).length - 1, by omega⟩
  unfold rs
  rw [mkb_size, hk, fb0_len]
  omega
end
set_option maxRecDepth 8000 in
set_option maxHeartbeats 4000000 in
theorem walk_FnWrapCost (a : Option Addr) (n c : Nat) (zs : List Int) (w : World) (hr : IsRow .u8 w a n c zs) :
    Calls Try.prog 9 #[.slice a n c] w fun e w' => e = .returned (.bool true) ∧ Below w.heap.size w w' := by
  have hm := small_rowl hr
  unfold maxLen at hm
  rcases (by omega : 1048576 < n ∨ n ≤ 1048576) with hn | hn
  · go_enter Try.func9, Try.ntmps9
    go_wp2
    go_ret
    exact ⟨rfl, bl_refl _⟩
  go_enter Try.func9, Try.ntmps9
  go_wp2_with fail
  (with_reducible refine (DrawWrapCost_any _ _ _ _ _ hr).mono ?_)
  rintro e u0 ⟨A, cc, l, wd, B, d, E, rfl, hol, hll, hwq, ⟨wd0, wd1⟩, hoe, hel, hb⟩
  clear hr
  have R := hide hol.reads
  have RE := hide hoe.reads
  have HSZ := hide (fun k (hk : k < l.length) => show (sg l k).size ≤ 1048576 by have := hwq k hk; omega)
  have HSS := hide (fun k (hk : k < l.length) => show (sg l k).size ≤ 1000 by have := hwq k hk; omega)
  have HB := hide hb
  have hcap := hol.cap2
  clear hol hb hwq hoe
  have CC := hide (fun (V : World) (h : SL V A l.length l) (hE : IL V B E.length E) => WrapCost_i V A B l.length cc E.length d l wd E h hcap HSZ.out (by omega) hE (by omega))
  have SC := hide (fun (V : World) (h : SL V A l.length l) (hE : IL V B E.length E) => WrapCost_s V A B l.length cc E.length d l wd E h hcap HSZ.out (by omega) hE (by omega))
  have T0 := hide (wc_true (l := l) (wd := wd) (E := E))
  have ST := hide (fun h j => wc_step (l := l) (wd := wd) (E := E) h (j := j))
  have EN := hide (fun h k => wc_end (l := l) (wd := wd) (E := E) h (k := k))
  obtain ⟨t, ht⟩ : ∃ t, t = wcO l wd E := ⟨_, rfl⟩
  rw [← ht] at CC SC T0 ST EN
  clear ht
  obtain ⟨t1, t2⟩ := t
  dsimp only at T0 ST EN
  cases t2
  · clear T0 ST EN
    go_wp2_with fail
    (with_reducible refine (CC.out _ R.out RE.out).mono ?_)
    rintro e u1 ⟨rfl, hb1⟩
    have HB1 := hide (bl_call hb1 HB.out)
    have R1 := hide (R.out.below hb1)
    have RE1 := hide (RE.out.below hb1)
    clear hb1
    go_wp2_with fail
    (with_reducible refine (SC.out _ R1.out RE1.out).mono ?_)
    rintro e u2 ⟨rfl, j2, rfl⟩
    go_wp2
    go_ret
    exact ⟨bool_ret (by simp), bl_drewN HB1.out _⟩
  · obtain ⟨-, w20, w60, -, -, hn1⟩ := T0.out rfl
    have HN1 := hide hn1
    have SB := hide (fun (k : Nat) => wS_bd (l := l) w60 E k)
    clear T0 hn1
    go_wp2_with fail
    (with_reducible refine (CC.out _ R.out RE.out).mono ?_)
    rintro e u1 ⟨rfl, hb1⟩
    have HB1 := hide (bl_call hb1 HB.out)
    have R1 := hide (R.out.below hb1)
    have RE1 := hide (RE.out.below hb1)
    clear hb1
    go_wp2_with fail
    (with_reducible refine (SC.out _ R1.out RE1.out).mono ?_)
    rintro e u2 ⟨rfl, j2, rfl⟩
    have R2 := hide (R1.out.drewN j2)
    have RE2 := hide (RE1.out.drewN j2)
    have JW := hide (fun (f t b o dd : Nat) (h : SL (u1.drewN j2) (some ⟨b, o, none⟩) l.length l) (hft : f < t) (ht : t ≤ l.length) => joinWords_l (u1.drewN j2) (some ⟨b, o + f, none⟩) (t - f) dd (sub l f t) (h.sub (f := f) (t := t) (by omega) ht) (fun k hk => by rw [sub_len ht] at hk; rw [sg_sub hk]; exact HSS.out _ (by omega)) (by rw [sub_len ht]; omega))
    go_wp2
    go_loopw [10, 11, 12] (fun v f i u => ∃ (k p : Nat), (k + 1 ≤ E.length ∨ k = 0) ∧ i = .int .i64 k ∧ f = .int .i64 p ∧ frm 0 E k = p ∧ v = .int .i64 (wS l wd E k) ∧ u = u1.drewN j2) (fun _ _ i _ => E.length - (intOf i).toNat)
    case atStart => exact ⟨0, 0, .inr rfl, rfl, rfl, rfl, rfl, rfl⟩
    case round =>
      obtain ⟨k, p, hk, rfl, rfl, hfp, rfl, rfl⟩ := hrel
      have sb := SB.out k
      by_cases hlt : k + 1 < E.length
      · obtain ⟨f, t, e1, e2, e3, e4, e5, e6, e7⟩ := ST.out trivial k hlt
        obtain rfl : p = f := by omega
        obtain ⟨b, o, rfl, hb0, c0⟩ := RE2.out.at_ (i := k) (by omega)
        obtain ⟨b', o', rfl, hb0', c0'⟩ := R2.out.at_ (i := 0) (by omega)
        rw [e2] at c0
        have J := fun dd => JW.out p t b' o' dd R2.out e3 e4
        have rq := jn_rest (l := l) (wd := wd) e3 e4
        have FS := hide (show frm 0 E (k + 1) = t by rw [frm_succ, e2])
        obtain ⟨r, hr⟩ : ∃ r, r = rs l wd p t := ⟨_, rfl⟩
        rw [← hr] at e5 e6 e7 rq
        obtain ⟨y, hy⟩ : ∃ y, y = mkb (fb (sub l p t) 0 (sub l p t).length) := ⟨_, rfl⟩
        rw [← hy] at J rq
        have HJ := hide J
        have S5 := hide e5
        obtain ⟨z, hz⟩ : ∃ z, z = wS l wd E k := ⟨_, rfl⟩
        rw [← hz] at sb S5 ⊢
        have sq := sq_bd e6 e7
        have g1 : p ≤ t := by omega
        have g2 : t ≤ cc := by omega
        have g3 : ¬ cc = p := by omega
        have CAST : ((t : Int) - (p : Int)) = ((t - p : Nat) : Int) := by omega
        clear JW hr hy J e5 hz c0' e2 e1 hfp
        go_wp2_with fail
        (with_reducible refine (HJ.out _).mono ?_)
        rintro e w' ⟨rfl, rfl⟩
        go_wp2
        go_roundw
        case rel => exact ⟨k + 1, t, .inl (by omega), by go_num, rfl, FS.out, int_val (by rw [S5.out]), by trivial⟩
        case measure => simp [intOf]; omega
      · have e : wS l wd E k = t1 := by
          rw [HN1.out]
          rcases (by omega : E.length = 0 ∨ k + 1 = E.length) with h | h
          · have : k = 0 := by omega
            rw [h, this]
          · exact (EN.out trivial k h).symm
        have q0 : (wS l wd E k == t1) = true := beq_iff_eq.2 e
        have g5 : ¬ ((k : Int) + 1 < (E.length : Int)) := by omega
        have hkb : k ≤ 100 := by omega
        clear e hfp hk
        go_wp2
        go_ret
        exact ⟨rfl, bl_drewN HB1.out _⟩
set_option maxRecDepth 100000 in
theorem lifted_FnWrapCost (os : Os) (started : os.Started) (H : Type) (enc : TypeId × Value → H) :
    ReturnsInHanded {} Try.checked os 9 .any (Rows.fnWrapCostSpec.pre6 enc Try.prog Try.f9 Rows.fnWrapCostRow.domain false) (Rows.fnWrapCostSpec.post enc Try.prog Try.f9 false true false false) := by
  refine returnsInHanded_of_change (C := Try.checked) own_knob started (by kernel_rfl) Try.func9
    (ChangeSpec.witness6 (enc := enc) (C := Try.checked) false ⟨#[], #[.slice none 0 0], []⟩ 8 (by kernel_rfl) (by kernel_rfl) (by kernel_rfl) (by kernel_rfl)) ?_
  intro W base args ds gs before hval0 hW hcnd _
  have hval : ∀ (j : Nat) t v, Try.f9.params[j]? = some t → args[j]? = some v → Value.okWide Try.prog W .any base t v := hval0
  have hW' := hW
  obtain ⟨p, q, hA0, hV, rfl, hfz, hnd⟩ := hW
  have hA : DataW.TrodAll enc Try.prog W 0 (fun _ => true) true Try.f9.params.toList args.toList ds p := hA0
  rw [Try.params9] at hA hval
  obtain ⟨v0, vs0, d0, ds0, p0, q0, hargs, rfl, rfl, zh0, r0⟩ := trodAll_cons hA
  obtain ⟨rfl, rfl, rfl⟩ := trodAll_nil r0
  obtain rfl : args = #[v0] := by cases args; simp_all
  obtain ⟨rfl, rfl⟩ := trodVars_none hV
  have zk0 := zh0
  have zl0 : ∀ x ∈ p0, x.block < W.heap.size := by obtain ⟨m, hm⟩ := zk0; exact DataW.trod_lt m _ _ _ hm
  clear hA0 hval0
  obtain ⟨a_code, n_code, c_code, rfl⟩ := okWide_slice Try.underlying36 (hval 0 36 v0 rfl rfl)
  obtain ⟨code, w_code⟩ := isRow_of Try.underlying36 Try.underlying5 (by kernel_rfl) zh0
  refine (walk_FnWrapCost a_code n_code c_code code W w_code).mono fun e W' ⟨he, bel⟩ => ?_
  subst he
  exact ⟨_, rfl, _, _, _, [], _, [], hW', trodAll_mk1 (shut_bool Try.underlying4 _), (trodAll_cons_mk (Below.trod laid_out (by kernel_rfl) (of_decide_eq_true (by kernel_rfl)) zk0 bel zl0) trodAll_mk0), rfl, bel.frame _, fun h => by cases h⟩

/-- The statement. -/
theorem FnWrapCost_holds : Rows.FnWrapCostSaid :=
  OpenClaim.holds_of_wide 9 Try.f9 rfl rfl rfl rfl rfl rfl rfl ⟨rfl, rfl, rfl, rfl, rfl⟩ rfl rfl rfl rfl rfl (by kernel_rfl) Try.func9 (by kernel_rfl)
    (of_decide_eq_true (by kernel_rfl)) (by unfold Func.isWrapper; first | (rw [if_pos (by decide +kernel)]; kernel_rfl) | (rw [if_neg (by decide +kernel)]; exact ⟨rfl, rfl⟩))
    (fun os started H enc _ => lifted_FnWrapCost os started H enc)
end Go.Proofs.Ytmljmcckkbomcaa
