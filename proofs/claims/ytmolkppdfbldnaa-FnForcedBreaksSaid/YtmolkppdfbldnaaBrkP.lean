/- The laws on breaks hold for every code: paragraphs end at a break, forced breaks are breaks. No condition. -/
import Derived.Test.YtmolkppdfbldnaaJn
import Derived.Test.YtmolkppdfbldnaaPs
import Derived.Test.YtmolkppdfbldnaaDrawLn
import Derived.BigQuiet
import Derived.Deep.QuietTactic
namespace Go.Proofs.Ytmolkppdfbldnaa
open Go.ChangeShapes Go.WideShapes Go.ChangeAt Go.RowKit
set_option linter.unusedVariables false

theorem small_rowb {w : World} {a : Option Addr} {n c : Nat} {zs : List Int} (h : IsRow .u8 w a n c zs) : n ≤ maxLen := by
  rcases h with ⟨_, rfl, _, _⟩ | ⟨_, _, hl, hm, _⟩
  · exact Nat.zero_le _
  · omega
theorem ng_app1 {l : List Int} {x : Int} {j : Nat} (h : j < l.length) : ng (l ++ [x]) j = ng l j := by
  rw [ng_lt (by simp; omega), ng_lt h, List.getElem_append_left h]
theorem ng_app2 {l : List Int} {x : Int} : ng (l ++ [x]) l.length = x := by
  rw [ng_lt (by simp)]; simp
theorem brTo_at {L : List It} : ∀ {k j : Nat}, j < (brTo L k).length → ∃ m : Nat, ng (brTo L k) j = (m : Int) ∧ m < k ∧ mayE L m = true
  | 0, j, h => by simp [brTo] at h
  | k + 1, j, h => by
    simp only [brTo] at h ⊢
    by_cases hm : mayE L k = true
    · rw [if_pos hm] at h ⊢
      rw [List.length_append] at h
      simp at h
      rcases (by omega : j < (brTo L k).length ∨ j = (brTo L k).length) with e | e
      · rw [ng_app1 e]
        obtain ⟨m, a, b, c⟩ := brTo_at e
        exact ⟨m, a, by omega, c⟩
      · rw [e, ng_app2]
        exact ⟨k, rfl, by omega, hm⟩
    · rw [if_neg hm] at h ⊢
      obtain ⟨m, a, b, c⟩ := brTo_at h
      exact ⟨m, a, by omega, c⟩
theorem brTo_asc {L : List It} : ∀ {k i j : Nat}, i < j → j < (brTo L k).length → ng (brTo L k) i < ng (brTo L k) j
  | 0, i, j, _, h => by simp [brTo] at h
  | k + 1, i, j, hij, h => by
    simp only [brTo] at h ⊢
    by_cases hm : mayE L k = true
    · rw [if_pos hm] at h ⊢
      rw [List.length_append] at h
      simp at h
      rcases (by omega : j < (brTo L k).length ∨ j = (brTo L k).length) with e | e
      · rw [ng_app1 e, ng_app1 (by omega)]
        exact brTo_asc hij e
      · rw [e, ng_app2, ng_app1 (by omega)]
        obtain ⟨m, a, b, _⟩ := brTo_at (L := L) (k := k) (j := i) (by omega)
        omega
    · rw [if_neg hm] at h ⊢
      exact brTo_asc hij h
theorem brTo_has {L : List It} : ∀ {k m : Nat}, m < k → mayE L m = true → ((m : Nat) : Int) ∈ brTo L k
  | 0, m, h, _ => by omega
  | k + 1, m, h, hm => by
    simp only [brTo]
    rcases (by omega : m < k ∨ m = k) with e | e
    · have := brTo_has e hm
      split
      · exact List.mem_append_left _ this
      · exact this
    · subst e
      rw [if_pos hm]
      simp
/-- The last item of a paragraph is a break. -/
theorem ok_last {L : List It} (h : isOk L = true) : mayE L (L.length - 1) = true ∧ isF (tg L (L.length - 1)) = true := by
  obtain ⟨_, _, h3, h4⟩ := isOk_iff.1 h
  refine ⟨?_, by unfold isF; exact decide_eq_true ⟨h3, h4⟩⟩
  unfold mayE
  rw [if_neg (by omega), if_pos h3]
  exact decide_eq_true (by omega)
theorem brO_last {L : List It} (h : isOk L = true) : brO L ≠ [] ∧ ng (brO L) ((brO L).length - 1) = (L.length : Int) - 1 := by
  have h1 := (isOk_iff.1 h).2.1
  obtain ⟨n, hn⟩ : ∃ n, L.length = n + 1 := ⟨L.length - 1, by omega⟩
  have hl := (ok_last h).1
  rw [hn, Nat.add_sub_cancel] at hl
  rw [brO_yes h, hn]
  simp only [brTo]
  rw [if_pos hl]
  refine ⟨by simp, ?_⟩
  rw [List.length_append]
  simp only [List.length_singleton, Nat.add_sub_cancel]
  rw [ng_app2]; omega
theorem mayE_k {L : List It} {m : Nat} (h : mayE L m = true) : (tg L m).k ≠ 1 := by
  intro e
  unfold mayE at h
  rw [if_neg (by omega), if_neg (by omega)] at h
  cases h
theorem DrawBreaksOf_any (w : World) (a : Option Addr) (n c : Nat) (zs : List Int) (h : IsRow .u8 w a n c zs) :
    Calls Try.prog 39 #[.slice a n c] w fun e w' => ∃ (A : Option Addr) (c : Nat) (L : List It), e = .returned (.slice A L.length c) ∧ TO w' 51 w.heap.size A c L ∧ L.length ≤ 23 ∧ Below w.heap.size w w' := by
  go_enter Try.func39, Try.ntmps39
  go_wp2_with fail
  (with_reducible refine (newReader_any _ _ _ _ _ h).mono ?_)
  rintro e u0 ⟨rfl, hrd, hb⟩
  have hgl : w.heap.size < u0.heap.size := hrd.lt
  go_wp2_with fail
  (with_reducible refine (anyItems_any _ _ _ _ hrd (by omega) (by omega)).mono ?_)
  rintro e u1 ⟨A, c1, L, rfl, hol, hll, hrd1, hon1⟩
  have O1 := on_call hon1 (on_below hb (on_refl w (some w.heap.size)))
  go_wp2
  go_ret
  exact ⟨A, c1, L, rfl, hol.more (by omega), hll, on_new O1 (Nat.le_refl _)⟩
theorem DrawForcedBreaks_any (w : World) (a : Option Addr) (n c : Nat) (zs : List Int) (h : IsRow .u8 w a n c zs) :
    Calls Try.prog 43 #[.slice a n c] w fun e w' => ∃ (A : Option Addr) (c : Nat) (L : List It), e = .returned (.slice A L.length c) ∧ TO w' 51 w.heap.size A c L ∧ L.length ≤ 23 ∧ Below w.heap.size w w' := by
  go_enter Try.func43, Try.ntmps43
  go_wp2_with fail
  (with_reducible refine (newReader_any _ _ _ _ _ h).mono ?_)
  rintro e u0 ⟨rfl, hrd, hb⟩
  have hgl : w.heap.size < u0.heap.size := hrd.lt
  go_wp2_with fail
  (with_reducible refine (anyItems_any _ _ _ _ hrd (by omega) (by omega)).mono ?_)
  rintro e u1 ⟨A, c1, L, rfl, hol, hll, hrd1, hon1⟩
  have O1 := on_call hon1 (on_below hb (on_refl w (some w.heap.size)))
  go_wp2
  go_ret
  exact ⟨A, c1, L, rfl, hol.more (by omega), hll, on_new O1 (Nat.le_refl _)⟩
set_option maxRecDepth 4000 in
set_option maxHeartbeats 4000000 in
theorem walk_FnBreaksOf (a : Option Addr) (n c : Nat) (zs : List Int) (w : World) (hr : IsRow .u8 w a n c zs) :
    Calls Try.prog 9 #[.slice a n c] w fun e w' => e = .returned (.bool true) ∧ Below w.heap.size w w' := by
  have hm := small_rowb hr
  unfold maxLen at hm
  rcases (by omega : 1048576 < n ∨ n ≤ 1048576) with hn | hn
  · go_enter Try.func9, Try.ntmps9
    go_wp2
    go_ret
    exact ⟨rfl, bl_refl _⟩
  go_enter Try.func9, Try.ntmps9
  go_wp2_with fail
  (with_reducible refine (DrawBreaksOf_any _ _ _ _ _ hr).mono ?_)
  rintro e u0 ⟨A, c0, L, rfl, hol, hll, hb⟩
  clear hr
  have HR := hide hol.reads
  have HB := hide hb
  clear hol hb
  have BI := fun (u : World) (h : TL u A L.length L) => BreaksOf_i u A L.length c0 L h (by omega)
  have BS := fun (u : World) (h : TL u A L.length L) => BreaksOf_s u A L.length c0 L h (by omega)
  unfold RetL at BI BS
  have hlb := brO_len L
  obtain ⟨R, hR⟩ : ∃ R, R = brO L := ⟨_, rfl⟩
  rw [← hR] at BI BS hlb
  have HBI := hide BI
  have HBS := hide BS
  have VI := fun (u : World) (h : TL u A L.length L) => ValidItems_i u A L.length c0 L h (by omega)
  obtain ⟨ok, hok⟩ : ∃ ok, ok = isOk L := ⟨_, rfl⟩
  rw [← hok] at VI
  have HVI := hide VI
  have HOK := hide hok
  have HRE := hide hR
  clear BI BS VI hok hR
  go_wp2_with fail
  (with_reducible refine (HBI.out _ HR.out).mono ?_)
  rintro e u1 ⟨A1, c1, rfl, ho1, hb1⟩
  have HR1 := hide (HR.out.below hb1)
  have HB1 := hide (bl_call hb1 HB.out)
  have HO1 := hide ho1
  clear ho1 hb1
  go_wp2_with fail
  (with_reducible refine (HBS.out _ HR1.out).mono ?_)
  rintro e u2 ⟨A2, c2, rfl, ho2, hb2⟩
  have HR2 := hide (HR1.out.below hb2)
  have HB2 := hide (bl_call hb2 HB1.out)
  have HO12 := hide (HO1.out.below hb2)
  clear hb2
  go_wp2_with fail
  (with_reducible refine (eqInts_l _ _ _ _ _ _ _ R R HO12.out.reads ho2.reads (by omega) (by omega)).mono ?_)
  rintro e w' ⟨rfl, j3, rfl⟩
  simp only [decide_true]
  have HR3 := hide (HR2.out.drewN j3)
  have HO3 := hide (HO12.out.drewN j3)
  have HB3 := hide (bl_drewN HB2.out j3)
  clear ho2
  go_wp2_with fail
  (with_reducible refine (HVI.out _ HR3.out).mono ?_)
  rintro e u4 ⟨rfl, hb4⟩
  have HR4 := hide (HR3.out.below hb4)
  have HO4 := hide (HO3.out.below hb4)
  have HB4 := hide (bl_call hb4 HB3.out)
  clear hb4
  cases ok
  · go_wp2_with fail
    (with_reducible refine (HBS.out _ HR4.out).mono ?_)
    rintro e u5 ⟨A5, c5, rfl, ho5, hb5⟩
    go_wp2_with fail
    (with_reducible refine (eqInts_l _ _ _ _ _ _ _ R R (HO4.out.below hb5).reads ho5.reads (by omega) (by omega)).mono ?_)
    rintro e w' ⟨rfl, j6, rfl⟩
    simp only [decide_true]
    go_wp2
    go_ret
    exact ⟨rfl, bl_drewN (bl_call hb5 HB4.out) _⟩
  · have HIL := hide HO4.out.reads
    have HL := hide (brO_last HOK.out.symm)
    rw [← HRE.out] at HL
    have HAT := hide (fun (j : Nat) (hj : j < R.length) => show ∃ m : Nat, ng R j = (m : Int) ∧ m < L.length ∧ mayE L m = true by
      have e := HRE.out.trans (brO_yes HOK.out.symm)
      rw [e] at hj ⊢
      exact brTo_at hj)
    have HASC := hide (fun (i j : Nat) (hij : i < j) (hj : j < R.length) => show ng R i < ng R j by
      have e := HRE.out.trans (brO_yes HOK.out.symm)
      rw [e] at hj ⊢
      exact brTo_asc hij hj)
    clear HBI HBS HVI HR HR1 HR2 HR3 HB HB1 HB2 HB3 HO1 HO12 HO3 HO4 HRE
    go_wp2
    go_loopw [5] (fun i u => ∃ p j : Nat, p ≤ R.length ∧ i = .int .i64 p ∧ u = u4.drewN j) (fun i _ => R.length - (intOf i).toNat)
    case atStart => exact ⟨0, 0, by omega, rfl, rfl⟩
    case round =>
      obtain ⟨p, j, hp, rfl, rfl⟩ := hrel
      by_cases hlt : p < R.length
      · obtain ⟨m, hm1, hm2, hm3⟩ := HAT.out p hlt
        obtain ⟨b, o, rfl, hb0, k0, _, _, _, _, _⟩ := HR4.out.at6 hm2
        obtain ⟨b1, o1, rfl, _, q0⟩ := HIL.out.at_ hlt
        rw [hm1] at q0
        obtain ⟨x, hx⟩ : ∃ x, x = (tg L m).k := ⟨_, rfl⟩
        have hx1 : (x == 1) = false := beq_eq_false_iff_ne.2 (by rw [hx]; exact mayE_k hm3)
        rw [← hx] at k0
        have i1 : (p : Int) < (R.length : Int) := by omega
        have i2 : (m : Int) < (L.length : Int) := by omega
        have i3 : (0 : Int) ≤ (m : Int) := by omega
        rcases Nat.eq_zero_or_pos p with h0 | h0
        · subst h0
          have d1 : decide ((0 : Int) < (0 : Int)) = false := rfl
          rw [Nat.add_zero] at q0
          have i4 : 0 < R.length := hlt
          clear hm1 hm3 hx
          go_wp2_with fail
          go_quiet (fail)
          go_wp2
          go_roundw
          case rel => exact ⟨1, _, by omega, by go_num, by first | rfl | (rw [World.drewN_drewN])⟩
          case measure => simp [intOf]; omega
        · obtain ⟨q, hq⟩ : ∃ q, p = q + 1 := ⟨p - 1, by omega⟩
          have hql : q < R.length := by omega
          obtain ⟨m', hm1', _, _⟩ := HAT.out q hql
          obtain ⟨b2, o2, hA, _, q1⟩ := HIL.out.at_ hql
          injection hA with hA
          cases hA
          have hasc := HASC.out q p (by omega) hlt
          rw [hm1, hm1'] at hasc
          rw [hm1'] at q1
          have wq : IntKind.i64.wrap ((p : Int) - 1) = (q : Int) := by rw [show (p : Int) - 1 = (q : Int) by omega]; exact IntWalk.i64_in _ (by omega)
          have d1 : decide ((0 : Int) < (p : Int)) = true := decide_eq_true (by omega)
          have d2 : decide ((m : Int) ≤ (m' : Int)) = false := decide_eq_false (by omega)
          have d3 : decide (m ≤ m') = false := decide_eq_false (by omega)
          have d4 : decide (0 < p) = true := decide_eq_true (by omega)
          have i4 : (q : Int) < (R.length : Int) := by omega
          have i5 : (0 : Int) ≤ (q : Int) := by omega
          clear hm1 hm3 hx hm1' hasc hq
          go_wp2_with fail
          go_quiet (fail)
          go_wp2
          go_roundw
          case rel => exact ⟨p + 1, _, by omega, by go_num, by first | rfl | (rw [World.drewN_drewN])⟩
          case measure => simp [intOf]; omega
      · have HLA := hide (fun (u : World) (h : IL u A1 R.length R) => last_l u A1 R.length c1 R h (by omega))
        have E := hide (show (if R = [] then (-1 : Int) else ng R (R.length - 1)) = (L.length : Int) - 1 by rw [if_neg HL.out.1]; exact HL.out.2)
        rw [E.out] at HLA
        have hz : ((L.length : Int) - 1 == (L.length : Int) - 1) = true := by simp
        go_wp2_with fail
        (with_reducible refine (HLA.out _ (HIL.out.drewN j)).mono ?_)
        rintro e w' ⟨rfl, rfl⟩
        go_wp2
        go_ret
        exact ⟨by simp, bl_drewN HB4.out _⟩
set_option maxRecDepth 100000 in
theorem lifted_FnBreaksOf (os : Os) (started : os.Started) (H : Type) (enc : TypeId × Value → H) :
    ReturnsInHanded {} Try.checked os 9 .any (Rows.fnBreaksOfSpec.pre6 enc Try.prog Try.f9 Rows.fnBreaksOfRow.domain false) (Rows.fnBreaksOfSpec.post enc Try.prog Try.f9 false true false false) := by
  refine returnsInHanded_of_change (C := Try.checked) own_knob started (by kernel_rfl) Try.func9
    (ChangeSpec.witness6 (enc := enc) (C := Try.checked) false ⟨#[], #[.slice none 0 0], []⟩ 8 (by kernel_rfl) (by kernel_rfl) (by kernel_rfl) (by kernel_rfl)) ?_
  intro W base args ds gs before hval0 hW hcnd _
  have hval : ∀ (j : Nat) t v, Try.f9.params[j]? = some t → args[j]? = some v → Value.okWide Try.prog W .any base t v := hval0
  have hW' := hW
  obtain ⟨p, q, hA0, hV, rfl, hfz, hnd⟩ := hW
  have hA : DataW.TrodAll enc Try.prog W 0 (fun _ => true) true Try.f9.params.toList args.toList ds p := hA0
  rw [Try.params9] at hA hval
  obtain ⟨v0, vs0, d0, ds0, p0, q0, hargs, rfl, rfl, zh0, r0⟩ := trodAll_cons hA
  obtain ⟨rfl, rfl, rfl⟩ := trodAll_nil r0
  obtain rfl : args = #[v0] := by cases args; simp_all
  obtain ⟨rfl, rfl⟩ := trodVars_none hV
  have zk0 := zh0
  have zl0 : ∀ x ∈ p0, x.block < W.heap.size := by obtain ⟨m, hm⟩ := zk0; exact DataW.trod_lt m _ _ _ hm
  clear hA0 hval0
  obtain ⟨a_code, n_code, c_code, rfl⟩ := okWide_slice Try.underlying47 (hval 0 47 v0 rfl rfl)
  obtain ⟨code, w_code⟩ := isRow_of Try.underlying47 Try.underlying5 (by kernel_rfl) zh0
  refine (walk_FnBreaksOf a_code n_code c_code code W w_code).mono fun e W' ⟨he, bel⟩ => ?_
  subst he
  exact ⟨_, rfl, _, _, _, [], _, [], hW', trodAll_mk1 (shut_bool Try.underlying4 _), (trodAll_cons_mk (Below.trod laid_out (by kernel_rfl) (of_decide_eq_true (by kernel_rfl)) zk0 bel zl0) trodAll_mk0), rfl, bel.frame _, fun h => by cases h⟩

/-- The statement. -/
theorem FnBreaksOf_holds : Rows.FnBreaksOfSaid :=
  OpenClaim.holds_of_wide 9 Try.f9 rfl rfl rfl rfl rfl rfl rfl ⟨rfl, rfl, rfl, rfl, rfl⟩ rfl rfl rfl rfl rfl (by kernel_rfl) Try.func9 (by unfold joinedFacts; rw [may_enter, lifts_final, make_cut]; kernel_rfl)
    (of_decide_eq_true (by kernel_rfl)) (by unfold Func.isWrapper; first | (rw [if_pos (by decide +kernel)]; kernel_rfl) | (rw [if_neg (by decide +kernel)]; exact ⟨rfl, rfl⟩))
    (fun os started H enc _ => lifted_FnBreaksOf os started H enc)
theorem fbTo_at {L : List It} : ∀ {k j : Nat}, j < (fbTo L k).length → ∃ m : Nat, ng (fbTo L k) j = (m : Int) ∧ m < k ∧ isF (tg L m) = true
  | 0, j, h => by simp [fbTo] at h
  | k + 1, j, h => by
    simp only [fbTo] at h ⊢
    by_cases hm : isF (tg L k) = true
    · rw [if_pos hm] at h ⊢
      rw [List.length_append] at h
      simp at h
      rcases (by omega : j < (fbTo L k).length ∨ j = (fbTo L k).length) with e | e
      · rw [ng_app1 e]
        obtain ⟨m, a, b, c⟩ := fbTo_at e
        exact ⟨m, a, by omega, c⟩
      · rw [e, ng_app2]
        exact ⟨k, rfl, by omega, hm⟩
    · rw [if_neg hm] at h ⊢
      obtain ⟨m, a, b, c⟩ := fbTo_at h
      exact ⟨m, a, by omega, c⟩
theorem fba_len2 (L : List It) : (fba L).length ≤ 60 := by
  unfold fba
  split
  · rename_i h
    have h1 := (isOk_iff.1 h).2.1
    have := fbTo_len L L.length
    omega
  · simp
theorem isF_brk {L : List It} {m : Nat} (h : isF (tg L m) = true) : mayE L m = true ∧ (tg L m).p = -1000 := by
  obtain ⟨h3, h4⟩ := of_decide_eq_true h
  refine ⟨?_, h4⟩
  unfold mayE
  rw [if_neg (by omega), if_pos h3]
  exact decide_eq_true (by omega)
theorem fba_last {L : List It} (h : isOk L = true) : fba L ≠ [] ∧ ng (fba L) ((fba L).length - 1) = (L.length : Int) - 1 := by
  have h1 := (isOk_iff.1 h).2.1
  obtain ⟨n, hn⟩ : ∃ n, L.length = n + 1 := ⟨L.length - 1, by omega⟩
  have hl := (ok_last h).2
  rw [hn, Nat.add_sub_cancel] at hl
  rw [fba_yes h, hn]
  simp only [fbTo]
  rw [if_pos hl]
  refine ⟨by simp, ?_⟩
  rw [List.length_append]
  simp only [List.length_singleton, Nat.add_sub_cancel]
  rw [ng_app2]; omega
set_option maxRecDepth 4000 in
set_option maxHeartbeats 4000000 in
theorem walk_FnForcedBreaks (a : Option Addr) (n c : Nat) (zs : List Int) (w : World) (hr : IsRow .u8 w a n c zs) :
    Calls Try.prog 10 #[.slice a n c] w fun e w' => e = .returned (.bool true) ∧ Below w.heap.size w w' := by
  have hm := small_rowb hr
  unfold maxLen at hm
  rcases (by omega : 1048576 < n ∨ n ≤ 1048576) with hn | hn
  · go_enter Try.func10, Try.ntmps10
    go_wp2
    go_ret
    exact ⟨rfl, bl_refl _⟩
  go_enter Try.func10, Try.ntmps10
  go_wp2_with fail
  (with_reducible refine (DrawForcedBreaks_any _ _ _ _ _ hr).mono ?_)
  rintro e u0 ⟨A, c0, L, rfl, hol, hll, hb⟩
  clear hr
  have HR := hide hol.reads
  have HB := hide hb
  clear hol hb
  have BI := fun (u : World) (h : TL u A L.length L) => ForcedBreaks_i u A L.length c0 L h (by omega)
  have BS := fun (u : World) (h : TL u A L.length L) => ForcedBreaks_s u A L.length c0 L h (by omega)
  have BB := fun (u : World) (h : TL u A L.length L) => BreaksOf_i u A L.length c0 L h (by omega)
  unfold RetL at BI BS BB
  have hlb := fba_len2 L
  have hlq := brO_len L
  obtain ⟨R, hR⟩ : ∃ R, R = fba L := ⟨_, rfl⟩
  obtain ⟨Q, hQ⟩ : ∃ R, R = brO L := ⟨_, rfl⟩
  rw [← hR] at BI BS hlb
  rw [← hQ] at BB hlq
  have HBI := hide BI
  have HBS := hide BS
  have HBB := hide BB
  have HRE := hide hR
  have HQE := hide hQ
  clear BI BS BB hR hQ
  go_wp2_with fail
  (with_reducible refine (HBI.out _ HR.out).mono ?_)
  rintro e u1 ⟨A1, c1, rfl, ho1, hb1⟩
  have HR1 := hide (HR.out.below hb1)
  have HB1 := hide (bl_call hb1 HB.out)
  have HO1 := hide ho1
  clear ho1 hb1
  go_wp2_with fail
  (with_reducible refine (HBS.out _ HR1.out).mono ?_)
  rintro e u2 ⟨A2, c2, rfl, ho2, hb2⟩
  have HR2 := hide (HR1.out.below hb2)
  have HB2 := hide (bl_call hb2 HB1.out)
  have HO12 := hide (HO1.out.below hb2)
  clear hb2
  go_wp2_with fail
  (with_reducible refine (eqInts_l _ _ _ _ _ _ _ R R HO12.out.reads ho2.reads (by omega) (by omega)).mono ?_)
  rintro e w' ⟨rfl, j3, rfl⟩
  simp only [decide_true]
  have HR3 := hide (HR2.out.drewN j3)
  have HO3 := hide (HO12.out.drewN j3)
  have HB3 := hide (bl_drewN HB2.out j3)
  clear ho2
  rcases Nat.eq_zero_or_pos R.length with h0 | h0
  · have z0 : ((R.length : Int) == 0) = true := by rw [h0]; rfl
    have z1 : (R.length == 0) = true := by rw [h0]; rfl
    have h0' := hide h0
    clear h0
    go_wp2_with fail
    (with_reducible refine (HBS.out _ HR3.out).mono ?_)
    rintro e u5 ⟨A5, c5, rfl, ho5, hb5⟩
    go_wp2_with fail
    (with_reducible refine (eqInts_l _ _ _ _ _ _ _ R R (HO3.out.below hb5).reads ho5.reads (by omega) (by omega)).mono ?_)
    rintro e w' ⟨rfl, j6, rfl⟩
    simp only [decide_true]
    go_wp2
    go_ret
    exact ⟨rfl, bl_drewN (bl_call hb5 HB3.out) _⟩
  · have z0 : ((R.length : Int) == 0) = false := beq_eq_false_iff_ne.2 (by omega)
    have z1 : (R.length == 0) = false := beq_eq_false_iff_ne.2 (by omega)
    have HOK : Hid (isOk L = true) := hide (by
      cases q : isOk L
      · rw [HRE.out, fba_no q] at h0; simp at h0
      · rfl)
    go_wp2_with fail
    (with_reducible refine (HBB.out _ HR3.out).mono ?_)
    rintro e u4 ⟨A4, c4, rfl, ho4, hb4⟩
    have HR4 := hide (HR3.out.below hb4)
    have HIL := hide (HO3.out.below hb4).reads
    have HIQ := hide ho4.reads
    have HB4 := hide (bl_call hb4 HB3.out)
    clear hb4 ho4
    have HL := hide (fba_last HOK.out)
    rw [← HRE.out] at HL
    have HAT := hide (fun (j : Nat) (hj : j < R.length) => show ∃ m : Nat, ng R j = (m : Int) ∧ m < L.length ∧ isF (tg L m) = true by
      have e := HRE.out.trans (fba_yes HOK.out)
      rw [e] at hj ⊢
      exact fbTo_at hj)
    have HIN := hide (fun (m : Nat) (h1 : m < L.length) (h2 : mayE L m = true) => show decide ((m : Int) ∈ Q) = true by
      have e := HQE.out.trans (brO_yes HOK.out)
      rw [e]
      exact decide_eq_true (brTo_has h1 h2))
    clear HBI HBS HBB HR HR1 HR2 HR3 HB HB1 HB2 HB3 HO1 HO12 HO3 HRE HQE z0 z1
    go_wp2
    go_loop [6] (fun i => ∃ p : Nat, p ≤ R.length ∧ i = .int .i64 p) (fun i => R.length - (intOf i).toNat)
    case atStart => exact ⟨0, by omega, rfl⟩
    case round =>
      obtain ⟨p, hp, rfl⟩ := hrel
      by_cases hlt : p < R.length
      · obtain ⟨m, hm1, hm2, hm3⟩ := HAT.out p hlt
        obtain ⟨hm4, hm5⟩ := isF_brk hm3
        have II := fun (u : World) (h : IL u A4 Q.length Q) => isIn_l u A4 Q.length c4 Q (m : Int) h (by omega)
        rw [HIN.out m hm2 hm4] at II
        have HII := hide II
        obtain ⟨b, o, rfl, hb0, _, _, _, _, k4, _⟩ := HR4.out.at6 hm2
        obtain ⟨b1, o1, rfl, _, q0⟩ := HIL.out.at_ hlt
        rw [hm1] at q0
        rw [hm5] at k4
        have i1 : (p : Int) < (R.length : Int) := by omega
        have i2 : (m : Int) < (L.length : Int) := by omega
        have i3 : (0 : Int) ≤ (m : Int) := by omega
        clear hm1 hm3 hm4 hm5 II
        go_wp2_with fail
        (with_reducible refine (HII.out _ HIQ.out).mono ?_)
        rintro e w' ⟨rfl, rfl⟩
        go_wp2
        go_round
        case rel => exact ⟨p + 1, by omega, by go_num⟩
        case measure => simp [intOf]; omega
      · have HLA := hide (fun (u : World) (h : IL u A1 R.length R) => last_l u A1 R.length c1 R h (by omega))
        have E := hide (show (if R = [] then (-1 : Int) else ng R (R.length - 1)) = (L.length : Int) - 1 by rw [if_neg HL.out.1]; exact HL.out.2)
        rw [E.out] at HLA
        go_wp2_with fail
        (with_reducible refine (HLA.out _ HIL.out).mono ?_)
        rintro e w' ⟨rfl, rfl⟩
        go_wp2
        go_ret
        exact ⟨by simp, HB4.out⟩
set_option maxRecDepth 100000 in
theorem lifted_FnForcedBreaks (os : Os) (started : os.Started) (H : Type) (enc : TypeId × Value → H) :
    ReturnsInHanded {} Try.checked os 10 .any (Rows.fnForcedBreaksSpec.pre6 enc Try.prog Try.f10 Rows.fnForcedBreaksRow.domain false) (Rows.fnForcedBreaksSpec.post enc Try.prog Try.f10 false true false false) := by
  refine returnsInHanded_of_change (C := Try.checked) own_knob started (by kernel_rfl) Try.func10
    (ChangeSpec.witness6 (enc := enc) (C := Try.checked) false ⟨#[], #[.slice none 0 0], []⟩ 8 (by kernel_rfl) (by kernel_rfl) (by kernel_rfl) (by kernel_rfl)) ?_
  intro W base args ds gs before hval0 hW hcnd _
  have hval : ∀ (j : Nat) t v, Try.f10.params[j]? = some t → args[j]? = some v → Value.okWide Try.prog W .any base t v := hval0
  have hW' := hW
  obtain ⟨p, q, hA0, hV, rfl, hfz, hnd⟩ := hW
  have hA : DataW.TrodAll enc Try.prog W 0 (fun _ => true) true Try.f10.params.toList args.toList ds p := hA0
  rw [Try.params10] at hA hval
  obtain ⟨v0, vs0, d0, ds0, p0, q0, hargs, rfl, rfl, zh0, r0⟩ := trodAll_cons hA
  obtain ⟨rfl, rfl, rfl⟩ := trodAll_nil r0
  obtain rfl : args = #[v0] := by cases args; simp_all
  obtain ⟨rfl, rfl⟩ := trodVars_none hV
  have zk0 := zh0
  have zl0 : ∀ x ∈ p0, x.block < W.heap.size := by obtain ⟨m, hm⟩ := zk0; exact DataW.trod_lt m _ _ _ hm
  clear hA0 hval0
  obtain ⟨a_code, n_code, c_code, rfl⟩ := okWide_slice Try.underlying47 (hval 0 47 v0 rfl rfl)
  obtain ⟨code, w_code⟩ := isRow_of Try.underlying47 Try.underlying5 (by kernel_rfl) zh0
  refine (walk_FnForcedBreaks a_code n_code c_code code W w_code).mono fun e W' ⟨he, bel⟩ => ?_
  subst he
  exact ⟨_, rfl, _, _, _, [], _, [], hW', trodAll_mk1 (shut_bool Try.underlying4 _), (trodAll_cons_mk (Below.trod laid_out (by kernel_rfl) (of_decide_eq_true (by kernel_rfl)) zk0 bel zl0) trodAll_mk0), rfl, bel.frame _, fun h => by cases h⟩

/-- The statement. -/
theorem FnForcedBreaks_holds : Rows.FnForcedBreaksSaid :=
  OpenClaim.holds_of_wide 10 Try.f10 rfl rfl rfl rfl rfl rfl rfl ⟨rfl, rfl, rfl, rfl, rfl⟩ rfl rfl rfl rfl rfl (by kernel_rfl) Try.func10 (by unfold joinedFacts; rw [may_enter, lifts_final, make_cut]; kernel_rfl)
    (of_decide_eq_true (by kernel_rfl)) (by unfold Func.isWrapper; first | (rw [if_pos (by decide +kernel)]; kernel_rfl) | (rw [if_neg (by decide +kernel)]; exact ⟨rfl, rfl⟩))
    (fun os started H enc _ => lifted_FnForcedBreaks os started H enc)
end Go.Proofs.Ytmolkppdfbldnaa
