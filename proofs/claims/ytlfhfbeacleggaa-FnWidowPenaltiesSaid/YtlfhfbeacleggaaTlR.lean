/- The law on the penalties of pages holds for every code: they are those of widows. No condition. -/
import Derived.Test.YtlfhfbeacleggaaJn
import Derived.Test.YtlfhfbeacleggaaTlS
import Derived.Test.YtlfhfbeacleggaaTlP
import Derived.Test.YtlfhfbeacleggaaCwS
namespace Go.Proofs.Ytlfhfbeacleggaa
open Go.ChangeShapes Go.WideShapes Go.ChangeAt Go.RowKit
set_option linter.unusedVariables false
set_option linter.unusedSimpArgs false
set_option maxRecDepth 4000
open Classical

theorem tw_cw {l E : List Int} (ok : PosTo l l.length) : tw (fun j => hasI E ((j : Int) + 1)) (pnT l l.length) (fiL l l.length) = 100 * (cwN l (clF E) (svL l l.length).length : Int) + 150 * (cwN l (wiF E) (svL l l.length).length : Int) := by
  rw [tw_all ok _ (Nat.le_refl _)]
  unfold cwN
  rw [List.take_of_length_le (Nat.le_refl _)]
  have key : ∀ {i : Nat}, i ≤ l.length → ∀ x ∈ svL l i, 0 ≤ x.1 ∧ 1 ≤ x.2 := by
    intro i
    induction i with
    | zero => intro _ x hx; simp [svL] at hx
    | succ i ih =>
      intro hi x hx
      simp only [svL] at hx
      rcases List.mem_append.1 hx with h | h
      · exact ih (by omega) x h
      · split at h
        · next q =>
          simp at h
          subst h
          have a := (show PosTo l i from fun j hj => ok j (by omega)).ge
          dsimp only
          omega
        · simp at h
  have e1 : (svL l l.length).countP (fun x => hasI E (((x.1.toNat : Nat) : Int) + 1)) = (svL l l.length).countP (clF E) := List.countP_congr (fun x hx => by
    have := (key (Nat.le_refl _) x hx).1
    unfold clF
    rw [show ((x.1.toNat : Nat) : Int) = x.1 by omega])
  have e2 : (svL l l.length).countP (fun x => hasI E (((x.2.toNat - 1 : Nat) : Int) + 1)) = (svL l l.length).countP (wiF E) := List.countP_congr (fun x hx => by
    have := (key (Nat.le_refl _) x hx).2
    unfold wiF
    rw [show ((x.2.toNat - 1 : Nat) : Int) + 1 = x.2 by omega])
  rw [e1, e2]
theorem mem_hasI {l : List Int} {x : Int} : decide (x ∈ l) = hasI l x := by
  unfold hasI memI
  congr 1
  refine propext ⟨fun h => ?_, fun ⟨j, h1, h2⟩ => by rw [← h2]; exact ng_mem h1⟩
  obtain ⟨j, hj, e⟩ := List.getElem_of_mem h
  exact ⟨j, hj, by rw [ng_lt hj]; exact e⟩
set_option maxHeartbeats 4000000 in
theorem walk_FnWidowPenalties (a : Option Addr) (n c : Nat) (zs : List Int) (w : World) (hr : IsRow .u8 w a n c zs) :
    Calls Try.prog 8 #[.slice a n c] w fun e w' => e = .returned (.bool true) ∧ Below w.heap.size w w' := by
  have hm := small_row hr
  unfold maxLen at hm
  rcases (by omega : 1048576 < n ∨ n ≤ 1048576) with hn | hn
  · go_enter Try.func8, Try.ntmps8
    go_wp2
    go_ret
    exact ⟨rfl, bl_refl _⟩
  go_enter Try.func8, Try.ntmps8
  go_wp2_with fail
  (with_reducible refine (DrawCountWidows_any _ _ _ _ _ hr).mono ?_)
  rintro e u0 ⟨A, c', l, B, d, E, rfl, hol, hll, hoE, hlE, hb⟩
  clear hr
  have CI := fun (u : World) (h1 : IL u A l.length l) (h2 : IL u B E.length E) => CountWidows_i u A B l.length c' E.length d l E h1 (by omega) h2 (by omega)
  have CS := fun (u : World) (h1 : IL u A l.length l) (h2 : IL u B E.length E) => CountWidows_s u A B l.length c' E.length d l E h1 (by omega) h2 (by omega)
  have TI := hide (fun (u : World) (h1 : IL u A l.length l) => TextLines_i u A l.length c' l 1 h1 (by omega))
  have IS := hide (fun (u : World) (h2 : IL u B E.length E) (x : Int) => isIn_l u B E.length d E x h2 (by omega))
  have NO := fun (h : okW l = false) => cwV_no (l := l) (E := E) h
  have YES := fun (h : okW l = true) => cwV_yes (l := l) (E := E) h
  obtain ⟨t, ht⟩ : ∃ t, t = cwV l E := ⟨_, rfl⟩
  rw [← ht] at CI CS NO YES
  obtain ⟨t1, t2⟩ := t
  have HO := hide hol
  have HE := hide hoE
  have HB := hide hb
  have HCI := hide CI
  have HCS := hide CS
  have HNO := hide NO
  have HYES := hide YES
  clear hol hoE hb ht CI CS NO YES
  go_wp2_with fail
  (with_reducible refine (HCI.out _ HO.out.reads HE.out.reads).mono ?_)
  rintro e u1 ⟨rfl, hb1⟩
  have HO1 := hide (HO.out.below hb1)
  have HE1 := hide (HE.out.below hb1)
  have HB1 := hide (bl_call hb1 HB.out)
  clear hb1 HO HB HE HCI
  go_wp2_with fail
  (with_reducible refine (HCS.out _ HO1.out.reads HE1.out.reads).mono ?_)
  rintro e w' ⟨rfl, rfl⟩
  clear HCS
  obtain ⟨L, hL⟩ : ∃ L, L = tlO l 1 := ⟨_, rfl⟩
  rw [← hL] at TI
  have HL := hide hL
  clear hL
  go_wp2_with fail
  (with_reducible refine (TI.out _ HO1.out.reads).mono ?_)
  rintro e wl ⟨A2, c2, rfl, ho2, hb2⟩
  have T1 := hide ho2.reads
  have HE2 := hide (HE1.out.below hb2).reads
  have HB2 := hide (bl_call hb2 HB1.out)
  clear ho2 hb2 TI HO1 HE1
  cases q : okW l
  · obtain ⟨rfl, rfl⟩ := Prod.mk.inj (HNO.out q)
    clear HNO HYES
    go_wp2
    go_ret
    exact ⟨rfl, HB2.out⟩
  · have ok := okW_iff.1 q
    have hN40 := fiL_le ok (Nat.le_refl _)
    have hN1 := Nat.le_trans ok.2.2 (len_fiL ok.1)
    have TWC := hide (tw_cw (E := E) ok.1)
    have TG := hide (fun (j : Nat) (hj : j < fiL l l.length) => tlL_at (l := l) (h := 1) hj)
    have TB := hide (fun (k : Nat) => tw_bd (g := fun j => hasI E ((j : Int) + 1)) (pnT_250 ok.1 (Nat.le_refl _)) k)
    have TWS := hide (fun (k : Nat) => show tw (fun j => hasI E ((j : Int) + 1)) (pnT l l.length) (k + 1) = tw (fun j => hasI E ((j : Int) + 1)) (pnT l l.length) k + if hasI E ((k : Int) + 1) = true then pnT l l.length k else 0 from rfl)
    have P250 := hide (pnT_250 ok.1 (Nat.le_refl _))
    obtain ⟨x1, x2⟩ := Prod.mk.inj (HYES.out q)
    have hc1 := cwN_le (l := l) (f := clF E) (k := (svL l l.length).length)
    have hc2 := cwN_le (l := l) (f := wiF E) (k := (svL l l.length).length)
    have hc3 := svL_le (l := l) (k := l.length)
    rw [← x1, ← x2] at TWC
    have b1 : 0 ≤ t1 ∧ t1 ≤ 10 := by omega
    have b2 : 0 ≤ t2 ∧ t2 ≤ 10 := by omega
    have L0 : L = tlL l 1 (fiL l l.length) := by rw [HL.out]; exact tlO_yes (by rw [q]; rfl)
    obtain ⟨N, hN⟩ : ∃ N, N = fiL l l.length := ⟨_, rfl⟩
    rw [← hN] at hN40 hN1 TWC TG L0
    have hLl : L.length = N := by rw [L0, tlL_len]
    rw [← L0] at TG
    obtain ⟨p, hp⟩ : ∃ p, p = pnT l l.length := ⟨_, rfl⟩
    rw [← hp] at TWC TG TB TWS P250
    clear hp L0 HNO HYES hN ok q HL x1 x2 hc1 hc2 hc3
    subst hLl
    have d1 : decide (t1 < 0) = false := decide_eq_false (by omega)
    have d2 : ((L.length : Int) == 0) = false := beq_eq_false_iff_ne.2 (by omega)
    go_wp2
    go_loop [10, 11] (fun v i => ∃ (k : Nat) (t : Int), k ≤ L.length ∧ i = .int .i64 ((k : Int) + 1) ∧ t = tw (fun j => hasI E ((j : Int) + 1)) p k ∧ v = .int .i64 t) (fun _ i => L.length + 1 - (intOf i).toNat)
    case atStart => exact ⟨0, 0, by omega, rfl, rfl, rfl⟩
    case round =>
      obtain ⟨k, t, hk, rfl, ht, rfl⟩ := hrel
      have tb := TB.out k
      rw [← ht] at tb
      have HT := hide ht
      clear ht
      by_cases hlt : k < L.length
      · obtain ⟨b, o, rfl, _, c0, c1', c2'⟩ := T1.out.at3 hlt
        have yb := P250.out k
        have T3 := TWS.out k
        rw [← HT.out] at T3
        rw [TG.out k hlt] at c0 c1' c2'
        obtain ⟨y, hy⟩ : ∃ y, y = p k := ⟨_, rfl⟩
        rw [← hy] at c2' yb T3
        clear hy
        simp only at c0 c1' c2'
        have ISK := IS.out _ HE2.out ((k : Int) + 1)
        rw [mem_hasI] at ISK
        have dl : decide ((k : Int) + 1 ≤ (L.length : Int)) = true := decide_eq_true (by omega)
        have dl' : (k : Int) + 1 ≤ (L.length : Int) := by omega
        have dk : (k : Int) + 1 - 1 = (k : Int) := by omega
        cases qh : hasI E ((k : Int) + 1)
        · rw [qh] at ISK T3
          have T4 := hide (show t = tw (fun j => hasI E ((j : Int) + 1)) p (k + 1) by rw [T3]; simp)
          have IK := hide ISK
          clear T3 ISK qh
          go_wp2_with fail
          (with_reducible refine IK.out.mono ?_)
          rintro e u4 ⟨rfl, rfl⟩
          go_wp2
          go_round
          case rel => exact ⟨k + 1, t, by omega, by go_num, T4.out, rfl⟩
          case measure => simp [intOf]; omega
        · rw [qh] at ISK T3
          have T4 := hide (show t + y = tw (fun j => hasI E ((j : Int) + 1)) p (k + 1) by rw [T3]; simp)
          have IK := hide ISK
          clear T3 ISK qh
          go_wp2_with fail
          (with_reducible refine IK.out.mono ?_)
          rintro e u4 ⟨rfl, rfl⟩
          go_wp2
          go_round
          case rel => exact ⟨k + 1, t + y, by omega, by go_num, T4.out, rfl⟩
          case measure => simp [intOf]; omega
      · have hkL : k = L.length := by omega
        have T4 := hide (show t = 100 * t1 + 150 * t2 by rw [HT.out, hkL]; exact TWC.out)
        have e1 : (t == t1 * 100 + t2 * 150) = true := beq_iff_eq.2 (by rw [T4.out]; omega)
        have dl : decide ((k : Int) + 1 ≤ (L.length : Int)) = false := decide_eq_false (by omega)
        have dl' : ¬ (k : Int) + 1 ≤ (L.length : Int) := by omega
        clear HT hkL T4
        go_wp2
        go_ret
        exact ⟨rfl, HB2.out⟩
set_option maxRecDepth 100000 in
theorem lifted_FnWidowPenalties (os : Os) (started : os.Started) (H : Type) (enc : TypeId × Value → H) :
    ReturnsInHanded {} Try.checked os 8 .any (Rows.fnWidowPenaltiesSpec.pre6 enc Try.prog Try.f8 Rows.fnWidowPenaltiesRow.domain false) (Rows.fnWidowPenaltiesSpec.post enc Try.prog Try.f8 false true false false) := by
  refine returnsInHanded_of_change (C := Try.checked) own_knob started (by kernel_rfl) Try.func8
    (ChangeSpec.witness6 (enc := enc) (C := Try.checked) false ⟨#[], #[.slice none 0 0], []⟩ 8 (by kernel_rfl) (by kernel_rfl) (by kernel_rfl) (by kernel_rfl)) ?_
  intro W base args ds gs before hval0 hW hcnd _
  have hval : ∀ (j : Nat) t v, Try.f8.params[j]? = some t → args[j]? = some v → Value.okWide Try.prog W .any base t v := hval0
  have hW' := hW
  obtain ⟨p, q, hA0, hV, rfl, hfz, hnd⟩ := hW
  have hA : DataW.TrodAll enc Try.prog W 0 (fun _ => true) true Try.f8.params.toList args.toList ds p := hA0
  rw [Try.params8] at hA hval
  obtain ⟨v0, vs0, d0, ds0, p0, q0, hargs, rfl, rfl, zh0, r0⟩ := trodAll_cons hA
  obtain ⟨rfl, rfl, rfl⟩ := trodAll_nil r0
  obtain rfl : args = #[v0] := by cases args; simp_all
  obtain ⟨rfl, rfl⟩ := trodVars_none hV
  have zk0 := zh0
  have zl0 : ∀ x ∈ p0, x.block < W.heap.size := by obtain ⟨m, hm⟩ := zk0; exact DataW.trod_lt m _ _ _ hm
  clear hA0 hval0
  obtain ⟨a_code, n_code, c_code, rfl⟩ := okWide_slice Try.underlying28 (hval 0 28 v0 rfl rfl)
  obtain ⟨code, w_code⟩ := isRow_of Try.underlying28 Try.underlying5 (by kernel_rfl) zh0
  refine (walk_FnWidowPenalties a_code n_code c_code code W w_code).mono fun e W' ⟨he, bel⟩ => ?_
  subst he
  exact ⟨_, rfl, _, _, _, [], _, [], hW', trodAll_mk1 (shut_bool Try.underlying4 _), (trodAll_cons_mk (Below.trod laid_out (by kernel_rfl) (of_decide_eq_true (by kernel_rfl)) zk0 bel zl0) trodAll_mk0), rfl, bel.frame _, fun h => by cases h⟩

/-- The statement. -/
theorem FnWidowPenalties_holds : Rows.FnWidowPenaltiesSaid :=
  OpenClaim.holds_of_wide 8 Try.f8 rfl rfl rfl rfl rfl rfl rfl ⟨rfl, rfl, rfl, rfl, rfl⟩ rfl rfl rfl rfl rfl (by kernel_rfl) Try.func8 (by unfold joinedFacts; rw [may_enter, lifts_final, make_cut]; kernel_rfl)
    (of_decide_eq_true (by kernel_rfl)) (by unfold Func.isWrapper; first | (rw [if_pos (by decide +kernel)]; kernel_rfl) | (rw [if_neg (by decide +kernel)]; exact ⟨rfl, rfl⟩))
    (fun os started H enc _ => lifted_FnWidowPenalties os started H enc)
end Go.Proofs.Ytlfhfbeacleggaa
