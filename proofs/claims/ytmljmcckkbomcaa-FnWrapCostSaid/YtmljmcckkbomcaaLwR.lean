/- The law FnWrapOne holds at every input: a single line costs nothing. No condition. -/
import Derived.Test.YtmljmcckkbomcaaLwP
import Derived.Test.YtmljmcckkbomcaaSpr
namespace Go.Proofs.Ytmljmcckkbomcaa
open Go.ChangeShapes Go.WideShapes Go.ChangeAt Go.RowKit
set_option linter.unusedVariables false
set_option linter.unusedSimpArgs false
open Classical

theorem gp0 (g k : Nat) : gp 0 g k = 0 := by simp [gp]
theorem fb0_step (l : List ByteArray) (k : Nat) : fb l 0 (k + 1) = fb l 0 k ++ (if k = 0 then [] else [32]) ++ (sg l k).data.toList := by
  simp only [fb, gp0]
  rfl
theorem fb0_len (l : List ByteArray) : ∀ k, (fb l 0 (k + 1)).length = sm l (k + 1) + k
  | 0 => by simp [fb, sm]
  | k + 1 => by
    have := fb0_len l k
    rw [fb0_step, List.length_append, List.length_append, this, if_neg (by omega)]
    simp [sm]; omega
theorem mkb_two (x y : List UInt8) (s : ByteArray) : mkb x ++ (⟨y.toArray⟩ : ByteArray) ++ s = mkb (x ++ y ++ s.data.toList) := by
  apply ByteArray.ext
  apply Array.toList_inj.1
  simp [mkb, ByteArray.data_append]
theorem mkb_one (x : List UInt8) (s : ByteArray) : mkb x ++ s = mkb (x ++ s.data.toList) := by
  apply ByteArray.ext
  apply Array.toList_inj.1
  simp [mkb, ByteArray.data_append]
set_option maxHeartbeats 1000000 in
theorem joinWords_l (w : World) (A : Option Addr) (n c : Nat) (l : List ByteArray) (ha : SL w A n l) (hs : ∀ k, k < l.length → (sg l k).size ≤ 1000) (hl : l.length ≤ 1000) :
    Calls Try.prog 35 #[.slice A n c] w fun e w' => e = .returned (.string (mkb (fb l 0 l.length))) ∧ w = w' := by
  obtain rfl : n = l.length := ha.1
  have HA := hide ha
  have HSm := hide (fun (k : Nat) (hk : k ≤ l.length) => show sm l k ≤ 1000 * k by
    induction k with
    | zero => simp [sm]
    | succ k ih =>
      have a := ih (by omega)
      have b := hs k (by omega)
      simp only [sm]; omega)
  have HS := hide hs
  clear ha hs
  go_enter Try.func35, Try.ntmps35
  go_wp2
  go_loop [3, 4] (fun v i => ∃ p : Nat, p ≤ l.length ∧ i = .int .i64 p ∧ v = .string (mkb (fb l 0 p))) (fun _ i => l.length - (intOf i).toNat)
  case atStart => exact ⟨0, by omega, rfl, rfl⟩
  case round =>
    obtain ⟨p, hp, rfl, rfl⟩ := hrel
    by_cases hlt : p < l.length
    · obtain ⟨b, o, rfl, hb0, c0⟩ := HA.out.at_ hlt
      have hsz := HS.out p hlt
      have ST := fb0_step l p
      have hsp : (mkb (fb l 0 p)).size ≤ 2000000 := by
        rw [mkb_size]
        rcases Nat.eq_zero_or_pos p with h | h
        · rw [h]; simp [fb]
        · obtain ⟨k, rfl⟩ : ∃ k, p = k + 1 := ⟨p - 1, by omega⟩
          have := HSm.out (k + 1) hp
          rw [fb0_len]; omega
      obtain ⟨s, hsd⟩ : ∃ s, s = sg l p := ⟨_, rfl⟩
      rw [← hsd] at c0 hsz ST
      clear hsd
      rcases Nat.eq_zero_or_pos p with h | h
      · rw [if_pos h, List.append_nil] at ST
        have M := hide (show mkb (fb l 0 p) ++ s = mkb (fb l 0 (p + 1)) by rw [ST, mkb_one])
        have g : ¬ (0 : Int) < (p : Int) := by omega
        obtain ⟨y, hy⟩ : ∃ y, y = mkb (fb l 0 p) := ⟨_, rfl⟩
        rw [← hy] at M hsp ⊢
        clear ST hy h
        go_wp2
        go_round
        case rel => exact ⟨p + 1, by omega, by go_num, by rw [M.out]⟩
        case measure => simp [intOf]; omega
      · rw [if_neg (by omega)] at ST
        have M := hide (show mkb (fb l 0 p) ++ (⟨#[32]⟩ : ByteArray) ++ s = mkb (fb l 0 (p + 1)) by rw [ST]; exact mkb_two _ [32] _)
        have g : (0 : Int) < (p : Int) := by omega
        obtain ⟨y, hy⟩ : ∃ y, y = mkb (fb l 0 p) := ⟨_, rfl⟩
        rw [← hy] at M hsp ⊢
        clear ST hy
        go_wp2
        go_round
        case rel => exact ⟨p + 1, by omega, by go_num, by rw [M.out]⟩
        case measure => simp [intOf]; omega
    · have E := hide (show p = l.length by omega)
      obtain ⟨y, hy⟩ : ∃ y, y = mkb (fb l 0 p) := ⟨_, rfl⟩
      rw [← hy]
      have M := hide (show y = mkb (fb l 0 l.length) by rw [hy, E.out])
      clear hy
      go_wp2
      go_ret
      exact ⟨str_ret M.out, rfl⟩
theorem sub_all (l : List ByteArray) : sub l 0 l.length = l := by simp [sub]
/-- All words in one line. -/
theorem one_line {l : List ByteArray} {wd : Int} (h : (wok l && inB wd 20 60) = true) (hn : 0 < l.length) (hf : ((fb l 0 l.length).length : Int) ≤ wd) : lc l wd = 0 ∧ wcO l wd [(l.length : Int)] = (0, true) := by
  obtain ⟨h1, h2, h3⟩ := ww_parts h
  have ok := cWo_ok h1 h2 h3
  have hr : 0 ≤ rs l wd 0 l.length := by
    unfold rs
    rw [sub_all]
    obtain ⟨k, hk⟩ : ∃ k, l.length = k + 1 := ⟨l.length - 1, by omega⟩
    have := fb0_len l k
    rw [hk] at hf ⊢
    omega
  have hc : cW l wd (0 : Nat) l.length = (0, true) := cW_last hn hr rfl
  have hv : cWo l wd 0 l.length = some 0 := by rw [cWo_yes (by rw [hc]), hc]
  have hm := bt_min ok cWo_mo hn (Nat.le_refl _) hv
  rw [bt_end] at hm
  have hp := lc_pos h
  have hv1 : ve [(l.length : Int)] l.length = true := ve_iff.2 ⟨fun j hj => by
    simp at hj
    subst hj
    show (0 : Int) < (l.length : Int)
    omega, rfl⟩
  refine ⟨by have : lc l wd ≤ 0 := (by unfold lc; simpa using hm); omega, ?_⟩
  rw [wcO_yes (by rw [h, hv1]; rfl)]
  have hk : okT 0 [(l.length : Int)] (fun _ f t => cW l wd f t) [(l.length : Int)].length := fun j hj => by
    simp at hj
    subst hj
    show (cW l wd 0 l.length).2 = true
    have : cW l wd 0 l.length = (0, true) := hc
    rw [this]
  rw [toO_yes hk]
  have : cW l wd 0 l.length = (0, true) := hc
  simp [sto, frm, ng, this]
set_option maxRecDepth 8000 in
set_option maxHeartbeats 4000000 in
theorem walk_FnWrapOne (a : Option Addr) (n c : Nat) (zs : List Int) (w : World) (hr : IsRow .u8 w a n c zs) :
    Calls Try.prog 8 #[.slice a n c] w fun e w' => e = .returned (.bool true) ∧ Below w.heap.size w w' := by
  have hm := small_rowl hr
  unfold maxLen at hm
  rcases (by omega : 1048576 < n ∨ n ≤ 1048576) with hn | hn
  · go_enter Try.func8, Try.ntmps8
    go_wp2
    go_ret
    exact ⟨rfl, bl_refl _⟩
  go_enter Try.func8, Try.ntmps8
  go_wp2_with fail
  (with_reducible refine (DrawWrapWords_any _ _ _ _ _ hr).mono ?_)
  rintro e u0 ⟨A, cc, l, wd, rfl, hol, hll, hwq, ⟨wd0, wd1⟩, hb⟩
  clear hr
  have R := hide hol.reads
  have HSZ := hide (fun k (hk : k < l.length) => show (sg l k).size ≤ 1048576 by have := hwq k hk; omega)
  have HSS := hide (fun k (hk : k < l.length) => show (sg l k).size ≤ 1000 by have := hwq k hk; omega)
  have HB := hide hb
  have hcap := hol.cap2
  clear hol hb hwq
  have CI := hide (fun (V : World) (h : SL V A l.length l) => WrapWords_i V A l.length cc l wd h hcap HSZ.out (by omega))
  have CS := hide (fun (V : World) (h : SL V A l.length l) => WrapWords_s V A l.length cc l wd h hcap HSZ.out (by omega))
  have JW := hide (fun (V : World) (h : SL V A l.length l) => joinWords_l V A l.length cc l h HSS.out (by omega))
  have WC := hide (fun (V : World) (B : Option Addr) (d : Nat) (E : List Int) (hE40 : E.length ≤ 40) (h : SL V A l.length l) (hE : IL V B E.length E) => WrapCost_i V A B l.length cc E.length d l wd E h hcap HSZ.out (by omega) hE (by omega))
  have hlen := wwO_len (l := l) (wd := wd)
  have FACT := hide (fun (h : wwO l wd ≠ []) (hf : ((mkb (fb l 0 l.length)).size : Int) ≤ wd) => show wcO l wd (wwO l wd) = (0, true) ∧ wcO l wd [(l.length : Int)] = (0, true) by
    rw [mkb_size] at hf
    cases q : (wok l && inB wd 20 60) with
    | false => exact absurd (wwO_no q) h
    | true =>
      rw [wwO_yes q] at h ⊢
      have hn : 0 < l.length := by
        rcases Nat.eq_zero_or_pos l.length with e | e
        · exact absurd (show wW l wd = [] by unfold wW; rw [wE_end (by omega)]) h
        · exact e
      obtain ⟨a, b⟩ := one_line q hn hf
      exact ⟨by rw [wW_cost q, a], b⟩)
  have WCE := hide (fun (V : World) (B : Option Addr) (d : Nat) (h : SL V A l.length l) (hE : IL V B (wwO l wd).length (wwO l wd)) => WC.out V B d (wwO l wd) hlen h hE)
  unfold RetI at CI CS
  obtain ⟨E, hE⟩ : ∃ E, E = wwO l wd := ⟨_, rfl⟩
  rw [← hE] at CI CS WCE FACT hlen
  clear hE
  have jsz : (mkb (fb l 0 l.length)).size ≤ 100000 ∨ True := .inr trivial
  obtain ⟨J, hJ⟩ : ∃ J, J = mkb (fb l 0 l.length) := ⟨_, rfl⟩
  rw [← hJ] at JW FACT
  clear hJ jsz
  go_wp2_with fail
  (with_reducible refine (CI.out _ R.out).mono ?_)
  rintro e u1 ⟨A1, c1, rfl, ho1, hb1⟩
  have R1 := hide (R.out.below hb1)
  have HB1 := hide (bl_call hb1 HB.out)
  clear hb1
  go_wp2_with fail
  (with_reducible refine (CS.out _ R1.out).mono ?_)
  rintro e u2 ⟨A2, c2, rfl, ho2, hb2⟩
  have ho1 := ho1.below hb2
  have R2 := hide (R1.out.below hb2)
  have HB2 := hide (bl_call hb2 HB1.out)
  clear hb2
  have E1 := hide ho1.reads
  have E2 := hide ho2.reads
  clear ho1 ho2
  rcases (by
    by_cases h : E = []
    · exact .inl h
    · by_cases h2 : (J.size : Int) ≤ wd
      · exact .inr (.inr ⟨h, h2⟩)
      · exact .inr (.inl ⟨h, h2⟩) : E = [] ∨ (E ≠ [] ∧ ¬ (J.size : Int) ≤ wd) ∨ (E ≠ [] ∧ (J.size : Int) ≤ wd)) with hz | ⟨hz, hj⟩ | ⟨hz, hj⟩
  · have q0 : ((E.length : Int) == 0) = true := by rw [hz]; rfl
    clear hz FACT WC WCE JW
    go_wp2_with fail
    (with_reducible refine (eqInts_l _ _ _ _ _ _ _ E E E1.out E2.out (by omega) (by omega)).mono ?_)
    rintro e u3 ⟨rfl, j3, rfl⟩
    simp only [decide_true]
    go_wp2_with fail
    (with_reducible refine (CS.out _ (R2.out.drewN j3)).mono ?_)
    rintro e u4 ⟨A4, c4, rfl, ho4, hb4⟩
    have HB4 := hide (bl_call hb4 (bl_drewN HB2.out j3))
    have E3 := hide ((E1.out.drewN j3).below hb4)
    clear hb4
    go_wp2_with fail
    (with_reducible refine (eqInts_l _ _ _ _ _ _ _ E E E3.out ho4.reads (by omega) (by omega)).mono ?_)
    rintro e u5 ⟨rfl, j5, rfl⟩
    simp only [decide_true]
    go_wp2
    go_ret
    exact ⟨rfl, bl_drewN HB4.out _⟩
  · have hlp : ¬ E.length = 0 := fun h => hz (List.eq_nil_of_length_eq_zero h)
    have hj2 : wd < (J.size : Int) := by omega
    clear hz FACT WC WCE hj
    go_wp2_with fail
    (with_reducible refine (eqInts_l _ _ _ _ _ _ _ E E E1.out E2.out (by omega) (by omega)).mono ?_)
    rintro e u3 ⟨rfl, j3, rfl⟩
    simp only [decide_true]
    go_wp2_with fail
    (with_reducible refine (JW.out _ (R2.out.drewN j3)).mono ?_)
    rintro e u9 ⟨rfl, rfl⟩
    go_wp2_with fail
    (with_reducible refine (CS.out _ (R2.out.drewN j3)).mono ?_)
    rintro e u4 ⟨A4, c4, rfl, ho4, hb4⟩
    have HB4 := hide (bl_call hb4 (bl_drewN HB2.out j3))
    have E3 := hide ((E1.out.drewN j3).below hb4)
    clear hb4
    go_wp2_with fail
    (with_reducible refine (eqInts_l _ _ _ _ _ _ _ E E E3.out ho4.reads (by omega) (by omega)).mono ?_)
    rintro e u5 ⟨rfl, j5, rfl⟩
    simp only [decide_true]
    go_wp2
    go_ret
    exact ⟨rfl, bl_drewN HB4.out _⟩
  · have hlp : ¬ E.length = 0 := fun h => hz (List.eq_nil_of_length_eq_zero h)
    have q0 : ((E.length : Int) == 0) = false := beq_eq_false_iff_ne.2 (by omega)
    have hj3 : ¬ wd < (J.size : Int) := by omega
    obtain ⟨f1, f2⟩ := FACT.out hz hj
    rw [f1] at WCE
    have WC1 := hide (fun (V : World) (B : Option Addr) (d : Nat) (h : SL V A l.length l) (hE : IL V B 1 [(l.length : Int)]) => show Calls Try.prog 20 #[.slice A l.length cc, .int .i64 wd, .slice B 1 d] V (fun e w' => e = .returned (.tuple #[.int .i64 (wcO l wd [(l.length : Int)]).1, .bool (wcO l wd [(l.length : Int)]).2]) ∧ Below V.heap.size V w') from WC.out V B d [(l.length : Int)] (by simp) h hE)
    rw [f2] at WC1
    clear hz FACT WC f1 f2 hlp hj
    go_wp2_with fail
    (with_reducible refine (eqInts_l _ _ _ _ _ _ _ E E E1.out E2.out (by omega) (by omega)).mono ?_)
    rintro e u3 ⟨rfl, j3, rfl⟩
    simp only [decide_true]
    go_wp2_with fail
    (with_reducible refine (JW.out _ (R2.out.drewN j3)).mono ?_)
    rintro e u9 ⟨rfl, rfl⟩
    go_wp2_with fail
    (with_reducible refine (WCE.out _ _ _ (R2.out.drewN j3) (E1.out.drewN j3)).mono ?_)
    rintro e u4 ⟨rfl, hb4⟩
    have HB4 := hide (bl_call hb4 (bl_drewN HB2.out j3))
    have R4 := hide ((R2.out.drewN j3).below hb4)
    clear hb4
    have H1 : Hid (OL (u4.alloc (.cells #[.int .i64 (l.length : Int)] 3)) 3 u4.heap.size (some ⟨u4.heap.size, 0, none⟩) 1 [(l.length : Int)]) := hide (by
      have := OL.lit (w := u4) (e := 3) (B := u4.heap.size) (Nat.le_refl _) [(l.length : Int)] (by simp [maxLen])
      simpa using this)
    go_wp2_with fail
    (with_reducible refine (WC1.out _ _ _ (R4.out.alloc _) H1.out.reads).mono ?_)
    rintro e u5 ⟨rfl, hb5⟩
    have HB5 := hide (bl_call hb5 (bl_alloc HB4.out _))
    clear hb5
    go_wp2
    go_ret
    exact ⟨bool_ret (by simp), HB5.out⟩
set_option maxRecDepth 100000 in
theorem lifted_FnWrapOne (os : Os) (started : os.Started) (H : Type) (enc : TypeId × Value → H) :
    ReturnsInHanded {} Try.checked os 8 .any (Rows.fnWrapOneSpec.pre6 enc Try.prog Try.f8 Rows.fnWrapOneRow.domain false) (Rows.fnWrapOneSpec.post enc Try.prog Try.f8 false true false false) := by
  refine returnsInHanded_of_change (C := Try.checked) own_knob started (by kernel_rfl) Try.func8
    (ChangeSpec.witness6 (enc := enc) (C := Try.checked) false ⟨#[], #[.slice none 0 0], []⟩ 8 (by kernel_rfl) (by kernel_rfl) (by kernel_rfl) (by kernel_rfl)) ?_
  intro W base args ds gs before hval0 hW hcnd _
  have hval : ∀ (j : Nat) t v, Try.f8.params[j]? = some t → args[j]? = some v → Value.okWide Try.prog W .any base t v := hval0
  have hW' := hW
  obtain ⟨p, q, hA0, hV, rfl, hfz, hnd⟩ := hW
  have hA : DataW.TrodAll enc Try.prog W 0 (fun _ => true) true Try.f8.params.toList args.toList ds p := hA0
  rw [Try.params8] at hA hval
  obtain ⟨v0, vs0, d0, ds0, p0, q0, hargs, rfl, rfl, zh0, r0⟩ := trodAll_cons hA
  obtain ⟨rfl, rfl, rfl⟩ := trodAll_nil r0
  obtain rfl : args = #[v0] := by cases args; simp_all
  obtain ⟨rfl, rfl⟩ := trodVars_none hV
  have zk0 := zh0
  have zl0 : ∀ x ∈ p0, x.block < W.heap.size := by obtain ⟨m, hm⟩ := zk0; exact DataW.trod_lt m _ _ _ hm
  clear hA0 hval0
  obtain ⟨a_code, n_code, c_code, rfl⟩ := okWide_slice Try.underlying36 (hval 0 36 v0 rfl rfl)
  obtain ⟨code, w_code⟩ := isRow_of Try.underlying36 Try.underlying5 (by kernel_rfl) zh0
  refine (walk_FnWrapOne a_code n_code c_code code W w_code).mono fun e W' ⟨he, bel⟩ => ?_
  subst he
  exact ⟨_, rfl, _, _, _, [], _, [], hW', trodAll_mk1 (shut_bool Try.underlying4 _), (trodAll_cons_mk (Below.trod laid_out (by kernel_rfl) (of_decide_eq_true (by kernel_rfl)) zk0 bel zl0) trodAll_mk0), rfl, bel.frame _, fun h => by cases h⟩

/-- The statement. -/
theorem FnWrapOne_holds : Rows.FnWrapOneSaid :=
  OpenClaim.holds_of_wide 8 Try.f8 rfl rfl rfl rfl rfl rfl rfl ⟨rfl, rfl, rfl, rfl, rfl⟩ rfl rfl rfl rfl rfl (by kernel_rfl) Try.func8 (by kernel_rfl)
    (of_decide_eq_true (by kernel_rfl)) (by unfold Func.isWrapper; first | (rw [if_pos (by decide +kernel)]; kernel_rfl) | (rw [if_neg (by decide +kernel)]; exact ⟨rfl, rfl⟩))
    (fun os started H enc _ => lifted_FnWrapOne os started H enc)
end Go.Proofs.Ytmljmcckkbomcaa
