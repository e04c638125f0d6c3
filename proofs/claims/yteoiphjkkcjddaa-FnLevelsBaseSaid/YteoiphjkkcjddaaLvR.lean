/- The promises on shown texts, and on texts of one direction, hold for every code. No condition. -/
import Derived.Test.YteoiphjkkcjddaaDrawT
import Derived.Test.YteoiphjkkcjddaaLvT
import Derived.Test.YteoiphjkkcjddaaLvP
namespace Go.Proofs.Yteoiphjkkcjddaa
open Go.ChangeShapes Go.WideShapes Go.ChangeAt Go.RowKit
set_option linter.unusedVariables false

theorem cat_list (a b : ByteArray) : (a ++ b).data.toList = a.data.toList ++ b.data.toList := by simp
theorem upto_map {S : List UInt8} : (upto 0 S.length).map (fun i => bg S i.toNat) = S := by
  apply List.ext_getElem
  · simp [upto]
  · intro i h1 h2
    simp [upto]
    rw [bg_lt h2]
theorem shO_plain {S : List UInt8} (h : okT S = true) (hc : ∀ c ∈ S, cls c ≠ 2) : shO S 0 = S := by
  have e : lvO S 0 = List.replicate S.length 0 := by
    rw [lvO_yes h (by decide), lvL]
    have := lvs_plain S 0 hc
    simpa using this
  have hok : okL (lvO S 0) = true := by rw [lvO_yes h (by decide)]; exact lvO_okL h (by omega)
  rw [shO, ordO_yes hok, e, ordL_zero (fun j hj => by rw [ng_rep (by simpa using hj)]), List.length_replicate]
  exact upto_map
theorem shO_caps {S : List UInt8} (h : okT S = true) (hc : ∀ c ∈ S, cls c = 2) : lvO S 1 = List.replicate S.length 1 ∧ shO S 1 = S.reverse := by
  have e : lvO S 1 = List.replicate S.length 1 := by
    rw [lvO_yes h (by decide), lvL]
    exact lvs_caps S 1 _ hc
  have hok : okL (lvO S 1) = true := by rw [lvO_yes h (by decide)]; exact lvO_okL h (by omega)
  refine ⟨e, ?_⟩
  rw [shO, ordO_yes hok, e, ordL_one (fun j hj => by rw [ng_rep (by simpa using hj)]), List.length_replicate, List.map_reverse, upto_map]
theorem okT_caps {S : List UInt8} (hl : S.length ≤ 60) (hc : ∀ c ∈ S, cls c = 2) : okT S = true := okT_iff.2 ⟨hl, fun j hj => by
  have := hc _ (bg_mem hj)
  rcases cls_or (bg S j) with ⟨k, _⟩ | ⟨k, k1, k2⟩ | ⟨k, _⟩ | ⟨k, _⟩ <;> omega⟩
/-- A text that is shown: its characters in their order. -/
theorem sh_cases {s : ByteArray} {b : Int} (h : shO s.data.toList b ≠ []) : okT s.data.toList = true ∧ (ordO (lvO s.data.toList b)).length = s.size ∧ (shO s.data.toList b).length = s.size ∧ ∀ p, p < s.size → ∃ k, ∃ _ : k < s.size, ng (ordO (lvO s.data.toList b)) p = (k : Int) ∧ bg (shO s.data.toList b) p = s[k] := by
  have hq : okT s.data.toList = true ∧ okB b = true := by
    apply Decidable.byContradiction
    intro hq
    exact h (by rw [shO, show lvO s.data.toList b = [] by unfold lvO; rw [if_neg hq], ordO_nil]; rfl)
  have hb : 0 ≤ b ∧ b ≤ 1 := by simpa [okB] using hq.2
  have e := lvO_yes hq.1 hq.2
  have hok : okL (lvO s.data.toList b) = true := by rw [e]; exact lvO_okL hq.1 hb
  have hl : (ordO (lvO s.data.toList b)).length = s.size := by rw [ordO_yes hok, ordL_len, e, lvL_len, txt_len]
  refine ⟨hq.1, hl, by rw [shO_len, hl], fun p hp => ?_⟩
  obtain ⟨h0, h1⟩ := shO_in (s := s.data.toList) (b := b) (p := p) (by rw [hl]; exact hp)
  rw [txt_len] at h1
  refine ⟨(ng (ordO (lvO s.data.toList b)) p).toNat, by omega, by omega, ?_⟩
  rw [bg_lt (by rw [shO_len, hl]; exact hp)]
  simp only [shO, List.getElem_map]
  rw [← ng_lt (by rw [hl]; exact hp), bg_at (by omega)]
theorem mk_size (l : List UInt8) : (ByteArray.mk l.toArray).size = l.length := by simp [ByteArray.size]
theorem mk_get {l : List UInt8} {t : ByteArray} (ht : t = ⟨l.toArray⟩) {p : Nat} (h : p < t.size) : t[p] = bg l p := by
  subst ht
  rw [bg_lt (by rw [mk_size] at h; exact h)]; rfl
theorem mk_same {s : ByteArray} {l : List UInt8} (h : s.data.toList = l) : (⟨l.toArray⟩ : ByteArray) = s := by
  apply ByteArray.ext
  rw [← h]
theorem teq_empty {t : ByteArray} (h : 0 < t.size) : t.toList.isEmpty = false := by
  rw [Lib.toList_data]
  cases hl : t.data.toList with
  | nil => have h2 := Lib.size_eq t; rw [hl] at h2; rw [h2] at h; cases h
  | cons a l => rfl

set_option maxHeartbeats 2000000 in
theorem walk_FnShowText (a : Option Addr) (n c : Nat) (zs : List Int) (w : World) (hr : IsRow .u8 w a n c zs) :
    Calls Try.prog 14 #[.slice a n c] w fun e w' => e = .returned (.bool true) ∧ Below w.heap.size w w' := by
  have hm := small_row hr
  unfold maxLen at hm
  rcases (by omega : 1048576 < n ∨ n ≤ 1048576) with hn | hn
  · go_enter Try.func14, Try.ntmps14
    go_wp2
    go_ret
    exact ⟨rfl, bl_refl _⟩
  · go_enter Try.func14, Try.ntmps14
    go_wp2_with fail
    refine (DrawShowText_any _ _ _ _ _ hr).mono ?_
    rintro e u0 ⟨s, z, hs, ⟨z0, z1⟩, rfl, hb⟩
    clear hr
    have hcs := sh_cases (s := s) (b := z)
    have CS := fun (u : World) => ShowText_s s z u (by omega)
    have CI := fun (u : World) => ShowText_i s z u (by omega)
    have CL := fun (u : World) => LevelsOf_i s z u (by omega)
    have hl6 := lvO_len s.data.toList z
    obtain ⟨L, hL⟩ : ∃ L, L = lvO s.data.toList z := ⟨_, rfl⟩
    obtain ⟨Y, hY⟩ : ∃ Y, Y = shO s.data.toList z := ⟨_, rfl⟩
    have CO := fun (u : World) (A : Option Addr) (c : Nat) (h : IL u A L.length L) => OrderOf_i u A L.length c L h (by rw [hL]; omega)
    obtain ⟨O, hO⟩ : ∃ O, O = ordO L := ⟨_, rfl⟩
    simp only [← hL, ← hY] at CS CI CL hcs hl6
    simp only [← hO] at CO hcs
    obtain ⟨t, ht⟩ : ∃ t : ByteArray, t = ⟨Y.toArray⟩ := ⟨_, rfl⟩
    simp only [← ht] at CS CI
    have hts : t.size = Y.length := by rw [ht, mk_size]
    have ty := teq_yes t
    have HCS := hide CS
    have HCI := hide CI
    have HCL := hide CL
    have HCO := hide CO
    have HC := hide hcs
    have HT := hide ht
    have HTS := hide hts
    clear CS CI CL CO hL hY hO ht hts hcs
    go_wp2_with fail
    (with_reducible refine (HCI.out _).mono ?_)
    rintro e u1 ⟨rfl, hb1⟩
    go_wp2_with fail
    (with_reducible refine (HCS.out _).mono ?_)
    rintro e u2 ⟨rfl, hb2⟩
    have HB := hide (bl_call hb2 (bl_call hb1 hb))
    rcases Nat.eq_zero_or_pos Y.length with h0 | h0
    · have et : t = ⟨#[]⟩ := by
        have h1 := List.eq_nil_of_length_eq_zero h0
        have h2 := HT.out
        rw [h1] at h2; exact h2
      subst et
      clear h0
      go_wp2_with fail
      (with_reducible refine (HCS.out _).mono ?_)
      rintro e u3 ⟨rfl, hb3⟩
      go_wp2
      go_ret
      exact ⟨rfl, bl_call hb3 HB.out⟩
    · have te := teq_empty (t := t) (by rw [HTS.out]; exact h0)
      obtain ⟨_, hO, hYl, hp⟩ := HC.out (by intro h; rw [h] at h0; simp at h0)
      have d1 : ((O.length : Int) != (s.size : Int)) = false := by simp; omega
      have d2 : ((t.size : Int) != (s.size : Int)) = false := by simp; have := HTS.out; omega
      have hO6 : O.length ≤ 20 := by omega
      have HOL := hide hO
      have HYL := hide hYl
      have HP := hide hp
      clear h0 hO hYl hp
      go_wp2_with fail
      (with_reducible refine (HCL.out _).mono ?_)
      rintro e u3 ⟨A3, c3, rfl, ho3, hb3⟩
      go_wp2_with fail
      (with_reducible refine (HCO.out _ _ _ ho3.reads).mono ?_)
      rintro e u4 ⟨A4, c4, rfl, ho4, hb4⟩
      have hr4 := ho4.reads
      have HB4 := hide (bl_call hb4 (bl_call hb3 HB.out))
      clear ho3 ho4
      go_wp2
      go_loopw [7] (fun i u => ∃ p k : Nat, p ≤ O.length ∧ i = .int .i64 p ∧ u = u4.drewN k) (fun i _ => O.length - (intOf i).toNat)
      case atStart => exact ⟨0, 0, by omega, rfl, rfl⟩
      case round =>
        obtain ⟨p, kk, hp, rfl, rfl⟩ := hrel
        by_cases hlt : p < O.length
        · obtain ⟨b, o, rfl, hbv, hc⟩ := hr4.at_ hlt
          obtain ⟨k, hk, e1, e2⟩ := HP.out p (by rw [← HOL.out]; exact hlt)
          rw [e1] at hc
          have hpt : p < t.size := by rw [HTS.out, HYL.out, ← HOL.out]; exact hlt
          have q : ((t[p].toNat : Int) != (s[k].toNat : Int)) = false := by rw [mk_get HT.out hpt, e2]; simp
          have hpO := hlt
          clear e1 e2
          go_wp2
          go_quiet (fail)
          go_wp2
          go_roundw
          case rel => exact ⟨p + 1, _, by omega, by go_num, rfl⟩
          case measure => simp [intOf]; omega
        · go_wp2
          go_ret
          exact ⟨rfl, bl_drewN HB4.out _⟩
set_option maxRecDepth 100000 in
theorem lifted_FnShowText (os : Os) (started : os.Started) (H : Type) (enc : TypeId × Value → H) :
    ReturnsInHanded {} Try.checked os 14 .any (Rows.fnShowTextSpec.pre6 enc Try.prog Try.f14 Rows.fnShowTextRow.domain false) (Rows.fnShowTextSpec.post enc Try.prog Try.f14 false true false false) := by
  refine returnsInHanded_of_change (C := Try.checked) own_knob started (by kernel_rfl) Try.func14
    (ChangeSpec.witness6 (enc := enc) (C := Try.checked) false ⟨#[], #[.slice none 0 0], []⟩ 8 (by kernel_rfl) (by kernel_rfl) (by kernel_rfl) (by kernel_rfl)) ?_
  intro W base args ds gs before hval0 hW hcnd _
  have hval : ∀ (j : Nat) t v, Try.f14.params[j]? = some t → args[j]? = some v → Value.okWide Try.prog W .any base t v := hval0
  have hW' := hW
  obtain ⟨p, q, hA0, hV, rfl, hfz, hnd⟩ := hW
  have hA : DataW.TrodAll enc Try.prog W 0 (fun _ => true) true Try.f14.params.toList args.toList ds p := hA0
  rw [Try.params14] at hA hval
  obtain ⟨v0, vs0, d0, ds0, p0, q0, hargs, rfl, rfl, zh0, r0⟩ := trodAll_cons hA
  obtain ⟨rfl, rfl, rfl⟩ := trodAll_nil r0
  obtain rfl : args = #[v0] := by cases args; simp_all
  obtain ⟨rfl, rfl⟩ := trodVars_none hV
  have zk0 := zh0
  have zl0 : ∀ x ∈ p0, x.block < W.heap.size := by obtain ⟨m, hm⟩ := zk0; exact DataW.trod_lt m _ _ _ hm
  clear hA0 hval0
  obtain ⟨a_code, n_code, c_code, rfl⟩ := okWide_slice Try.underlying30 (hval 0 30 v0 rfl rfl)
  obtain ⟨code, w_code⟩ := isRow_of Try.underlying30 Try.underlying5 (by kernel_rfl) zh0
  refine (walk_FnShowText a_code n_code c_code code W w_code).mono fun e W' ⟨he, bel⟩ => ?_
  subst he
  exact ⟨_, rfl, _, _, _, [], _, [], hW', trodAll_mk1 (shut_bool Try.underlying4 _), (trodAll_cons_mk (Below.trod laid_out (by kernel_rfl) (of_decide_eq_true (by kernel_rfl)) zk0 bel zl0) trodAll_mk0), rfl, bel.frame _, fun h => by cases h⟩

/-- The statement. -/
theorem FnShowText_holds : Rows.FnShowTextSaid :=
  OpenClaim.holds_of_wide 14 Try.f14 rfl rfl rfl rfl rfl rfl rfl ⟨rfl, rfl, rfl, rfl, rfl⟩ rfl rfl rfl rfl rfl (by kernel_rfl) Try.func14 (by kernel_rfl)
    (of_decide_eq_true (by kernel_rfl)) (by unfold Func.isWrapper; first | (rw [if_pos (by decide +kernel)]; kernel_rfl) | (rw [if_neg (by decide +kernel)]; exact ⟨rfl, rfl⟩))
    (fun os started H enc _ => lifted_FnShowText os started H enc)

set_option maxHeartbeats 2000000 in
theorem walk_FnShowPlain (a : Option Addr) (n c : Nat) (zs : List Int) (w : World) (hr : IsRow .u8 w a n c zs) :
    Calls Try.prog 15 #[.slice a n c] w fun e w' => e = .returned (.bool true) ∧ Below w.heap.size w w' := by
  have hm := small_row hr
  unfold maxLen at hm
  rcases (by omega : 1048576 < n ∨ n ≤ 1048576) with hn | hn
  · go_enter Try.func15, Try.ntmps15
    go_wp2
    go_ret
    exact ⟨rfl, bl_refl _⟩
  · go_enter Try.func15, Try.ntmps15
    go_wp2_with fail
    refine (DrawShowText_any _ _ _ _ _ hr).mono ?_
    rintro e u0 ⟨s, z, hs, ⟨z0, z1⟩, rfl, hb⟩
    clear hr
    have hcs := sh_cases (s := s) (b := z)
    have CS := fun (u : World) => ShowText_s s z u (by omega)
    have CI := fun (u : World) => ShowText_i s z u (by omega)
    have CP := fun (u : World) => ShowText_i s 0 u (by omega)
    obtain ⟨Y, hY⟩ : ∃ Y, Y = shO s.data.toList z := ⟨_, rfl⟩
    simp only [← hY] at CS CI hcs
    obtain ⟨t, ht⟩ : ∃ t : ByteArray, t = ⟨Y.toArray⟩ := ⟨_, rfl⟩
    simp only [← ht] at CS CI
    have hts : t.size = Y.length := by rw [ht, mk_size]
    have ty := teq_yes t
    have tz := teq_yes s
    have HCS := hide CS
    have HCI := hide CI
    have HCP := hide CP
    have HC := hide hcs
    have HT := hide ht
    have HTS := hide hts
    clear CS CI CP hY ht hts hcs
    go_wp2_with fail
    (with_reducible refine (HCI.out _).mono ?_)
    rintro e u1 ⟨rfl, hb1⟩
    go_wp2_with fail
    (with_reducible refine (HCS.out _).mono ?_)
    rintro e u2 ⟨rfl, hb2⟩
    have HB := hide (bl_call hb2 (bl_call hb1 hb))
    rcases Nat.eq_zero_or_pos Y.length with h0 | h0
    · have et : t = ⟨#[]⟩ := by
        have h1 := List.eq_nil_of_length_eq_zero h0
        have h2 := HT.out
        rw [h1] at h2; exact h2
      subst et
      clear h0
      go_wp2_with fail
      (with_reducible refine (HCS.out _).mono ?_)
      rintro e u3 ⟨rfl, hb3⟩
      go_wp2
      go_ret
      exact ⟨rfl, bl_call hb3 HB.out⟩
    · have te := teq_empty (t := t) (by rw [HTS.out]; exact h0)
      obtain ⟨hok, _, hYl, _⟩ := HC.out (by intro h; rw [h] at h0; simp at h0)
      have d2 : ((t.size : Int) == (s.size : Int)) = true := by simp; have := HTS.out; omega
      have HOK := hide hok
      clear h0 hYl hok
      go_wp2
      go_loop [6] (fun i => ∃ p : Nat, p ≤ s.size ∧ i = .int .i64 p ∧ ∀ c ∈ s.data.toList.take p, cls c ≠ 2) (fun i => s.size - (intOf i).toNat)
      case atStart => exact ⟨0, by omega, rfl, by simp⟩
      case round =>
        obtain ⟨p, hp, rfl, hno⟩ := hrel
        by_cases hlt : p < s.size
        · have hc8 : s[p].toNat < 256 := UInt8.toNat_lt _
          have e : s.data.toList.take (p + 1) = s.data.toList.take p ++ [s[p]] := by
            rw [List.take_add_one, List.getElem?_eq_getElem (by simpa using hlt)]; rfl
          rcases (by omega : s[p].toNat < 65 ∨ 90 < s[p].toNat ∨ (65 ≤ s[p].toNat ∧ s[p].toNat ≤ 90)) with h | h | ⟨h, h'⟩
          · have N := hide (show ∀ c ∈ s.data.toList.take (p + 1), cls c ≠ 2 by
              rw [e]; intro c hc
              rcases List.mem_append.1 hc with hc | hc
              · exact hno c hc
              · simp at hc; subst hc
                intro k; rcases cls_or s[p] with ⟨k', _⟩ | ⟨k', k1, k2⟩ | ⟨k', _⟩ | ⟨k', _⟩ <;> omega)
            clear hno e
            go_wp2
            go_round
            case rel => exact ⟨p + 1, by omega, by go_num, N.out⟩
            case measure => simp [intOf]; omega
          · have N := hide (show ∀ c ∈ s.data.toList.take (p + 1), cls c ≠ 2 by
              rw [e]; intro c hc
              rcases List.mem_append.1 hc with hc | hc
              · exact hno c hc
              · simp at hc; subst hc
                intro k; rcases cls_or s[p] with ⟨k', _⟩ | ⟨k', k1, k2⟩ | ⟨k', _⟩ | ⟨k', _⟩ <;> omega)
            clear hno e
            go_wp2
            go_round
            case rel => exact ⟨p + 1, by omega, by go_num, N.out⟩
            case measure => simp [intOf]; omega
          · clear hno e
            go_wp2
            go_ret
            exact ⟨rfl, HB.out⟩
        · have e : s.data.toList.take p = s.data.toList := List.take_of_length_le (by rw [txt_len]; omega)
          rw [e] at hno
          have RP := fun (u : World) => HCP.out u
          simp only [shO_plain HOK.out hno, mk_same (s := s) rfl] at RP
          have RP := hide RP
          clear hno e
          go_wp2_with fail
          (with_reducible refine (RP.out _).mono ?_)
          rintro e u3 ⟨rfl, hb3⟩
          go_wp2
          go_ret
          exact ⟨rfl, bl_call hb3 HB.out⟩
set_option maxRecDepth 100000 in
theorem lifted_FnShowPlain (os : Os) (started : os.Started) (H : Type) (enc : TypeId × Value → H) :
    ReturnsInHanded {} Try.checked os 15 .any (Rows.fnShowPlainSpec.pre6 enc Try.prog Try.f15 Rows.fnShowPlainRow.domain false) (Rows.fnShowPlainSpec.post enc Try.prog Try.f15 false true false false) := by
  refine returnsInHanded_of_change (C := Try.checked) own_knob started (by kernel_rfl) Try.func15
    (ChangeSpec.witness6 (enc := enc) (C := Try.checked) false ⟨#[], #[.slice none 0 0], []⟩ 8 (by kernel_rfl) (by kernel_rfl) (by kernel_rfl) (by kernel_rfl)) ?_
  intro W base args ds gs before hval0 hW hcnd _
  have hval : ∀ (j : Nat) t v, Try.f15.params[j]? = some t → args[j]? = some v → Value.okWide Try.prog W .any base t v := hval0
  have hW' := hW
  obtain ⟨p, q, hA0, hV, rfl, hfz, hnd⟩ := hW
  have hA : DataW.TrodAll enc Try.prog W 0 (fun _ => true) true Try.f15.params.toList args.toList ds p := hA0
  rw [Try.params15] at hA hval
  obtain ⟨v0, vs0, d0, ds0, p0, q0, hargs, rfl, rfl, zh0, r0⟩ := trodAll_cons hA
  obtain ⟨rfl, rfl, rfl⟩ := trodAll_nil r0
  obtain rfl : args = #[v0] := by cases args; simp_all
  obtain ⟨rfl, rfl⟩ := trodVars_none hV
  have zk0 := zh0
  have zl0 : ∀ x ∈ p0, x.block < W.heap.size := by obtain ⟨m, hm⟩ := zk0; exact DataW.trod_lt m _ _ _ hm
  clear hA0 hval0
  obtain ⟨a_code, n_code, c_code, rfl⟩ := okWide_slice Try.underlying30 (hval 0 30 v0 rfl rfl)
  obtain ⟨code, w_code⟩ := isRow_of Try.underlying30 Try.underlying5 (by kernel_rfl) zh0
  refine (walk_FnShowPlain a_code n_code c_code code W w_code).mono fun e W' ⟨he, bel⟩ => ?_
  subst he
  exact ⟨_, rfl, _, _, _, [], _, [], hW', trodAll_mk1 (shut_bool Try.underlying4 _), (trodAll_cons_mk (Below.trod laid_out (by kernel_rfl) (of_decide_eq_true (by kernel_rfl)) zk0 bel zl0) trodAll_mk0), rfl, bel.frame _, fun h => by cases h⟩

/-- The statement. -/
theorem FnShowPlain_holds : Rows.FnShowPlainSaid :=
  OpenClaim.holds_of_wide 15 Try.f15 rfl rfl rfl rfl rfl rfl rfl ⟨rfl, rfl, rfl, rfl, rfl⟩ rfl rfl rfl rfl rfl (by kernel_rfl) Try.func15 (by kernel_rfl)
    (of_decide_eq_true (by kernel_rfl)) (by unfold Func.isWrapper; first | (rw [if_pos (by decide +kernel)]; kernel_rfl) | (rw [if_neg (by decide +kernel)]; exact ⟨rfl, rfl⟩))
    (fun os started H enc _ => lifted_FnShowPlain os started H enc)

/-- The uppercase letters of a text. -/
def caps (l : List UInt8) : List UInt8 := l.filter fun c => decide (cls c = 2)
theorem caps_all {l : List UInt8} : ∀ c ∈ caps l, cls c = 2 := fun c hc => by simpa using (List.mem_filter.1 hc).2
theorem caps_len {l : List UInt8} : (caps l).length ≤ l.length := List.length_filter_le _ _
theorem caps_next {s : ByteArray} {p : Nat} (h : p < s.size) : caps (s.data.toList.take (p + 1)) = caps (s.data.toList.take p) ++ (if cls s[p] = 2 then [s[p]] else []) := by
  have e : s.data.toList.take (p + 1) = s.data.toList.take p ++ [s[p]] := by
    rw [List.take_add_one, List.getElem?_eq_getElem (by simpa using h)]; rfl
  rw [e, caps, List.filter_append]
  congr 1
  by_cases k : cls s[p] = 2 <;> simp [k]
theorem sub_one {s : ByteArray} {p : Nat} (h : p < s.size) : (s.extract p (p + 1)).data.toList = [s[p]] := by
  apply List.ext_getElem
  · simp; omega
  · intro i h1 h2
    simp at h2
    subst h2
    simp
    rfl

set_option maxHeartbeats 2000000 in
theorem walk_FnLevelsBase (a : Option Addr) (n c : Nat) (zs : List Int) (w : World) (hr : IsRow .u8 w a n c zs) :
    Calls Try.prog 10 #[.slice a n c] w fun e w' => e = .returned (.bool true) ∧ Below w.heap.size w w' := by
  have hm := small_row hr
  unfold maxLen at hm
  rcases (by omega : 1048576 < n ∨ n ≤ 1048576) with hn | hn
  · go_enter Try.func10, Try.ntmps10
    go_wp2
    go_ret
    exact ⟨rfl, bl_refl _⟩
  · go_enter Try.func10, Try.ntmps10
    go_wp2_with fail
    (refine (DrawLevelsOf_any _ _ _ _ _ hr).mono ?_; rintro e u0 ⟨s, z, hs, ⟨z0, z1⟩, rfl, hb⟩)
    clear hr
    have hlen := lvO_len s.data.toList z
    have CS := fun (u : World) => LevelsOf_s s z u (by omega)
    have CI := fun (u : World) => LevelsOf_i s z u (by omega)
    obtain ⟨L, hL⟩ : ∃ L, L = lvO s.data.toList z := ⟨_, rfl⟩
    rw [← hL] at hlen
    simp only [← hL] at CS CI
    have HCS := hide CS
    have HCI := hide CI
    clear CS CI hL
    go_wp2_with fail
    (with_reducible refine (HCI.out _).mono ?_)
    rintro e u1 ⟨A1, c1, rfl, ho1, hb1⟩
    go_wp2_with fail
    (with_reducible refine (HCS.out _).mono ?_)
    rintro e u2 ⟨A2, c2, rfl, ho2, hb2⟩
    have ho1 := ho1.below hb2
    go_wp2_with fail
    (with_reducible refine (eqInts_l _ _ _ _ _ _ _ _ _ ho1.reads ho2.reads (by omega) (by omega)).mono ?_)
    rintro e u3 ⟨rfl, j, rfl⟩
    simp only [decide_true]
    have hr1 := ho1.reads.drewN j
    have HB := hide (bl_drewN (bl_call hb2 (bl_call hb1 hb)) j)
    clear ho1 ho2
    rcases Nat.eq_zero_or_pos L.length with h0 | h0
    · have d0 : ((L.length : Int) == 0) = true := by simp [h0]
      have H0 := hide h0
      clear h0
      go_wp2_with fail
      (with_reducible refine (HCS.out _).mono ?_)
      rintro e u4 ⟨A4, c4, rfl, ho4, hb4⟩
      have hr4 := hr1.below hb4
      go_wp2_with fail
      (with_reducible refine (eqInts_l _ _ _ _ _ _ _ _ _ hr4 ho4.reads (by omega) (by omega)).mono ?_)
      rintro e u5 ⟨rfl, j5, rfl⟩
      simp only [decide_true]
      go_wp2
      go_ret
      exact ⟨rfl, bl_drewN (bl_call hb4 HB.out) _⟩
    · have d0 : ((L.length : Int) == 0) = false := by simp; intro h; rw [h] at h0; simp at h0
      clear h0
      go_wp2
      go_loop [6, 7, 8] (fun l k i => ∃ (p : Nat) (lt bk : ByteArray), p ≤ s.size ∧ i = .int .i64 p ∧ l = .string lt ∧ k = .string bk ∧ lt.data.toList = caps (s.data.toList.take p) ∧ bk.data.toList = (caps (s.data.toList.take p)).reverse) (fun _ _ i => s.size - (intOf i).toNat)
      case atStart => exact ⟨0, ⟨#[]⟩, ⟨#[]⟩, by omega, rfl, rfl, rfl, by simp [caps], by simp [caps]⟩
      case round =>
        obtain ⟨p, lt, bk, hp, rfl, rfl, rfl, hlt1, hbk1⟩ := hrel
        have HL := hide hlt1
        have HK := hide hbk1
        have hls : lt.size ≤ p := by
          have h1 := congrArg List.length hlt1
          have h2 := caps_len (l := s.data.toList.take p)
          rw [txt_len] at h1
          rw [h1]
          refine Nat.le_trans h2 ?_
          rw [List.length_take]; omega
        have hks : bk.size ≤ p := by
          have h1 := congrArg List.length hbk1
          have h2 := caps_len (l := s.data.toList.take p)
          rw [txt_len, List.length_reverse] at h1
          rw [h1]
          refine Nat.le_trans h2 ?_
          rw [List.length_take]; omega
        clear hlt1 hbk1
        by_cases hlt : p < s.size
        · have hc8 : s[p].toNat < 256 := UInt8.toNat_lt _
          have x1 : p + 1 ≤ s.size := by omega
          have x2 : (p : Int) + 1 ≤ (s.size : Int) := by omega
          have CN := caps_next hlt
          rcases (by omega : s[p].toNat < 65 ∨ 90 < s[p].toNat ∨ (65 ≤ s[p].toNat ∧ s[p].toNat ≤ 90)) with h | h | ⟨h, h'⟩
          · have k : ¬ cls s[p] = 2 := by
              intro k; rcases cls_or s[p] with ⟨k', _⟩ | ⟨k', k1, k2⟩ | ⟨k', _⟩ | ⟨k', _⟩ <;> omega
            rw [if_neg k, List.append_nil] at CN
            have CN := hide CN
            clear k
            go_wp2
            go_round
            case rel => exact ⟨p + 1, lt, bk, by omega, by go_num, rfl, rfl, by rw [CN.out]; exact HL.out, by rw [CN.out]; exact HK.out⟩
            case measure => simp [intOf]; omega
          · have k : ¬ cls s[p] = 2 := by
              intro k; rcases cls_or s[p] with ⟨k', _⟩ | ⟨k', k1, k2⟩ | ⟨k', _⟩ | ⟨k', _⟩ <;> omega
            rw [if_neg k, List.append_nil] at CN
            have CN := hide CN
            clear k
            go_wp2
            go_round
            case rel => exact ⟨p + 1, lt, bk, by omega, by go_num, rfl, rfl, by rw [CN.out]; exact HL.out, by rw [CN.out]; exact HK.out⟩
            case measure => simp [intOf]; omega
          · rw [if_pos (cls_cap ⟨h, h'⟩)] at CN
            have CN := hide CN
            have S1 := sub_one hlt
            have S2 : (s.extract p (p + 1)).size = 1 := by rw [← txt_len, S1]; rfl
            have G1 := hide (show (lt ++ s.extract p (p + 1)).data.toList = caps (s.data.toList.take (p + 1)) by rw [cat_list, S1, CN.out, HL.out])
            have G2 := hide (show (s.extract p (p + 1) ++ bk).data.toList = (caps (s.data.toList.take (p + 1))).reverse by rw [cat_list, S1, CN.out, List.reverse_append, HK.out]; rfl)
            have y1 : (s.extract p (p + 1)).size ≤ 1 := by omega
            have hsl : ∀ W : World, (Instr.slice 9 (.string s) (some (.int .i64 (p : Int))) (some (.int .i64 ((p : Int) + 1))) none).run Try.prog W = .ok (.string (s.extract p (p + 1))) W := fun W => by
              have := run_slice_string (P := Try.prog) W 9 s .i64 .i64 (p : Int) ((p : Int) + 1) Try.underlying9 (by omega) (by omega) (by omega)
              rwa [show ((p : Int)).toNat = p by omega, show ((p : Int) + 1).toNat = p + 1 by omega] at this
            clear S1 S2
            go_wp2
            go_round
            case rel => exact ⟨p + 1, _, _, by omega, by go_num, rfl, rfl, G1.out, G2.out⟩
            case measure => simp [intOf]; omega
        · have hcp := caps_all (l := s.data.toList.take p)
          rw [← HL.out] at hcp
          have hl60 : lt.data.toList.length ≤ 60 := by rw [txt_len]; omega
          have hok := okT_caps hl60 hcp
          obtain ⟨e1, e2⟩ := shO_caps hok hcp
          rw [txt_len] at e1
          have CL := fun (u : World) => LevelsOf_i lt 1 u (by omega)
          have CT := fun (u : World) => ShowText_i lt 1 u (by omega)
          obtain ⟨M, hM⟩ : ∃ M, M = List.replicate lt.size (1 : Int) := ⟨_, rfl⟩
          have hMl : M.length = lt.size := by rw [hM]; simp
          have hMg : ∀ j, j < M.length → ng M j = 1 := fun j hj => by rw [hM, ng_rep (by rw [← hMl]; exact hj)]
          simp only [e1, ← hM] at CL
          have hbk : bk.data.toList = lt.data.toList.reverse := by rw [HK.out, HL.out]
          simp only [e2, mk_same hbk] at CT
          have CL := hide CL
          have CT := hide CT
          have HML := hide hMl
          have HMG := hide hMg
          have ty := teq_yes bk
          clear hcp hl60 hok e1 e2 hM hMl hMg hbk
          go_wp2_with fail
          (with_reducible refine (CL.out _).mono ?_)
          rintro e u4 ⟨A4, c4, rfl, ho4, hb4⟩
          have hr4 := ho4.reads
          have HB4 := hide (bl_call hb4 HB.out)
          have hM6 : M.length ≤ 60 := by rw [HML.out]; omega
          clear ho4
          go_wp2
          go_loop [10] (fun i => ∃ q : Nat, q ≤ M.length ∧ i = .int .i64 q) (fun i => M.length - (intOf i).toNat)
          case atStart => exact ⟨0, by omega, rfl⟩
          case round =>
            obtain ⟨q, hq, rfl⟩ := hrel
            by_cases hqM : q < M.length
            · obtain ⟨b, o, rfl, hbv, hc⟩ := hr4.at_ hqM
              rw [HMG.out q hqM] at hc
              go_wp2
              go_round
              case rel => exact ⟨q + 1, by omega, by go_num⟩
              case measure => simp [intOf]; omega
            · have d5 : ((M.length : Int) == (lt.size : Int)) = true := by rw [HML.out]; simp
              go_wp2_with fail
              (with_reducible refine (CT.out _).mono ?_)
              rintro e u5 ⟨rfl, hb5⟩
              go_wp2
              go_ret
              exact ⟨rfl, bl_call hb5 HB4.out⟩
set_option maxRecDepth 100000 in
theorem lifted_FnLevelsBase (os : Os) (started : os.Started) (H : Type) (enc : TypeId × Value → H) :
    ReturnsInHanded {} Try.checked os 10 .any (Rows.fnLevelsBaseSpec.pre6 enc Try.prog Try.f10 Rows.fnLevelsBaseRow.domain false) (Rows.fnLevelsBaseSpec.post enc Try.prog Try.f10 false true false false) := by
  refine returnsInHanded_of_change (C := Try.checked) own_knob started (by kernel_rfl) Try.func10
    (ChangeSpec.witness6 (enc := enc) (C := Try.checked) false ⟨#[], #[.slice none 0 0], []⟩ 8 (by kernel_rfl) (by kernel_rfl) (by kernel_rfl) (by kernel_rfl)) ?_
  intro W base args ds gs before hval0 hW hcnd _
  have hval : ∀ (j : Nat) t v, Try.f10.params[j]? = some t → args[j]? = some v → Value.okWide Try.prog W .any base t v := hval0
  have hW' := hW
  obtain ⟨p, q, hA0, hV, rfl, hfz, hnd⟩ := hW
  have hA : DataW.TrodAll enc Try.prog W 0 (fun _ => true) true Try.f10.params.toList args.toList ds p := hA0
  rw [Try.params10] at hA hval
  obtain ⟨v0, vs0, d0, ds0, p0, q0, hargs, rfl, rfl, zh0, r0⟩ := trodAll_cons hA
  obtain ⟨rfl, rfl, rfl⟩ := trodAll_nil r0
  obtain rfl : args = #[v0] := by cases args; simp_all
  obtain ⟨rfl, rfl⟩ := trodVars_none hV
  have zk0 := zh0
  have zl0 : ∀ x ∈ p0, x.block < W.heap.size := by obtain ⟨m, hm⟩ := zk0; exact DataW.trod_lt m _ _ _ hm
  clear hA0 hval0
  obtain ⟨a_code, n_code, c_code, rfl⟩ := okWide_slice Try.underlying30 (hval 0 30 v0 rfl rfl)
  obtain ⟨code, w_code⟩ := isRow_of Try.underlying30 Try.underlying5 (by kernel_rfl) zh0
  refine (walk_FnLevelsBase a_code n_code c_code code W w_code).mono fun e W' ⟨he, bel⟩ => ?_
  subst he
  exact ⟨_, rfl, _, _, _, [], _, [], hW', trodAll_mk1 (shut_bool Try.underlying4 _), (trodAll_cons_mk (Below.trod laid_out (by kernel_rfl) (of_decide_eq_true (by kernel_rfl)) zk0 bel zl0) trodAll_mk0), rfl, bel.frame _, fun h => by cases h⟩

/-- The statement. -/
theorem FnLevelsBase_holds : Rows.FnLevelsBaseSaid :=
  OpenClaim.holds_of_wide 10 Try.f10 rfl rfl rfl rfl rfl rfl rfl ⟨rfl, rfl, rfl, rfl, rfl⟩ rfl rfl rfl rfl rfl (by kernel_rfl) Try.func10 (by kernel_rfl)
    (of_decide_eq_true (by kernel_rfl)) (by unfold Func.isWrapper; first | (rw [if_pos (by decide +kernel)]; kernel_rfl) | (rw [if_neg (by decide +kernel)]; exact ⟨rfl, rfl⟩))
    (fun os started H enc _ => lifted_FnLevelsBase os started H enc)
end Go.Proofs.Yteoiphjkkcjddaa
