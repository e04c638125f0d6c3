/- The promise on FormatNumber holds for every code: its styles are those of their functions, and digits in decimal. The tables read as the program's text lays them (the tied card). -/
import Derived.Test.YtonkbakoifdmiaaDoorDrawN2
import Derived.Test.YtonkbakoifdmiaaDoorFmtL
namespace Go.Proofs.YtonkbakoifdmiaaDoor
open Go.ChangeShapes Go.WideShapes Go.ChangeAt Go.RowKit
set_option linter.unusedVariables false
set_option maxRecDepth 4000

theorem fmtN_len (n st : Int) : (bs (fmtN n st)).size ≤ 3999 := by
  rw [bs_size]
  unfold fmtN
  split
  · split
    · have := dec_len n.toNat (by omega); omega
    · split
      · have := rom_len (k := 0) (n := n.toNat) (by omega); omega
      · split
        · have := alp_len (n := n.toNat) (by omega); omega
        · simp
  · simp
theorem fmtN_dec {n : Int} (h : 1 ≤ n ∧ n ≤ 3999) : (∀ c ∈ fmtN n 1, 48 ≤ c.toNat ∧ c.toNat ≤ 57) ∧ 0 < (fmtN n 1).length := by
  unfold fmtN
  rw [if_pos h, if_pos rfl]
  exact dec_bytes _
set_option maxHeartbeats 2000000 in
theorem walk_FnFormatNumber (a : Option Addr) (n c : Nat) (zs : List Int) (w : World) (hr : IsRow .u8 w a n c zs) (hT : LaidF w) :
    Calls Tryd.prog 9 #[.slice a n c] w fun e w' => e = .returned (.bool true) ∧ Below w.heap.size w w' := by
  have hm := small_row hr
  unfold maxLen at hm
  rcases (by omega : 1048576 < n ∨ n ≤ 1048576) with hn | hn
  · go_enter Tryd.func9, Tryd.ntmps9
    go_wp2
    go_ret
    exact ⟨rfl, bl_refl _⟩
  · have HT := hide hT
    clear hT
    go_enter Tryd.func9, Tryd.ntmps9
    go_wp2_with fail
    refine (DrawFormatNumber_any _ _ _ _ _ hr).mono ?_
    rintro e u0 ⟨z, st, ⟨z0, z1⟩, ⟨s0, s1⟩, rfl, hb⟩
    clear hr
    have CS := fun (u : World) => FormatNumber_s z st u
    have CI := fun (u : World) => FormatNumber_i z st u
    have hl := fmtN_len z st
    rcases Nat.eq_zero_or_pos (bs (fmtN z st)).size with h0 | h0
    · have e0 : bs (fmtN z st) = ⟨#[]⟩ := by
        apply ByteArray.ext
        exact Array.eq_empty_of_size_eq_zero h0
      rw [e0] at CS CI
      have HCS := hide CS
      have HCI := hide CI
      clear CS CI e0 h0 hl
      have ty := teq_yes ⟨#[]⟩
      go_wp2_with fail
      refine (HCI.out _ (HT.out.below hb)).mono ?_
      rintro e u1 ⟨rfl, hb1⟩
      go_wp2_with fail
      refine (HCS.out _).mono ?_
      rintro e u2 ⟨rfl, hb2⟩
      go_wp2_with fail
      refine (HCS.out _).mono ?_
      rintro e u3 ⟨rfl, hb3⟩
      go_wp2
      go_ret
      exact ⟨rfl, bl_call hb3 (bl_call hb2 (bl_call hb1 hb))⟩
    · have hz : 1 ≤ z ∧ z ≤ 3999 := by
        rcases (by omega : (1 ≤ z ∧ z ≤ 3999) ∨ ¬ (1 ≤ z ∧ z ≤ 3999)) with h | h
        · exact h
        · have : fmtN z st = [] := by unfold fmtN; rw [if_neg h]
          rw [this] at h0; cases h0
      have C1 := fun (u : World) => FormatNumber_i z 1 u
      have C2 := fun (u : World) => FormatNumber_i z 2 u
      have C3 := fun (u : World) => FormatNumber_i z 3 u
      have CR := fun (u : World) => Roman_i z u
      have CA := fun (u : World) => Alphabetic_i z u
      have eR : romN z = fmtN z 2 := by unfold romN fmtN; rw [if_pos hz, if_pos hz]; rfl
      have eA : alpN z = fmtN z 3 := by unfold alpN fmtN; rw [if_pos hz, if_pos hz]; rfl
      rw [eR] at CR
      rw [eA] at CA
      obtain ⟨f1, f2⟩ := fmtN_dec hz
      have hd := fmtN_len z 1
      obtain ⟨t, ht⟩ : ∃ t, t = bs (fmtN z st) := ⟨_, rfl⟩
      obtain ⟨d, hdd⟩ : ∃ d, d = bs (fmtN z 1) := ⟨_, rfl⟩
      obtain ⟨x, hx⟩ : ∃ x, x = bs (fmtN z 2) := ⟨_, rfl⟩
      obtain ⟨y, hy⟩ : ∃ y, y = bs (fmtN z 3) := ⟨_, rfl⟩
      have ed : d.data.toList = fmtN z 1 := by rw [hdd, bs_data]
      have FB : Hid (∀ (k : Nat) (hk : k < d.size), 48 ≤ d[k].toNat ∧ d[k].toNat ≤ 57) := hide (fun k hk => f1 _ (by have h := byte_in hk; rw [ed] at h; exact h))
      have d0 : 0 < d.size := by rw [hdd, bs_size]; exact f2
      rw [← ht] at CS CI hl h0
      rw [← hdd] at C1 hd
      rw [← hx] at C2 CR
      rw [← hy] at C3 CA
      have HCS := hide CS
      have HCI := hide CI
      have HC1 := hide C1
      have HC2 := hide C2
      have HC3 := hide C3
      have HCR := hide CR
      have HCA := hide CA
      have ty := teq_yes t
      have te := empty_no h0
      have tx := teq_yes x
      have tyy := teq_yes y
      have dd : decide ((0 : Int) < (d.size : Int)) = true := decide_eq_true (by omega)
      clear CS CI C1 C2 C3 CR CA ht hdd hx hy f1 f2 eR eA hz ed
      go_wp2_with fail
      refine (HCI.out _ (HT.out.below hb)).mono ?_
      rintro e u1 ⟨rfl, hb1⟩
      go_wp2_with fail
      refine (HCS.out _).mono ?_
      rintro e u2 ⟨rfl, hb2⟩
      have hb3 := bl_call hb2 (bl_call hb1 hb)
      go_wp2_with fail
      refine (HC1.out _ (HT.out.below hb3)).mono ?_
      rintro e u3 ⟨rfl, hb4⟩
      have hb5 := bl_call hb4 hb3
      have HB5 := hide hb5
      clear hb hb1 hb2 hb3 hb4 hb5
      go_wp2
      go_loop [7] (fun i => ∃ k : Nat, k ≤ d.size ∧ i = .int .i64 k) (fun i => d.size - (intOf i).toNat)
      case atStart => exact ⟨0, by omega, rfl⟩
      case round =>
        obtain ⟨k, hk, rfl⟩ := hrel
        by_cases hlt : k < d.size
        · obtain ⟨b0, b1⟩ := FB.out k hlt
          go_wp2
          go_round
          case rel => exact ⟨k + 1, by omega, by go_num⟩
          case measure => simp [intOf]; omega
        · go_wp2_with fail
          refine (HC2.out _ (HT.out.below HB5.out)).mono ?_
          rintro e u4 ⟨rfl, hb6⟩
          have hb7 := bl_call hb6 HB5.out
          go_wp2_with fail
          refine (HCR.out _ (HT.out.below hb7).rom).mono ?_
          rintro e u5 ⟨rfl, hb8⟩
          have hb9 := bl_call hb8 hb7
          go_wp2_with fail
          refine (HC3.out _ (HT.out.below hb9)).mono ?_
          rintro e u6 ⟨rfl, hb10⟩
          go_wp2_with fail
          refine (HCA.out _).mono ?_
          rintro e u7 ⟨rfl, hb11⟩
          go_wp2
          go_ret
          exact ⟨rfl, bl_call hb11 (bl_call hb10 hb9)⟩
set_option maxRecDepth 100000 in
theorem lifted_FnFormatNumber (os : Os) (started : os.Started) (H : Type) (enc : TypeId × Value → H) :
    ReturnsInHanded {} Tryd.checked os 9 .any (fun w args => (Rows.fnFormatNumberSpec.pre enc Tryd.prog Tryd.f9 Rows.fnFormatNumberRow.domain false w args ∧ laidMetH Tryd.prog Rows.fnFormatNumberRow.laid w) ∧ sizedMet enc Tryd.prog Tryd.f9 (OpenSpec.ofChange Rows.fnFormatNumberSpec) false w args) (Rows.fnFormatNumberSpec.post enc Tryd.prog Tryd.f9 false true false false) := by
  refine returnsInHanded_of_change_and (C := Tryd.checked) (X := fun w _ => laidMetH Tryd.prog Rows.fnFormatNumberRow.laid w) (fun _ _ _ hh h => h.of_heap hh) own_knob started (by kernel_rfl) Tryd.func9
    (ChangeSpec.witness_shaped (enc := enc) (C := Tryd.checked) (os := os) (X := fun w _ => laidMetH Tryd.prog Rows.fnFormatNumberRow.laid w) false (World.laidAll Tryd.prog os Rows.fnFormatNumberRow.laid) #[.slice none 0 0] 8 (World.laidAll_os _ _ _) (World.shaped_of_ZipB (by kernel_rfl) (by kernel_rfl)) (by kernel_rfl) (by kernel_rfl) (by kernel_rfl)
      (by rw [MakeChecks.laidMetH_plain _ _ _ (by kernel_rfl)]; exact laidMet_laidAll _ (by kernel_rfl) (by kernel_rfl))) ?_
  intro W base args ds gs before hval0 hW hcnd _ hL _
  have hval : ∀ (j : Nat) t v, Tryd.f9.params[j]? = some t → args[j]? = some v → Value.okWide Tryd.prog W .any base t v := hval0
  have hW' := hW
  obtain ⟨p, q, hA0, hV, rfl, hfz, hnd⟩ := hW
  have hA : DataW.TrodAll enc Tryd.prog W 0 (fun _ => true) true Tryd.f9.params.toList args.toList ds p := hA0
  rw [Tryd.params9] at hA hval
  obtain ⟨v0, vs0, d0, ds0, p0, q0, hargs, rfl, rfl, zh0, r0⟩ := trodAll_cons hA
  obtain ⟨rfl, rfl, rfl⟩ := trodAll_nil r0
  obtain rfl : args = #[v0] := by cases args; simp_all
  obtain ⟨g0, tg0, cg0, fg0, dg0, pg0, rfl, _, _, _, _, _⟩ := trodVars_one hV
  have zk0 := zh0
  have zl0 : ∀ x ∈ p0, x.block < W.heap.size := by obtain ⟨m, hm⟩ := zk0; exact DataW.trod_lt m _ _ _ hm
  clear hA0 hval0
  obtain ⟨a_code, n_code, c_code, rfl⟩ := okWide_slice Tryd.underlying29 (hval 0 29 v0 rfl rfl)
  obtain ⟨code, w_code⟩ := isRow_of Tryd.underlying29 Tryd.underlying5 (by kernel_rfl) zh0
  refine (walk_FnFormatNumber a_code n_code c_code code W w_code (laidF_of hL)).mono fun e W' ⟨he, bel⟩ => ?_
  subst he
  exact ⟨_, rfl, _, _, _, [], _, _, hW', trodAll_mk1 (shut_bool Tryd.underlying4 _), (trodAll_cons_mk (Below.trod laid_out (by kernel_rfl) (of_decide_eq_true (by kernel_rfl)) zk0 bel zl0) trodAll_mk0), bel.trodVars laid_out (by kernel_rfl) hV, bel.frame _, fun h => by cases h⟩

theorem FnFormatNumber_holds : Rows.FnFormatNumberSaid :=
  OpenClaim.holds_of_wide 9 Tryd.f9 rfl rfl rfl rfl rfl rfl rfl ⟨rfl, rfl, rfl, rfl, rfl⟩ rfl rfl rfl rfl rfl (by kernel_rfl) Tryd.func9 (by kernel_rfl)
    (of_decide_eq_true (by kernel_rfl)) (by unfold Func.isWrapper; first | (rw [if_pos (by decide +kernel)]; kernel_rfl) | (rw [if_neg (by decide +kernel)]; exact ⟨rfl, rfl⟩))
    (fun os started H enc _ => lifted_FnFormatNumber os started H enc)
/-- The tied card. -/
theorem FnFormatNumber_card : Rows.FnFormatNumberCardSaid :=
  Claim7.holds_tied_plain_at .later [] [.data, .data, .data, .data] true (true, "30719358a91eadf108549a7b6d32bce5cdc8d7f981deaf81a05c693ddfb4d74e") false FnFormatNumber_holds (fun _ h => by cases h) (by kernel_rfl) (fun _ h => by cases h) fnFormatNumber_row_tie rfl ⟨rfl, rfl⟩ (by kernel_rfl) rfl
    (fun f fn hf hfn => by
      obtain rfl : f = 9 := Option.some.inj ((show Tryd.prog.funcNamed "loop.example/typesetting/laws.FnFormatNumber" = some 9 by kernel_rfl).symm.trans hf) |>.symm
      obtain rfl : fn = Tryd.f9 := (Option.some.inj (Tryd.func9.symm.trans hfn)).symm
      exact ⟨by kernel_rfl, fun j t ht => by
        rw [Tryd.params9] at ht
        have hm : t ∈ [29] := by simpa using Array.mem_of_getElem? ht
        have hall : ([29].all fun u => !Tryd.prog.wantsStandIn u) = true := by kernel_rfl
        exact (show Tryd.prog.wantsStandIn t = false by simpa using List.all_eq_true.1 hall t hm)⟩)
    (by kernel_rfl)
end Go.Proofs.YtonkbakoifdmiaaDoor
