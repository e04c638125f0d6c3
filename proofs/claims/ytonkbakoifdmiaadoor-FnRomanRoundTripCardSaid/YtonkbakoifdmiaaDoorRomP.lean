/- The promises on Roman numerals hold for every code: they can be read, they are canonical, thousands are written as m. The table of the parts reads as the program's text lays it (the tied card). -/
import Derived.Test.YtonkbakoifdmiaaDoorDrawN
import Derived.Test.YtonkbakoifdmiaaDoorRomL
import Derived.Test.YtonkbakoifdmiaaDoorRomK
namespace Go.Proofs.YtonkbakoifdmiaaDoor
open Go.ChangeShapes Go.WideShapes Go.ChangeAt Go.RowKit
set_option linter.unusedVariables false
set_option maxRecDepth 4000

theorem romN_pos {m : Nat} (h : 1 ≤ m) (h' : m ≤ 3999) : 0 < (bs (romN (m : Int))).size := by
  rw [bs_size, romN_yes ⟨h, h'⟩]
  exact rom_pos h
set_option maxHeartbeats 1000000 in
theorem walk_FnRomanRoundTrip (a : Option Addr) (n c : Nat) (zs : List Int) (w : World) (hr : IsRow .u8 w a n c zs) (hT : RomT w) :
    Calls Tryd.prog 6 #[.slice a n c] w fun e w' => e = .returned (.bool true) ∧ Below w.heap.size w w' := by
  have hm := small_row hr
  unfold maxLen at hm
  rcases (by omega : 1048576 < n ∨ n ≤ 1048576) with hn | hn
  · go_enter Tryd.func6, Tryd.ntmps6
    go_wp2
    go_ret
    exact ⟨rfl, bl_refl _⟩
  · have HT := hide hT
    clear hT
    go_enter Tryd.func6, Tryd.ntmps6
    go_wp2_with fail
    refine (DrawRoman_any _ _ _ _ _ hr).mono ?_
    rintro e u0 ⟨z, ⟨z0, z1⟩, rfl, hb⟩
    clear hr
    have CS := fun (u : World) => Roman_s z u
    have CI := fun (u : World) => Roman_i z u
    rcases (by omega : (1 ≤ z ∧ z ≤ 3999) ∨ ¬ (1 ≤ z ∧ z ≤ 3999)) with hz | hz
    · obtain ⟨m, rfl⟩ := Int.eq_ofNat_of_zero_le (show 0 ≤ z by omega)
      have hp := romN_pos (m := m) (by omega) (by omega)
      have hl := romN_len (m : Int)
      have CF := fun (u : World) => FromRoman_i (bs (romN (m : Int))) u (by omega)
      have ef : fr (bs (romN (m : Int))).data.toList = ((m : Int), true) := by rw [bs_data, romN_yes (by omega)]; exact fr_rom (by omega) (by omega)
      rw [ef] at CF
      obtain ⟨t, ht⟩ : ∃ t, t = bs (romN (m : Int)) := ⟨_, rfl⟩
      rw [← ht] at CS CI CF hp hl
      have HCS := hide CS
      have HCI := hide CI
      have HCF := hide CF
      have ty := teq_yes t
      have te := empty_no hp
      clear CS CI CF ht ef
      go_wp2_with fail
      refine (HCI.out _ (HT.out.below hb)).mono ?_
      rintro e u1 ⟨rfl, hb1⟩
      go_wp2_with fail
      refine (HCS.out _).mono ?_
      rintro e u2 ⟨rfl, hb2⟩
      go_wp2_with fail
      refine (HCF.out _ (HT.out.below (bl_call hb2 (bl_call hb1 hb)))).mono ?_
      rintro e u3 ⟨rfl, hb3⟩
      go_wp2
      go_ret
      exact ⟨rfl, bl_call hb3 (bl_call hb2 (bl_call hb1 hb))⟩
    · have e0 : bs (romN z) = ⟨#[]⟩ := by unfold romN; rw [if_neg hz]; rfl
      rw [e0] at CS CI
      have HCS := hide CS
      have HCI := hide CI
      clear CS CI e0
      have ty := teq_yes ⟨#[]⟩
      go_wp2_with fail
      refine (HCI.out _ (HT.out.below hb)).mono ?_
      rintro e u1 ⟨rfl, hb1⟩
      go_wp2_with fail
      refine (HCS.out _).mono ?_
      rintro e u2 ⟨rfl, hb2⟩
      go_wp2_with fail
      refine (HCS.out _).mono ?_
      rintro e u3 ⟨rfl, hb3⟩
      go_wp2
      go_ret
      exact ⟨rfl, bl_call hb3 (bl_call hb2 (bl_call hb1 hb))⟩
set_option maxRecDepth 100000 in
theorem lifted_FnRomanRoundTrip (os : Os) (started : os.Started) (H : Type) (enc : TypeId × Value → H) :
    ReturnsInHanded {} Tryd.checked os 6 .any (fun w args => (Rows.fnRomanRoundTripSpec.pre enc Tryd.prog Tryd.f6 Rows.fnRomanRoundTripRow.domain false w args ∧ laidMetH Tryd.prog Rows.fnRomanRoundTripRow.laid w) ∧ sizedMet enc Tryd.prog Tryd.f6 (OpenSpec.ofChange Rows.fnRomanRoundTripSpec) false w args) (Rows.fnRomanRoundTripSpec.post enc Tryd.prog Tryd.f6 false true false false) := by
  refine returnsInHanded_of_change_and (C := Tryd.checked) (X := fun w _ => laidMetH Tryd.prog Rows.fnRomanRoundTripRow.laid w) (fun _ _ _ hh h => h.of_heap hh) own_knob started (by kernel_rfl) Tryd.func6
    (ChangeSpec.witness_shaped (enc := enc) (C := Tryd.checked) (os := os) (X := fun w _ => laidMetH Tryd.prog Rows.fnRomanRoundTripRow.laid w) false (World.laidAll Tryd.prog os Rows.fnRomanRoundTripRow.laid) #[.slice none 0 0] 8 (World.laidAll_os _ _ _) (World.shaped_of_ZipB (by kernel_rfl) (by kernel_rfl)) (by kernel_rfl) (by kernel_rfl) (by kernel_rfl)
      (by rw [MakeChecks.laidMetH_plain _ _ _ (by kernel_rfl)]; exact laidMet_laidAll _ (by kernel_rfl) (by kernel_rfl))) ?_
  intro W base args ds gs before hval0 hW hcnd _ hL _
  have hval : ∀ (j : Nat) t v, Tryd.f6.params[j]? = some t → args[j]? = some v → Value.okWide Tryd.prog W .any base t v := hval0
  have hW' := hW
  obtain ⟨p, q, hA0, hV, rfl, hfz, hnd⟩ := hW
  have hA : DataW.TrodAll enc Tryd.prog W 0 (fun _ => true) true Tryd.f6.params.toList args.toList ds p := hA0
  rw [Tryd.params6] at hA hval
  obtain ⟨v0, vs0, d0, ds0, p0, q0, hargs, rfl, rfl, zh0, r0⟩ := trodAll_cons hA
  obtain ⟨rfl, rfl, rfl⟩ := trodAll_nil r0
  obtain rfl : args = #[v0] := by cases args; simp_all
  obtain ⟨g0, tg0, cg0, fg0, dg0, pg0, rfl, _, _, _, _, _⟩ := trodVars_one hV
  have zk0 := zh0
  have zl0 : ∀ x ∈ p0, x.block < W.heap.size := by obtain ⟨m, hm⟩ := zk0; exact DataW.trod_lt m _ _ _ hm
  clear hA0 hval0
  obtain ⟨a_code, n_code, c_code, rfl⟩ := okWide_slice Tryd.underlying29 (hval 0 29 v0 rfl rfl)
  obtain ⟨code, w_code⟩ := isRow_of Tryd.underlying29 Tryd.underlying5 (by kernel_rfl) zh0
  refine (walk_FnRomanRoundTrip a_code n_code c_code code W w_code (romT_of hL)).mono fun e W' ⟨he, bel⟩ => ?_
  subst he
  exact ⟨_, rfl, _, _, _, [], _, _, hW', trodAll_mk1 (shut_bool Tryd.underlying4 _), (trodAll_cons_mk (Below.trod laid_out (by kernel_rfl) (of_decide_eq_true (by kernel_rfl)) zk0 bel zl0) trodAll_mk0), bel.trodVars laid_out (by kernel_rfl) hV, bel.frame _, fun h => by cases h⟩

theorem FnRomanRoundTrip_holds : Rows.FnRomanRoundTripSaid :=
  OpenClaim.holds_of_wide 6 Tryd.f6 rfl rfl rfl rfl rfl rfl rfl ⟨rfl, rfl, rfl, rfl, rfl⟩ rfl rfl rfl rfl rfl (by kernel_rfl) Tryd.func6 (by kernel_rfl)
    (of_decide_eq_true (by kernel_rfl)) (by unfold Func.isWrapper; first | (rw [if_pos (by decide +kernel)]; kernel_rfl) | (rw [if_neg (by decide +kernel)]; exact ⟨rfl, rfl⟩))
    (fun os started H enc _ => lifted_FnRomanRoundTrip os started H enc)
/-- The tied card. -/
theorem FnRomanRoundTrip_card : Rows.FnRomanRoundTripCardSaid :=
  Claim7.holds_tied_plain_at .later [] [.data] true (true, "30719358a91eadf108549a7b6d32bce5cdc8d7f981deaf81a05c693ddfb4d74e") false FnRomanRoundTrip_holds (fun _ h => by cases h) (by kernel_rfl) (fun _ h => by cases h) fnRomanRoundTrip_row_tie rfl ⟨rfl, rfl⟩ (by kernel_rfl) rfl
    (fun f fn hf hfn => by
      obtain rfl : f = 6 := Option.some.inj ((show Tryd.prog.funcNamed "loop.example/typesetting/laws.FnRomanRoundTrip" = some 6 by kernel_rfl).symm.trans hf) |>.symm
      obtain rfl : fn = Tryd.f6 := (Option.some.inj (Tryd.func6.symm.trans hfn)).symm
      exact ⟨by kernel_rfl, fun j t ht => by
        rw [Tryd.params6] at ht
        have hm : t ∈ [29] := by simpa using Array.mem_of_getElem? ht
        have hall : ([29].all fun u => !Tryd.prog.wantsStandIn u) = true := by kernel_rfl
        exact (show Tryd.prog.wantsStandIn t = false by simpa using List.all_eq_true.1 hall t hm)⟩)
    (by kernel_rfl)

set_option maxHeartbeats 1000000 in
theorem walk_FnRomanCanonical (a : Option Addr) (n c : Nat) (zs : List Int) (w : World) (hr : IsRow .u8 w a n c zs) (hT : RomT w) :
    Calls Tryd.prog 7 #[.slice a n c] w fun e w' => e = .returned (.bool true) ∧ Below w.heap.size w w' := by
  have hm := small_row hr
  unfold maxLen at hm
  rcases (by omega : 1048576 < n ∨ n ≤ 1048576) with hn | hn
  · go_enter Tryd.func7, Tryd.ntmps7
    go_wp2
    go_ret
    exact ⟨rfl, bl_refl _⟩
  · have HT := hide hT
    clear hT
    go_enter Tryd.func7, Tryd.ntmps7
    go_wp2_with fail
    refine (DrawFromRoman_any _ _ _ _ _ hr).mono ?_
    rintro e u0 ⟨s, hs, rfl, hb⟩
    clear hr
    have CS := fun (u : World) => FromRoman_s s u (by omega)
    have CI := fun (u : World) => FromRoman_i s u (by omega)
    by_cases q : okR s.data.toList = true
    · have ef : fr s.data.toList = ((frv s.data.toList : Int), true) := by unfold fr; rw [if_pos q]
      unfold okR at q
      simp only [Bool.and_eq_true, decide_eq_true_eq, beq_iff_eq] at q
      obtain ⟨⟨k1, k2⟩, k3⟩ := q
      obtain ⟨m, hm1⟩ : ∃ m, m = frv s.data.toList := ⟨_, rfl⟩
      rw [ef, ← hm1] at CS CI
      rw [← hm1] at k1 k2 k3
      have e1 : bs (romN (m : Int)) = s := by rw [romN_yes (by omega), k3]; exact (bs_eq rfl).symm
      have CA := fun (u : World) => Roman_i (m : Int) u
      rw [e1] at CA
      have HCS := hide CS
      have HCI := hide CI
      have HCA := hide CA
      have ty := teq_yes s
      have ez : ((m : Int) == (m : Int)) = true := by simp
      have d0 : decide (1 ≤ (m : Int)) = true := decide_eq_true (by omega)
      have d1 : decide ((m : Int) ≤ 3999) = true := decide_eq_true (by omega)
      clear CS CI CA ef k3 e1 hm1
      go_wp2_with fail
      refine (HCI.out _ (HT.out.below hb)).mono ?_
      rintro e u1 ⟨rfl, hb1⟩
      go_wp2_with fail
      refine (HCS.out _).mono ?_
      rintro e u2 ⟨rfl, hb2⟩
      go_wp2_with fail
      refine (HCA.out _ (HT.out.below (bl_call hb2 (bl_call hb1 hb)))).mono ?_
      rintro e u3 ⟨rfl, hb3⟩
      go_wp2
      go_ret
      exact ⟨rfl, bl_call hb3 (bl_call hb2 (bl_call hb1 hb))⟩
    · have ef : fr s.data.toList = (0, false) := by unfold fr; rw [if_neg q]
      rw [ef] at CS CI
      have HCS := hide CS
      have HCI := hide CI
      clear CS CI ef q
      go_wp2_with fail
      refine (HCI.out _ (HT.out.below hb)).mono ?_
      rintro e u1 ⟨rfl, hb1⟩
      go_wp2_with fail
      refine (HCS.out _).mono ?_
      rintro e u2 ⟨rfl, hb2⟩
      go_wp2
      go_ret
      exact ⟨rfl, bl_call hb2 (bl_call hb1 hb)⟩
set_option maxRecDepth 100000 in
theorem lifted_FnRomanCanonical (os : Os) (started : os.Started) (H : Type) (enc : TypeId × Value → H) :
    ReturnsInHanded {} Tryd.checked os 7 .any (fun w args => (Rows.fnRomanCanonicalSpec.pre enc Tryd.prog Tryd.f7 Rows.fnRomanCanonicalRow.domain false w args ∧ laidMetH Tryd.prog Rows.fnRomanCanonicalRow.laid w) ∧ sizedMet enc Tryd.prog Tryd.f7 (OpenSpec.ofChange Rows.fnRomanCanonicalSpec) false w args) (Rows.fnRomanCanonicalSpec.post enc Tryd.prog Tryd.f7 false true false false) := by
  refine returnsInHanded_of_change_and (C := Tryd.checked) (X := fun w _ => laidMetH Tryd.prog Rows.fnRomanCanonicalRow.laid w) (fun _ _ _ hh h => h.of_heap hh) own_knob started (by kernel_rfl) Tryd.func7
    (ChangeSpec.witness_shaped (enc := enc) (C := Tryd.checked) (os := os) (X := fun w _ => laidMetH Tryd.prog Rows.fnRomanCanonicalRow.laid w) false (World.laidAll Tryd.prog os Rows.fnRomanCanonicalRow.laid) #[.slice none 0 0] 8 (World.laidAll_os _ _ _) (World.shaped_of_ZipB (by kernel_rfl) (by kernel_rfl)) (by kernel_rfl) (by kernel_rfl) (by kernel_rfl)
      (by rw [MakeChecks.laidMetH_plain _ _ _ (by kernel_rfl)]; exact laidMet_laidAll _ (by kernel_rfl) (by kernel_rfl))) ?_
  intro W base args ds gs before hval0 hW hcnd _ hL _
  have hval : ∀ (j : Nat) t v, Tryd.f7.params[j]? = some t → args[j]? = some v → Value.okWide Tryd.prog W .any base t v := hval0
  have hW' := hW
  obtain ⟨p, q, hA0, hV, rfl, hfz, hnd⟩ := hW
  have hA : DataW.TrodAll enc Tryd.prog W 0 (fun _ => true) true Tryd.f7.params.toList args.toList ds p := hA0
  rw [Tryd.params7] at hA hval
  obtain ⟨v0, vs0, d0, ds0, p0, q0, hargs, rfl, rfl, zh0, r0⟩ := trodAll_cons hA
  obtain ⟨rfl, rfl, rfl⟩ := trodAll_nil r0
  obtain rfl : args = #[v0] := by cases args; simp_all
  obtain ⟨g0, tg0, cg0, fg0, dg0, pg0, rfl, _, _, _, _, _⟩ := trodVars_one hV
  have zk0 := zh0
  have zl0 : ∀ x ∈ p0, x.block < W.heap.size := by obtain ⟨m, hm⟩ := zk0; exact DataW.trod_lt m _ _ _ hm
  clear hA0 hval0
  obtain ⟨a_code, n_code, c_code, rfl⟩ := okWide_slice Tryd.underlying29 (hval 0 29 v0 rfl rfl)
  obtain ⟨code, w_code⟩ := isRow_of Tryd.underlying29 Tryd.underlying5 (by kernel_rfl) zh0
  refine (walk_FnRomanCanonical a_code n_code c_code code W w_code (romT_of hL)).mono fun e W' ⟨he, bel⟩ => ?_
  subst he
  exact ⟨_, rfl, _, _, _, [], _, _, hW', trodAll_mk1 (shut_bool Tryd.underlying4 _), (trodAll_cons_mk (Below.trod laid_out (by kernel_rfl) (of_decide_eq_true (by kernel_rfl)) zk0 bel zl0) trodAll_mk0), bel.trodVars laid_out (by kernel_rfl) hV, bel.frame _, fun h => by cases h⟩

theorem FnRomanCanonical_holds : Rows.FnRomanCanonicalSaid :=
  OpenClaim.holds_of_wide 7 Tryd.f7 rfl rfl rfl rfl rfl rfl rfl ⟨rfl, rfl, rfl, rfl, rfl⟩ rfl rfl rfl rfl rfl (by kernel_rfl) Tryd.func7 (by kernel_rfl)
    (of_decide_eq_true (by kernel_rfl)) (by unfold Func.isWrapper; first | (rw [if_pos (by decide +kernel)]; kernel_rfl) | (rw [if_neg (by decide +kernel)]; exact ⟨rfl, rfl⟩))
    (fun os started H enc _ => lifted_FnRomanCanonical os started H enc)
/-- The tied card. -/
theorem FnRomanCanonical_card : Rows.FnRomanCanonicalCardSaid :=
  Claim7.holds_tied_plain_at .later [] [.data] true (true, "30719358a91eadf108549a7b6d32bce5cdc8d7f981deaf81a05c693ddfb4d74e") false FnRomanCanonical_holds (fun _ h => by cases h) (by kernel_rfl) (fun _ h => by cases h) fnRomanCanonical_row_tie rfl ⟨rfl, rfl⟩ (by kernel_rfl) rfl
    (fun f fn hf hfn => by
      obtain rfl : f = 7 := Option.some.inj ((show Tryd.prog.funcNamed "loop.example/typesetting/laws.FnRomanCanonical" = some 7 by kernel_rfl).symm.trans hf) |>.symm
      obtain rfl : fn = Tryd.f7 := (Option.some.inj (Tryd.func7.symm.trans hfn)).symm
      exact ⟨by kernel_rfl, fun j t ht => by
        rw [Tryd.params7] at ht
        have hm : t ∈ [29] := by simpa using Array.mem_of_getElem? ht
        have hall : ([29].all fun u => !Tryd.prog.wantsStandIn u) = true := by kernel_rfl
        exact (show Tryd.prog.wantsStandIn t = false by simpa using List.all_eq_true.1 hall t hm)⟩)
    (by kernel_rfl)

theorem rom_thousand (m : Nat) : rom 0 (m + 1000) = 109 :: rom 0 m := by
  have := rom_take (k := 0) (n := m + 1000) (by omega) (by show 1000 ≤ m + 1000; omega)
  rw [this]
  show [109] ++ rom 0 (m + 1000 - 1000) = _
  rw [Nat.add_sub_cancel]
  rfl
set_option maxHeartbeats 1000000 in
theorem walk_FnRomanThousand (a : Option Addr) (n c : Nat) (zs : List Int) (w : World) (hr : IsRow .u8 w a n c zs) (hT : RomT w) :
    Calls Tryd.prog 8 #[.slice a n c] w fun e w' => e = .returned (.bool true) ∧ Below w.heap.size w w' := by
  have hm := small_row hr
  unfold maxLen at hm
  rcases (by omega : 1048576 < n ∨ n ≤ 1048576) with hn | hn
  · go_enter Tryd.func8, Tryd.ntmps8
    go_wp2
    go_ret
    exact ⟨rfl, bl_refl _⟩
  · have HT := hide hT
    clear hT
    go_enter Tryd.func8, Tryd.ntmps8
    go_wp2_with fail
    refine (DrawRoman_any _ _ _ _ _ hr).mono ?_
    rintro e u0 ⟨z, ⟨z0, z1⟩, rfl, hb⟩
    clear hr
    have CS := fun (u : World) => Roman_s z u
    have CI := fun (u : World) => Roman_i z u
    rcases (by omega : (1 ≤ z ∧ z ≤ 2999) ∨ (3000 ≤ z ∧ z ≤ 3999) ∨ ¬ (1 ≤ z ∧ z ≤ 3999)) with hz | hz | hz
    · obtain ⟨m, rfl⟩ := Int.eq_ofNat_of_zero_le (show 0 ≤ z by omega)
      have hp := romN_pos (m := m) (by omega) (by omega)
      have hl := romN_len (m : Int)
      have CN := fun (u : World) => Roman_i ((m : Int) + 1000) u
      have e2 : bs (romN ((m : Int) + 1000)) = (⟨#[109]⟩ : ByteArray) ++ bs (romN (m : Int)) := by
        have := romN_yes (m := m + 1000) (by omega)
        rw [show (m : Int) + 1000 = ((m + 1000 : Nat) : Int) from by omega, this, romN_yes (by omega), rom_thousand]
        exact (bs_eq (by simp [bs_data])).symm
      rw [e2] at CN
      obtain ⟨t, ht⟩ : ∃ t, t = bs (romN (m : Int)) := ⟨_, rfl⟩
      rw [← ht] at CS CI CN hp hl
      have HCS := hide CS
      have HCI := hide CI
      have HCN := hide CN
      have ty := teq_yes t
      have ty2 := teq_yes ((⟨#[109]⟩ : ByteArray) ++ t)
      have te := empty_no hp
      obtain ⟨q0, q1⟩ := hz
      have w1 : IntKind.i64.wrap ((m : Int) + 1000) = (m : Int) + 1000 := IntWalk.i64_in _ (by omega)
      have d2 : decide ((3999 : Int) < (m : Int) + 1000) = false := decide_eq_false (by omega)
      clear CS CI CN ht e2
      go_wp2_with fail
      refine (HCI.out _ (HT.out.below hb)).mono ?_
      rintro e u1 ⟨rfl, hb1⟩
      go_wp2_with fail
      refine (HCS.out _).mono ?_
      rintro e u2 ⟨rfl, hb2⟩
      go_wp2_with fail
      refine (HCN.out _ (HT.out.below (bl_call hb2 (bl_call hb1 hb)))).mono ?_
      rintro e u3 ⟨rfl, hb3⟩
      go_wp2
      go_ret
      exact ⟨rfl, bl_call hb3 (bl_call hb2 (bl_call hb1 hb))⟩
    · obtain ⟨m, rfl⟩ := Int.eq_ofNat_of_zero_le (show 0 ≤ z by omega)
      have hp := romN_pos (m := m) (by omega) (by omega)
      have hl := romN_len (m : Int)
      obtain ⟨t, ht⟩ : ∃ t, t = bs (romN (m : Int)) := ⟨_, rfl⟩
      rw [← ht] at CS CI hp hl
      have HCS := hide CS
      have HCI := hide CI
      have ty := teq_yes t
      have te := empty_no hp
      obtain ⟨q0, q1⟩ := hz
      have w1 : IntKind.i64.wrap ((m : Int) + 1000) = (m : Int) + 1000 := IntWalk.i64_in _ (by omega)
      have d2 : decide ((3999 : Int) < (m : Int) + 1000) = true := decide_eq_true (by omega)
      clear CS CI ht
      go_wp2_with fail
      refine (HCI.out _ (HT.out.below hb)).mono ?_
      rintro e u1 ⟨rfl, hb1⟩
      go_wp2_with fail
      refine (HCS.out _).mono ?_
      rintro e u2 ⟨rfl, hb2⟩
      go_wp2_with fail
      refine (HCS.out _).mono ?_
      rintro e u3 ⟨rfl, hb3⟩
      go_wp2
      go_ret
      exact ⟨rfl, bl_call hb3 (bl_call hb2 (bl_call hb1 hb))⟩
    · have e0 : bs (romN z) = ⟨#[]⟩ := by unfold romN; rw [if_neg hz]; rfl
      rw [e0] at CS CI
      have HCS := hide CS
      have HCI := hide CI
      clear CS CI e0
      have ty := teq_yes ⟨#[]⟩
      go_wp2_with fail
      refine (HCI.out _ (HT.out.below hb)).mono ?_
      rintro e u1 ⟨rfl, hb1⟩
      go_wp2_with fail
      refine (HCS.out _).mono ?_
      rintro e u2 ⟨rfl, hb2⟩
      go_wp2_with fail
      refine (HCS.out _).mono ?_
      rintro e u3 ⟨rfl, hb3⟩
      go_wp2
      go_ret
      exact ⟨rfl, bl_call hb3 (bl_call hb2 (bl_call hb1 hb))⟩
set_option maxRecDepth 100000 in
theorem lifted_FnRomanThousand (os : Os) (started : os.Started) (H : Type) (enc : TypeId × Value → H) :
    ReturnsInHanded {} Tryd.checked os 8 .any (fun w args => (Rows.fnRomanThousandSpec.pre enc Tryd.prog Tryd.f8 Rows.fnRomanThousandRow.domain false w args ∧ laidMetH Tryd.prog Rows.fnRomanThousandRow.laid w) ∧ sizedMet enc Tryd.prog Tryd.f8 (OpenSpec.ofChange Rows.fnRomanThousandSpec) false w args) (Rows.fnRomanThousandSpec.post enc Tryd.prog Tryd.f8 false true false false) := by
  refine returnsInHanded_of_change_and (C := Tryd.checked) (X := fun w _ => laidMetH Tryd.prog Rows.fnRomanThousandRow.laid w) (fun _ _ _ hh h => h.of_heap hh) own_knob started (by kernel_rfl) Tryd.func8
    (ChangeSpec.witness_shaped (enc := enc) (C := Tryd.checked) (os := os) (X := fun w _ => laidMetH Tryd.prog Rows.fnRomanThousandRow.laid w) false (World.laidAll Tryd.prog os Rows.fnRomanThousandRow.laid) #[.slice none 0 0] 8 (World.laidAll_os _ _ _) (World.shaped_of_ZipB (by kernel_rfl) (by kernel_rfl)) (by kernel_rfl) (by kernel_rfl) (by kernel_rfl)
      (by rw [MakeChecks.laidMetH_plain _ _ _ (by kernel_rfl)]; exact laidMet_laidAll _ (by kernel_rfl) (by kernel_rfl))) ?_
  intro W base args ds gs before hval0 hW hcnd _ hL _
  have hval : ∀ (j : Nat) t v, Tryd.f8.params[j]? = some t → args[j]? = some v → Value.okWide Tryd.prog W .any base t v := hval0
  have hW' := hW
  obtain ⟨p, q, hA0, hV, rfl, hfz, hnd⟩ := hW
  have hA : DataW.TrodAll enc Tryd.prog W 0 (fun _ => true) true Tryd.f8.params.toList args.toList ds p := hA0
  rw [Tryd.params8] at hA hval
  obtain ⟨v0, vs0, d0, ds0, p0, q0, hargs, rfl, rfl, zh0, r0⟩ := trodAll_cons hA
  obtain ⟨rfl, rfl, rfl⟩ := trodAll_nil r0
  obtain rfl : args = #[v0] := by cases args; simp_all
  obtain ⟨g0, tg0, cg0, fg0, dg0, pg0, rfl, _, _, _, _, _⟩ := trodVars_one hV
  have zk0 := zh0
  have zl0 : ∀ x ∈ p0, x.block < W.heap.size := by obtain ⟨m, hm⟩ := zk0; exact DataW.trod_lt m _ _ _ hm
  clear hA0 hval0
  obtain ⟨a_code, n_code, c_code, rfl⟩ := okWide_slice Tryd.underlying29 (hval 0 29 v0 rfl rfl)
  obtain ⟨code, w_code⟩ := isRow_of Tryd.underlying29 Tryd.underlying5 (by kernel_rfl) zh0
  refine (walk_FnRomanThousand a_code n_code c_code code W w_code (romT_of hL)).mono fun e W' ⟨he, bel⟩ => ?_
  subst he
  exact ⟨_, rfl, _, _, _, [], _, _, hW', trodAll_mk1 (shut_bool Tryd.underlying4 _), (trodAll_cons_mk (Below.trod laid_out (by kernel_rfl) (of_decide_eq_true (by kernel_rfl)) zk0 bel zl0) trodAll_mk0), bel.trodVars laid_out (by kernel_rfl) hV, bel.frame _, fun h => by cases h⟩

theorem FnRomanThousand_holds : Rows.FnRomanThousandSaid :=
  OpenClaim.holds_of_wide 8 Tryd.f8 rfl rfl rfl rfl rfl rfl rfl ⟨rfl, rfl, rfl, rfl, rfl⟩ rfl rfl rfl rfl rfl (by kernel_rfl) Tryd.func8 (by kernel_rfl)
    (of_decide_eq_true (by kernel_rfl)) (by unfold Func.isWrapper; first | (rw [if_pos (by decide +kernel)]; kernel_rfl) | (rw [if_neg (by decide +kernel)]; exact ⟨rfl, rfl⟩))
    (fun os started H enc _ => lifted_FnRomanThousand os started H enc)
/-- The tied card. -/
theorem FnRomanThousand_card : Rows.FnRomanThousandCardSaid :=
  Claim7.holds_tied_plain_at .later [] [.data] true (true, "30719358a91eadf108549a7b6d32bce5cdc8d7f981deaf81a05c693ddfb4d74e") false FnRomanThousand_holds (fun _ h => by cases h) (by kernel_rfl) (fun _ h => by cases h) fnRomanThousand_row_tie rfl ⟨rfl, rfl⟩ (by kernel_rfl) rfl
    (fun f fn hf hfn => by
      obtain rfl : f = 8 := Option.some.inj ((show Tryd.prog.funcNamed "loop.example/typesetting/laws.FnRomanThousand" = some 8 by kernel_rfl).symm.trans hf) |>.symm
      obtain rfl : fn = Tryd.f8 := (Option.some.inj (Tryd.func8.symm.trans hfn)).symm
      exact ⟨by kernel_rfl, fun j t ht => by
        rw [Tryd.params8] at ht
        have hm : t ∈ [29] := by simpa using Array.mem_of_getElem? ht
        have hall : ([29].all fun u => !Tryd.prog.wantsStandIn u) = true := by kernel_rfl
        exact (show Tryd.prog.wantsStandIn t = false by simpa using List.all_eq_true.1 hall t hm)⟩)
    (by kernel_rfl)
end Go.Proofs.YtonkbakoifdmiaaDoor
