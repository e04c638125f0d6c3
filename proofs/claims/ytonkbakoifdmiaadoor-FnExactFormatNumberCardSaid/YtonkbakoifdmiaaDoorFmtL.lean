/- The laws on FormatNumber hold at every input: it answers as its model does, and its styles are those of their functions. The tables read as the program's text lays them (the tied cards). -/
import Derived.Test.YtonkbakoifdmiaaDoorFmt
import Derived.Test.YtonkbakoifdmiaaDoorRomL
import Derived.Test.YtonkbakoifdmiaaDoorDrawN
import Derived.Lib.LaidTab
import Derived.Stop.LaidErr
namespace Go.Proofs.YtonkbakoifdmiaaDoor
open Go.ChangeShapes Go.WideShapes Go.ChangeAt Go.RowKit
set_option linter.unusedVariables false
set_option maxRecDepth 4000

def fmtN (n st : Int) : List UInt8 := if 1 ≤ n ∧ n ≤ 3999 then (if st = 1 then Lib.decDigits n.toNat else if st = 2 then rom 0 n.toNat else if st = 3 then alp n.toNat else []) else []
theorem fmtN_no {n st : Int} (h : inB n 1 3999 = false) : fmtN n st = [] := by
  unfold fmtN; rw [if_neg]; intro k; rw [← inB_iff, h] at k; cases k
theorem fmtN_yes {m : Nat} {st : Int} (h : 1 ≤ m ∧ m ≤ 3999) : fmtN (m : Int) st = if st = 1 then Lib.decDigits m else if st = 2 then rom 0 m else if st = 3 then alp m else [] := by
  unfold fmtN; rw [if_pos (by omega), Int.toNat_natCast]
structure LaidF (w : World) : Prop where
  rom : RomT w
  tab : TabOk w
theorem LaidF.below {w w' : World} (h : LaidF w) (hb : Below w.heap.size w w') : LaidF w' := ⟨h.rom.below hb, h.tab.below hb⟩

theorem FormatNumber_i (n st : Int) (w : World) (hT : LaidF w) :
    Calls Tryd.prog 15 #[.int .i64 n, .int .i64 st] w fun e w' => e = .returned (.string (bs (fmtN n st))) ∧ Below w.heap.size w w' := by
  cases q : inB n 1 3999
  · have E := hide (congrArg bs (fmtN_no (st := st) q))
    go_enter Tryd.func15, Tryd.ntmps15
    go_wp2_with (go_at_call 22; refine (validNumeral_i _ _).mono ?_; rintro e w' ⟨rfl, rfl⟩)
    go_ret
    exact ⟨str_ret E.out.symm, bl_refl _⟩
  · obtain ⟨q0, q1⟩ := inB_iff.1 q
    obtain ⟨m, rfl⟩ := Int.eq_ofNat_of_zero_le (show 0 ≤ n by omega)
    have F := fmtN_yes (m := m) (st := st) (by omega)
    have HT := hide hT
    clear hT
    rcases (by omega : st = 1 ∨ st = 2 ∨ st = 3 ∨ (¬ st = 1 ∧ ¬ st = 2 ∧ ¬ st = 3)) with rfl | rfl | rfl | ⟨h1, h2, h3⟩
    · have E := hide (show bs (Lib.decDigits m) = bs (fmtN m 1) by rw [F]; rfl)
      clear F
      go_enter Tryd.func15, Tryd.ntmps15
      go_wp2_with (go_at_call 22; refine (validNumeral_i _ _).mono ?_; rintro e w' ⟨rfl, rfl⟩)
      refine (Itoa_any m (by omega) _ HT.out.tab).mono ?_
      rintro e u1 ⟨rfl, hb⟩
      go_wp2
      go_ret
      exact ⟨str_ret E.out, hb⟩
    · have E := hide (show bs (romN m) = bs (fmtN m 2) by rw [F, romN_yes (by omega)]; rfl)
      clear F
      go_enter Tryd.func15, Tryd.ntmps15
      go_wp2_with (go_at_call 22; refine (validNumeral_i _ _).mono ?_; rintro e w' ⟨rfl, rfl⟩)
      refine (Roman_i m _ HT.out.rom).mono ?_
      rintro e u1 ⟨rfl, hb⟩
      go_wp2
      go_ret
      exact ⟨str_ret E.out, hb⟩
    · have E := hide (show bs (alpN m) = bs (fmtN m 3) by rw [F, alpN_yes (by omega)]; rfl)
      clear F
      go_enter Tryd.func15, Tryd.ntmps15
      go_wp2_with (go_at_call 22; refine (validNumeral_i _ _).mono ?_; rintro e w' ⟨rfl, rfl⟩)
      refine (Alphabetic_i m _).mono ?_
      rintro e u1 ⟨rfl, hb⟩
      go_wp2
      go_ret
      exact ⟨str_ret E.out, hb⟩
    · have E := hide (show bs [] = bs (fmtN m st) by rw [F, if_neg h1, if_neg h2, if_neg h3])
      have b1 : (st == 1) = false := beq_eq_false_iff_ne.2 h1
      have b2 : (st == 2) = false := beq_eq_false_iff_ne.2 h2
      have b3 : (st == 3) = false := beq_eq_false_iff_ne.2 h3
      clear F h1 h2 h3
      go_enter Tryd.func15, Tryd.ntmps15
      go_wp2_with (go_at_call 22; refine (validNumeral_i _ _).mono ?_; rintro e w' ⟨rfl, rfl⟩)
      go_ret
      exact ⟨str_ret E.out, bl_refl _⟩

theorem FormatNumber_s (n st : Int) (w : World) :
    Calls Tryd.prog 14 #[.int .i64 n, .int .i64 st] w fun e w' => e = .returned (.string (bs (fmtN n st))) ∧ Below w.heap.size w w' := by
  cases q : inB n 1 3999
  · have E := hide (congrArg bs (fmtN_no (st := st) q))
    go_enter Tryd.func14, Tryd.ntmps14
    go_wp2_with (go_at_call 20; refine (inRange_any _ _ _ _).mono ?_; rintro e w' ⟨rfl, rfl⟩)
    go_ret
    exact ⟨str_ret E.out.symm, bl_refl _⟩
  · obtain ⟨q0, q1⟩ := inB_iff.1 q
    obtain ⟨m, rfl⟩ := Int.eq_ofNat_of_zero_le (show 0 ≤ n by omega)
    have F := fmtN_yes (m := m) (st := st) (by omega)
    rcases (by omega : st = 1 ∨ st = 2 ∨ st = 3 ∨ (¬ st = 1 ∧ ¬ st = 2 ∧ ¬ st = 3)) with rfl | rfl | rfl | ⟨h1, h2, h3⟩
    · have E := hide (show bs (Lib.decDigits m) = bs (fmtN m 1) by rw [F]; rfl)
      clear F
      go_enter Tryd.func14, Tryd.ntmps14
      go_wp2_with (go_at_call 20; refine (inRange_any _ _ _ _).mono ?_; rintro e w' ⟨rfl, rfl⟩)
      refine (formatInt_s m _ (by omega)).mono ?_
      rintro e u1 ⟨rfl, hb⟩
      go_wp2
      go_ret
      exact ⟨str_ret E.out, hb⟩
    · have E := hide (show bs (rom 0 m) = bs (fmtN m 2) by rw [F]; rfl)
      clear F
      go_enter Tryd.func14, Tryd.ntmps14
      go_wp2_with (go_at_call 20; refine (inRange_any _ _ _ _).mono ?_; rintro e w' ⟨rfl, rfl⟩)
      refine (roman_s m _ (by omega)).mono ?_
      rintro e u1 ⟨rfl, hb⟩
      go_wp2
      go_ret
      exact ⟨str_ret E.out, hb⟩
    · have E := hide (show bs (alp m) = bs (fmtN m 3) by rw [F]; rfl)
      clear F
      go_enter Tryd.func14, Tryd.ntmps14
      go_wp2_with (go_at_call 20; refine (inRange_any _ _ _ _).mono ?_; rintro e w' ⟨rfl, rfl⟩)
      refine (alphabetic_s m _ (by omega)).mono ?_
      rintro e u1 ⟨rfl, hb⟩
      go_wp2
      go_ret
      exact ⟨str_ret E.out, hb⟩
    · have E := hide (show bs [] = bs (fmtN m st) by rw [F, if_neg h1, if_neg h2, if_neg h3])
      have b1 : (st == 1) = false := beq_eq_false_iff_ne.2 h1
      have b2 : (st == 2) = false := beq_eq_false_iff_ne.2 h2
      have b3 : (st == 3) = false := beq_eq_false_iff_ne.2 h3
      clear F h1 h2 h3
      go_enter Tryd.func14, Tryd.ntmps14
      go_wp2_with (go_at_call 20; refine (inRange_any _ _ _ _).mono ?_; rintro e w' ⟨rfl, rfl⟩)
      go_ret
      exact ⟨str_ret E.out, bl_refl _⟩

theorem walk_FnExactFormatNumber (n st : Int) (w : World) (hn : (Lit.int .i64 n).wf = true) (hs : (Lit.int .i64 st).wf = true) (hT : LaidF w) :
    Calls Tryd.prog 5 #[.int .i64 n, .int .i64 st] w fun e w' => e = .returned (.bool true) ∧ Below w.heap.size w w' := by
  have CS := fun (u : World) => FormatNumber_s n st u
  have CI := fun (u : World) => FormatNumber_i n st u
  obtain ⟨t, ht⟩ : ∃ t, t = bs (fmtN n st) := ⟨_, rfl⟩
  rw [← ht] at CS CI
  have ty := teq_yes t
  have HCS := hide CS
  have HCI := hide CI
  have HT := hide hT
  clear CS CI ht hT
  go_enter Tryd.func5, Tryd.ntmps5
  go_wp2_with fail
  refine (HCS.out _).mono ?_
  rintro e u1 ⟨rfl, hb1⟩
  go_wp2_with fail
  refine (HCI.out _ (HT.out.below hb1)).mono ?_
  rintro e u2 ⟨rfl, hb2⟩
  go_wp2
  go_ret
  exact ⟨rfl, bl_call hb2 hb1⟩

theorem tab_datum : (Rows.laid_internal_strconv_uint64pow10 : DataW Unit) = Lib.tabData .u64 Lib.pow10Tab := by kernel_rfl
theorem laidF_of {W : World} (h : laidMetH Tryd.prog [("math/bits.deBruijn32tab", Rows.laid_math_bits_deBruijn32tab), ("math/bits.deBruijn64tab", Rows.laid_math_bits_deBruijn64tab), ("internal/strconv.uint64pow10", Rows.laid_internal_strconv_uint64pow10), ("loop.example/typesetting/impl.romanParts", Rows.laid_loop_example_typesetting_impl_romanParts)] W) : LaidF W := by
  rw [MakeChecks.laidMetH_plain _ _ _ (by kernel_rfl)] at h
  refine ⟨?_, ?_⟩
  · obtain ⟨ps, ⟨g0, t0, cs0, f0, p0, q0, _, _, _, _, ⟨g1, t1, cs1, f1, p1, q1, _, _, _, _, ⟨g2, t2, cs2, f2, p2, q2, _, _, _, _, ⟨g, t, cs, fuel, p, q, hg, ht, hv, hd, _, _⟩, _⟩, _⟩, _⟩, _, _⟩ := h
    obtain rfl := Option.some.inj ((show Tryd.prog.globalNamed "loop.example/typesetting/impl.romanParts" = some 0 by kernel_rfl).symm.trans hg)
    obtain rfl := Option.some.inj ((show (Tryd.prog.globals[0]?).map (·.type) = some 38 by kernel_rfl).symm.trans ht)
    exact romT_row hg hv hd rfl
  · have h2 := laidMet.tail (laidMet.tail h)
    rw [tab_datum] at h2
    exact Lib.tabIs_of_head (g := 1) (t := 63) (e := 57) (n := 20) (by kernel_rfl) (by kernel_rfl) Tryd.underlying63 Tryd.underlying57 (by kernel_rfl) (by kernel_rfl) h2
set_option maxRecDepth 100000 in
theorem lifted_FnExactFormatNumber (os : Os) (started : os.Started) (H : Type) (enc : TypeId × Value → H) :
    ReturnsInHanded {} Tryd.checked os 5 .any (fun w args => (Rows.fnExactFormatNumberSpec.pre enc Tryd.prog Tryd.f5 Rows.fnExactFormatNumberRow.domain false w args ∧ laidMetH Tryd.prog Rows.fnExactFormatNumberRow.laid w) ∧ sizedMet enc Tryd.prog Tryd.f5 (OpenSpec.ofChange Rows.fnExactFormatNumberSpec) false w args) (Rows.fnExactFormatNumberSpec.post enc Tryd.prog Tryd.f5 false true false false) := by
  refine returnsInHanded_of_change_and (C := Tryd.checked) (X := fun w _ => laidMetH Tryd.prog Rows.fnExactFormatNumberRow.laid w) (fun _ _ _ hh h => h.of_heap hh) own_knob started (by kernel_rfl) Tryd.func5
    (ChangeSpec.witness_shaped (enc := enc) (C := Tryd.checked) (os := os) (X := fun w _ => laidMetH Tryd.prog Rows.fnExactFormatNumberRow.laid w) false (World.laidAll Tryd.prog os Rows.fnExactFormatNumberRow.laid) #[.int .i64 0, .int .i64 0] 8 (World.laidAll_os _ _ _) (World.shaped_of_ZipB (by kernel_rfl) (by kernel_rfl)) (by kernel_rfl) (by kernel_rfl) (by kernel_rfl)
      (by rw [MakeChecks.laidMetH_plain _ _ _ (by kernel_rfl)]; exact laidMet_laidAll _ (by kernel_rfl) (by kernel_rfl))) ?_
  intro W base args ds gs before hval0 hW hcnd _ hL _
  have hval : ∀ (j : Nat) t v, Tryd.f5.params[j]? = some t → args[j]? = some v → Value.okWide Tryd.prog W .any base t v := hval0
  have hW' := hW
  obtain ⟨p, q, hA0, hV, rfl, hfz, hnd⟩ := hW
  have hA : DataW.TrodAll enc Tryd.prog W 0 (fun _ => true) true Tryd.f5.params.toList args.toList ds p := hA0
  rw [Tryd.params5] at hA hval
  obtain ⟨v0, vs0, d0, ds0, p0, q0, hargs, rfl, rfl, zh0, r0⟩ := trodAll_cons hA
  obtain ⟨v1, vs1, d1, ds1, p1, q1, rfl, rfl, rfl, zh1, r1⟩ := trodAll_cons r0
  obtain ⟨rfl, rfl, rfl⟩ := trodAll_nil r1
  obtain rfl : args = #[v0, v1] := by cases args; simp_all
  obtain ⟨g0, tg0, cg0, fg0, dg0, pg0, rfl, _, _, _, _, _⟩ := trodVars_one hV
  have zk0 := zh0
  have zl0 : ∀ x ∈ p0, x.block < W.heap.size := by obtain ⟨m, hm⟩ := zk0; exact DataW.trod_lt m _ _ _ hm
  have zk1 := zh1
  have zl1 : ∀ x ∈ p1, x.block < W.heap.size := by obtain ⟨m, hm⟩ := zk1; exact DataW.trod_lt m _ _ _ hm
  clear hA0 hval0
  obtain ⟨n, rfl, rfl, rfl, w_n⟩ := open_int Tryd.underlying3 (hval 0 3 v0 rfl rfl) zh0
  obtain ⟨st, rfl, rfl, rfl, w_st⟩ := open_int Tryd.underlying3 (hval 1 3 v1 rfl rfl) zh1
  refine (walk_FnExactFormatNumber n st W w_n w_st (laidF_of hL)).mono fun e W' ⟨he, bel⟩ => ?_
  subst he
  exact ⟨_, rfl, _, _, _, [], _, _, hW', trodAll_mk1 (shut_bool Tryd.underlying4 _), (trodAll_cons_mk (Below.trod laid_out (by kernel_rfl) (of_decide_eq_true (by kernel_rfl)) zk0 bel zl0) (trodAll_cons_mk (Below.trod laid_out (by kernel_rfl) (of_decide_eq_true (by kernel_rfl)) zk1 bel zl1) trodAll_mk0)), bel.trodVars laid_out (by kernel_rfl) hV, bel.frame _, fun h => by cases h⟩

theorem FnExactFormatNumber_holds : Rows.FnExactFormatNumberSaid :=
  OpenClaim.holds_of_wide 5 Tryd.f5 rfl rfl rfl rfl rfl rfl rfl ⟨rfl, rfl, rfl, rfl, rfl⟩ rfl rfl rfl rfl rfl (by kernel_rfl) Tryd.func5 (by kernel_rfl)
    (of_decide_eq_true (by kernel_rfl)) (by unfold Func.isWrapper; first | (rw [if_pos (by decide +kernel)]; kernel_rfl) | (rw [if_neg (by decide +kernel)]; exact ⟨rfl, rfl⟩))
    (fun os started H enc _ => lifted_FnExactFormatNumber os started H enc)
/-- The tied card. -/
theorem FnExactFormatNumber_card : Rows.FnExactFormatNumberCardSaid :=
  Claim7.holds_tied_plain_at .later [] [.data, .data, .data, .data] true (true, "30719358a91eadf108549a7b6d32bce5cdc8d7f981deaf81a05c693ddfb4d74e") false FnExactFormatNumber_holds (fun _ h => by cases h) (by kernel_rfl) (fun _ h => by cases h) fnExactFormatNumber_row_tie rfl ⟨rfl, rfl⟩ (by kernel_rfl) rfl
    (fun f fn hf hfn => by
      obtain rfl : f = 5 := Option.some.inj ((show Tryd.prog.funcNamed "loop.example/typesetting/laws.FnExactFormatNumber" = some 5 by kernel_rfl).symm.trans hf) |>.symm
      obtain rfl : fn = Tryd.f5 := (Option.some.inj (Tryd.func5.symm.trans hfn)).symm
      exact ⟨by kernel_rfl, fun j t ht => by
        rw [Tryd.params5] at ht
        have hm : t ∈ [3, 3] := by simpa using Array.mem_of_getElem? ht
        have hall : ([3, 3].all fun u => !Tryd.prog.wantsStandIn u) = true := by kernel_rfl
        exact (show Tryd.prog.wantsStandIn t = false by simpa using List.all_eq_true.1 hall t hm)⟩)
    (by kernel_rfl)
end Go.Proofs.YtonkbakoifdmiaaDoor
