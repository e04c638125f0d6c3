/- The exact laws on Roman and FromRoman hold at every input: they answer as their models do. The table of the parts reads as the program's text lays it (the tied card). -/
import Derived.Test.YtonkbakoifdmiaaDoorFrom
import Derived.Test.YtonkbakoifdmiaaDoorTie
import Derived.Test.YtonkbakoifdmiaaDoorCards
import Derived.ProofKit
import Derived.OpenShut
import Derived.ChangeVars
import Derived.LaidMore
import Derived.Lay
import Derived.OpenVars
import Derived.SevenTiedAt
import Derived.Stop.Joined
namespace Go.Proofs.YtonkbakoifdmiaaDoor
open Go.ChangeShapes Go.WideShapes Go.ChangeAt Go.RowKit
set_option linter.unusedVariables false

theorem part_of {H : Type} {enc : TypeId × Value → H} {w : World} {base : Nat} {spare : Nat → Bool} {held : Bool} {cs : List Value} {v : Int} {t : List UInt8} {m : Nat} {q : List MemPlace}
    (h : DataW.trod enc Tryd.prog w base spare held m 37 cs = some (.agg [.lit (.int .i64 v), .lit (.string t)], q)) : cs = [.int .i64 v, .string (bs t)] := by
  obtain ⟨y0, y1, n, hx, hl, h0, h1⟩ := trod_struct2 Tryd.underlying37 h
  have c2 : Tryd.prog.cellsOf 37 = 2 := by kernel_rfl
  have ci : Tryd.prog.cellsOf 3 = 1 := by kernel_rfl
  have cs1 : Tryd.prog.cellsOf 9 = 1 := by kernel_rfl
  rw [c2] at hl
  match cs, hl with
  | [a, b], _ =>
    simp only [ci, cs1] at h0 h1
    obtain ⟨z, e1, e2, _⟩ := DataW.trod_int Tryd.underlying3 h0
    obtain ⟨s, e3, e4, _⟩ := DataW.trod_string Tryd.underlying9 h1
    simp at e1 e3
    subst e1 e3
    rw [e2, e4] at hx
    simp at hx
    obtain ⟨⟨rfl, ht⟩, _⟩ := hx
    rw [bs_eq (l := t) ht.symm]
def LD {H : Type} (k : Nat) : DataW H := .agg [.lit (.int .i64 (rpV k)), .lit (.string (rpT k))]
theorem RT_even {k : Nat} (h : k < 13) : RT[k * 2]? = some (.int .i64 (rpV k)) ∧ RT[k * 2 + 1]? = some (.string (bs (rpT k))) :=
  match k, h with
  | 0, _ => ⟨rfl, rfl⟩ | 1, _ => ⟨rfl, rfl⟩ | 2, _ => ⟨rfl, rfl⟩ | 3, _ => ⟨rfl, rfl⟩ | 4, _ => ⟨rfl, rfl⟩ | 5, _ => ⟨rfl, rfl⟩ | 6, _ => ⟨rfl, rfl⟩
  | 7, _ => ⟨rfl, rfl⟩ | 8, _ => ⟨rfl, rfl⟩ | 9, _ => ⟨rfl, rfl⟩ | 10, _ => ⟨rfl, rfl⟩ | 11, _ => ⟨rfl, rfl⟩ | 12, _ => ⟨rfl, rfl⟩
theorem romT_row {W : World} {cs : Array Value} {H : Type} {enc : TypeId × Value → H} {base : Nat} {spare : Nat → Bool} {held : Bool} {fuel : Nat} {x : DataW H × List MemPlace}
    (hg : Tryd.prog.globalNamed "loop.example/typesetting/impl.romanParts" = some 0) (hv : W.var? Tryd.prog "loop.example/typesetting/impl.romanParts" = some cs)
    (hd : DataW.trod enc Tryd.prog W base spare held fuel 38 cs.toList = some x) (hx : x.1 = Rows.laid_loop_example_typesetting_impl_romanParts) : RomT W := by
  obtain ⟨xs, m, _, ex, _, hl, hel⟩ := DataW.trod_array Tryd.underlying38 hd
  have c2 : Tryd.prog.cellsOf 37 = 2 := by kernel_rfl
  have e3 : xs.map (·.1) = (List.range 13).map LD := by
    rw [ex] at hx
    exact (DataW.agg.inj hx)
  have row : ∀ k, k < 13 → (cs.toList.drop (k * 2)).take 2 = [.int .i64 (rpV k), .string (bs (rpT k))] := by
    intro k hk
    have hE := hel k hk
    rw [c2] at hE
    have e4 : (xs.map (·.1))[k]? = some (LD k) := by rw [e3]; simp [hk]
    rw [List.getElem?_map, Option.map_eq_some_iff] at e4
    obtain ⟨⟨d, pl⟩, h1, h2⟩ := e4
    rw [h1] at hE
    simp only at h2
    subst h2
    exact part_of hE
  intro j v hj
  have hj26 : j < 26 := (List.getElem?_eq_some_iff.1 hj).1
  rw [Nat.zero_add, World.var?_cell hg hv j]
  obtain ⟨k, hk, hjk⟩ : ∃ k, k < 13 ∧ (j = k * 2 ∨ j = k * 2 + 1) := ⟨j / 2, by omega, by omega⟩
  obtain ⟨r0, r1⟩ := RT_even hk
  have r := row k hk
  rcases hjk with rfl | rfl
  · rw [r0] at hj
    rw [← hj]
    have := congrArg (fun l : List Value => l[0]?) r
    simpa using this
  · rw [r1] at hj
    rw [← hj]
    have := congrArg (fun l : List Value => l[1]?) r
    simpa using this
theorem romT_of {W : World} (h : laidMetH Tryd.prog [("loop.example/typesetting/impl.romanParts", Rows.laid_loop_example_typesetting_impl_romanParts)] W) : RomT W := by
  rw [MakeChecks.laidMetH_plain _ _ _ (by kernel_rfl)] at h
  obtain ⟨ps, ⟨g, t, cs, fuel, p, q, hg, ht, hv, hd, _, _⟩, _, _⟩ := h
  obtain rfl := Option.some.inj ((show Tryd.prog.globalNamed "loop.example/typesetting/impl.romanParts" = some 0 by kernel_rfl).symm.trans hg)
  obtain rfl := Option.some.inj ((show (Tryd.prog.globals[0]?).map (·.type) = some 38 by kernel_rfl).symm.trans ht)
  exact romT_row hg hv hd rfl

theorem romN_len (n : Int) : (bs (romN n)).size ≤ 3999 := by
  rw [bs_size]
  unfold romN
  split
  · have := rom_len (k := 0) (n := n.toNat) (by omega)
    omega
  · simp

theorem walk_FnExactRoman (n : Int) (w : World) (hn : (Lit.int .i64 n).wf = true) (hT : RomT w) :
    Calls Tryd.prog 3 #[.int .i64 n] w fun e w' => e = .returned (.bool true) ∧ Below w.heap.size w w' := by
  have CS := fun (u : World) => Roman_s n u
  have CI := fun (u : World) => Roman_i n u
  obtain ⟨t, ht⟩ : ∃ t, t = bs (romN n) := ⟨_, rfl⟩
  rw [← ht] at CS CI
  have ty := teq_yes t
  have HCS := hide CS
  have HCI := hide CI
  have HT := hide hT
  clear CS CI ht hT
  go_enter Tryd.func3, Tryd.ntmps3
  go_wp2_with fail
  refine (HCS.out _).mono ?_
  rintro e u1 ⟨rfl, hb1⟩
  go_wp2_with fail
  refine (HCI.out _ (HT.out.below hb1)).mono ?_
  rintro e u2 ⟨rfl, hb2⟩
  go_wp2
  go_ret
  exact ⟨rfl, bl_call hb2 hb1⟩
set_option maxRecDepth 100000 in
theorem lifted_FnExactRoman (os : Os) (started : os.Started) (H : Type) (enc : TypeId × Value → H) :
    ReturnsInHanded {} Tryd.checked os 3 .any (fun w args => (Rows.fnExactRomanSpec.pre enc Tryd.prog Tryd.f3 Rows.fnExactRomanRow.domain false w args ∧ laidMetH Tryd.prog Rows.fnExactRomanRow.laid w) ∧ sizedMet enc Tryd.prog Tryd.f3 (OpenSpec.ofChange Rows.fnExactRomanSpec) false w args) (Rows.fnExactRomanSpec.post enc Tryd.prog Tryd.f3 false true false false) := by
  refine returnsInHanded_of_change_and (C := Tryd.checked) (X := fun w _ => laidMetH Tryd.prog Rows.fnExactRomanRow.laid w) (fun _ _ _ hh h => h.of_heap hh) own_knob started (by kernel_rfl) Tryd.func3
    (ChangeSpec.witness_shaped (enc := enc) (C := Tryd.checked) (os := os) (X := fun w _ => laidMetH Tryd.prog Rows.fnExactRomanRow.laid w) false (World.laidAll Tryd.prog os Rows.fnExactRomanRow.laid) #[.int .i64 0] 8 (World.laidAll_os _ _ _) (World.shaped_of_ZipB (by kernel_rfl) (by kernel_rfl)) (by kernel_rfl) (by kernel_rfl) (by kernel_rfl)
      (by rw [MakeChecks.laidMetH_plain _ _ _ (by kernel_rfl)]; exact laidMet_laidAll _ (by kernel_rfl) (by kernel_rfl))) ?_
  intro W base args ds gs before hval0 hW hcnd _ hL _
  have hval : ∀ (j : Nat) t v, Tryd.f3.params[j]? = some t → args[j]? = some v → Value.okWide Tryd.prog W .any base t v := hval0
  have hW' := hW
  obtain ⟨p, q, hA0, hV, rfl, hfz, hnd⟩ := hW
  have hA : DataW.TrodAll enc Tryd.prog W 0 (fun _ => true) true Tryd.f3.params.toList args.toList ds p := hA0
  rw [Tryd.params3] at hA hval
  obtain ⟨v0, vs0, d0, ds0, p0, q0, hargs, rfl, rfl, zh0, r0⟩ := trodAll_cons hA
  obtain ⟨rfl, rfl, rfl⟩ := trodAll_nil r0
  obtain rfl : args = #[v0] := by cases args; simp_all
  obtain ⟨g0, tg0, cg0, fg0, dg0, pg0, rfl, _, _, _, _, _⟩ := trodVars_one hV
  have zk0 := zh0
  have zl0 : ∀ x ∈ p0, x.block < W.heap.size := by obtain ⟨m, hm⟩ := zk0; exact DataW.trod_lt m _ _ _ hm
  clear hA0 hval0
  obtain ⟨n, rfl, rfl, rfl, w_n⟩ := open_int Tryd.underlying3 (hval 0 3 v0 rfl rfl) zh0
  refine (walk_FnExactRoman n W w_n (romT_of hL)).mono fun e W' ⟨he, bel⟩ => ?_
  subst he
  exact ⟨_, rfl, _, _, _, [], _, _, hW', trodAll_mk1 (shut_bool Tryd.underlying4 _), (trodAll_cons_mk (Below.trod laid_out (by kernel_rfl) (of_decide_eq_true (by kernel_rfl)) zk0 bel zl0) trodAll_mk0), bel.trodVars laid_out (by kernel_rfl) hV, bel.frame _, fun h => by cases h⟩

theorem FnExactRoman_holds : Rows.FnExactRomanSaid :=
  OpenClaim.holds_of_wide 3 Tryd.f3 rfl rfl rfl rfl rfl rfl rfl ⟨rfl, rfl, rfl, rfl, rfl⟩ rfl rfl rfl rfl rfl (by kernel_rfl) Tryd.func3 (by kernel_rfl)
    (of_decide_eq_true (by kernel_rfl)) (by unfold Func.isWrapper; first | (rw [if_pos (by decide +kernel)]; kernel_rfl) | (rw [if_neg (by decide +kernel)]; exact ⟨rfl, rfl⟩))
    (fun os started H enc _ => lifted_FnExactRoman os started H enc)
/-- The tied card. -/
theorem FnExactRoman_card : Rows.FnExactRomanCardSaid :=
  Claim7.holds_tied_plain_at .later [] [.data] true (true, "30719358a91eadf108549a7b6d32bce5cdc8d7f981deaf81a05c693ddfb4d74e") false FnExactRoman_holds (fun _ h => by cases h) (by kernel_rfl) (fun _ h => by cases h) fnExactRoman_row_tie rfl ⟨rfl, rfl⟩ (by kernel_rfl) rfl
    (fun f fn hf hfn => by
      obtain rfl : f = 3 := Option.some.inj ((show Tryd.prog.funcNamed "loop.example/typesetting/laws.FnExactRoman" = some 3 by kernel_rfl).symm.trans hf) |>.symm
      obtain rfl : fn = Tryd.f3 := (Option.some.inj (Tryd.func3.symm.trans hfn)).symm
      exact ⟨by kernel_rfl, fun j t ht => by
        rw [Tryd.params3] at ht
        have hm : t ∈ [3] := by simpa using Array.mem_of_getElem? ht
        have hall : ([3].all fun u => !Tryd.prog.wantsStandIn u) = true := by kernel_rfl
        exact (show Tryd.prog.wantsStandIn t = false by simpa using List.all_eq_true.1 hall t hm)⟩)
    (by kernel_rfl)

theorem walk_FnExactFromRoman (s : ByteArray) (w : World) (hs : s.size ≤ maxLen) (hT : RomT w) :
    Calls Tryd.prog 4 #[.string s] w fun e w' => e = .returned (.bool true) ∧ Below w.heap.size w w' := by
  unfold maxLen at hs
  rcases (by omega : 1048576 < s.size ∨ s.size ≤ 1048576) with hb0 | hb0
  · go_enter Tryd.func4, Tryd.ntmps4
    go_wp2
    go_ret
    exact ⟨rfl, bl_refl _⟩
  · have CS := fun (u : World) => FromRoman_s s u hb0
    have CI := fun (u : World) => FromRoman_i s u hb0
    obtain ⟨z, b⟩ := fr s.data.toList
    have HCS := hide CS
    have HCI := hide CI
    have HT := hide hT
    have ez : (z == z) = true := by simp
    clear CS CI hT
    go_enter Tryd.func4, Tryd.ntmps4
    go_wp2_with fail
    refine (HCS.out _).mono ?_
    rintro e u1 ⟨rfl, hb1⟩
    go_wp2_with fail
    refine (HCI.out _ (HT.out.below hb1)).mono ?_
    rintro e u2 ⟨rfl, hb2⟩
    cases b
    all_goals
      go_wp2
      go_ret
      exact ⟨rfl, bl_call hb2 hb1⟩
set_option maxRecDepth 100000 in
theorem lifted_FnExactFromRoman (os : Os) (started : os.Started) (H : Type) (enc : TypeId × Value → H) :
    ReturnsInHanded {} Tryd.checked os 4 .any (fun w args => (Rows.fnExactFromRomanSpec.pre enc Tryd.prog Tryd.f4 Rows.fnExactFromRomanRow.domain false w args ∧ laidMetH Tryd.prog Rows.fnExactFromRomanRow.laid w) ∧ sizedMet enc Tryd.prog Tryd.f4 (OpenSpec.ofChange Rows.fnExactFromRomanSpec) false w args) (Rows.fnExactFromRomanSpec.post enc Tryd.prog Tryd.f4 false true false false) := by
  refine returnsInHanded_of_change_and (C := Tryd.checked) (X := fun w _ => laidMetH Tryd.prog Rows.fnExactFromRomanRow.laid w) (fun _ _ _ hh h => h.of_heap hh) own_knob started (by kernel_rfl) Tryd.func4
    (ChangeSpec.witness_shaped (enc := enc) (C := Tryd.checked) (os := os) (X := fun w _ => laidMetH Tryd.prog Rows.fnExactFromRomanRow.laid w) false (World.laidAll Tryd.prog os Rows.fnExactFromRomanRow.laid) #[.string ByteArray.empty] 8 (World.laidAll_os _ _ _) (World.shaped_of_ZipB (by kernel_rfl) (by kernel_rfl)) (by kernel_rfl) (by kernel_rfl) (by kernel_rfl)
      (by rw [MakeChecks.laidMetH_plain _ _ _ (by kernel_rfl)]; exact laidMet_laidAll _ (by kernel_rfl) (by kernel_rfl))) ?_
  intro W base args ds gs before hval0 hW hcnd _ hL _
  have hval : ∀ (j : Nat) t v, Tryd.f4.params[j]? = some t → args[j]? = some v → Value.okWide Tryd.prog W .any base t v := hval0
  have hW' := hW
  obtain ⟨p, q, hA0, hV, rfl, hfz, hnd⟩ := hW
  have hA : DataW.TrodAll enc Tryd.prog W 0 (fun _ => true) true Tryd.f4.params.toList args.toList ds p := hA0
  rw [Tryd.params4] at hA hval
  obtain ⟨v0, vs0, d0, ds0, p0, q0, hargs, rfl, rfl, zh0, r0⟩ := trodAll_cons hA
  obtain ⟨rfl, rfl, rfl⟩ := trodAll_nil r0
  obtain rfl : args = #[v0] := by cases args; simp_all
  obtain ⟨g0, tg0, cg0, fg0, dg0, pg0, rfl, _, _, _, _, _⟩ := trodVars_one hV
  have zk0 := zh0
  have zl0 : ∀ x ∈ p0, x.block < W.heap.size := by obtain ⟨m, hm⟩ := zk0; exact DataW.trod_lt m _ _ _ hm
  clear hA0 hval0
  obtain ⟨s, rfl, rfl, rfl, w_s⟩ := Go.ChangeMaps.open_string Tryd.underlying9 (hval 0 9 v0 rfl rfl) zh0
  refine (walk_FnExactFromRoman s W w_s (romT_of hL)).mono fun e W' ⟨he, bel⟩ => ?_
  subst he
  exact ⟨_, rfl, _, _, _, [], _, _, hW', trodAll_mk1 (shut_bool Tryd.underlying4 _), (trodAll_cons_mk (Below.trod laid_out (by kernel_rfl) (of_decide_eq_true (by kernel_rfl)) zk0 bel zl0) trodAll_mk0), bel.trodVars laid_out (by kernel_rfl) hV, bel.frame _, fun h => by cases h⟩

theorem FnExactFromRoman_holds : Rows.FnExactFromRomanSaid :=
  OpenClaim.holds_of_wide 4 Tryd.f4 rfl rfl rfl rfl rfl rfl rfl ⟨rfl, rfl, rfl, rfl, rfl⟩ rfl rfl rfl rfl rfl (by kernel_rfl) Tryd.func4 (by kernel_rfl)
    (of_decide_eq_true (by kernel_rfl)) (by unfold Func.isWrapper; first | (rw [if_pos (by decide +kernel)]; kernel_rfl) | (rw [if_neg (by decide +kernel)]; exact ⟨rfl, rfl⟩))
    (fun os started H enc _ => lifted_FnExactFromRoman os started H enc)
/-- The tied card. -/
theorem FnExactFromRoman_card : Rows.FnExactFromRomanCardSaid :=
  Claim7.holds_tied_plain_at .later [] [.data] true (true, "30719358a91eadf108549a7b6d32bce5cdc8d7f981deaf81a05c693ddfb4d74e") false FnExactFromRoman_holds (fun _ h => by cases h) (by kernel_rfl) (fun _ h => by cases h) fnExactFromRoman_row_tie rfl ⟨rfl, rfl⟩ (by kernel_rfl) rfl
    (fun f fn hf hfn => by
      obtain rfl : f = 4 := Option.some.inj ((show Tryd.prog.funcNamed "loop.example/typesetting/laws.FnExactFromRoman" = some 4 by kernel_rfl).symm.trans hf) |>.symm
      obtain rfl : fn = Tryd.f4 := (Option.some.inj (Tryd.func4.symm.trans hfn)).symm
      exact ⟨by kernel_rfl, fun j t ht => by
        rw [Tryd.params4] at ht
        have hm : t ∈ [9] := by simpa using Array.mem_of_getElem? ht
        have hall : ([9].all fun u => !Tryd.prog.wantsStandIn u) = true := by kernel_rfl
        exact (show Tryd.prog.wantsStandIn t = false by simpa using List.all_eq_true.1 hall t hm)⟩)
    (by kernel_rfl)
end Go.Proofs.YtonkbakoifdmiaaDoor
