/- The laws on the first change hold for every code: lines before it are equal and have common items. No condition. -/
import Derived.Test.YtlkfpcajpdohiaaSa
import Derived.Test.YtlkfpcajpdohiaaItP
import Derived.Test.YtlkfpcajpdohiaaDrawI
import Derived.Test.YtlkfpcajpdohiaaFc
import Derived.Test.YtlkfpcajpdohiaaSb
import Derived.Deep.RegionHeld3
import Derived.Deep.CutRange
namespace Go.Proofs.Ytlkfpcajpdohiaa
open Go.ChangeShapes Go.WideShapes Go.ChangeAt Go.RowKit
set_option linter.unusedVariables false
set_option linter.unusedSimpArgs false
open Classical

set_option maxHeartbeats 1000000 in
theorem DrawFirstChange_any (w : World) (a : Option Addr) (n c : Nat) (zs : List Int) (h : IsRow .u8 w a n c zs) :
    Calls Try.prog 19 #[.slice a n c] w fun e w' => ∃ (A : Option Addr) (c : Nat) (L : List It) (A2 : Option Addr) (c2 : Nat) (M : List It) (d : Int), e = .returned (.tuple #[.slice A L.length c, .slice A2 M.length c2, .int .i64 d]) ∧ TO w' 67 w.heap.size A c L ∧ TO w' 67 w.heap.size A2 c2 M ∧ L.length ≤ 23 ∧ M.length ≤ 23 ∧ (0 ≤ d ∧ d ≤ 10001) ∧ Below w.heap.size w w' := by
  go_enter Try.func19, Try.ntmps19
  go_wp2_with fail
  (with_reducible refine (DrawCommonItems_any _ _ _ _ _ h).mono ?_)
  rintro e u0 ⟨A, c1, L, A2, c2, M, rfl, ho1, ho2, hl1, hl2, hb⟩
  have HR := hide (IsRow.below h hb)
  have L1 := hide (fun k h => (TO.own_lt ho1 k h).2)
  have L2 := hide (fun k h => (TO.own_lt ho2 k h).2)
  have H1 := hide ho1
  have H2 := hide ho2
  have HB := hide hb
  have HB0 := HB
  clear h ho1 ho2 hb
  go_wp2_with fail
  (with_reducible refine (newReader_any _ _ _ _ _ HR.out).mono ?_)
  rintro e u1 ⟨rfl, hrd, hb1⟩
  have H1 := hide (H1.out.below hb1)
  have H2 := hide (H2.out.below hb1)
  have HB := hide (bl_call hb1 HB.out)
  have hz1 := hb1.size
  have HB1 := hide hb1
  clear hb1
  go_wp2_with fail
  (with_reducible refine (someWidth_any _ _ _ _ hrd (by omega)).mono ?_)
  rintro e u2 ⟨d, hd, rfl, hrd2, hon2⟩
  have H1 := hide (H1.out.kept hon2 (fun k hk e => by have := L1.out k hk; injection e with e; omega))
  have H2 := hide (H2.out.kept hon2 (fun k hk e => by have := L2.out k hk; injection e with e; omega))
  have HB2 := hide (bl_call (on_new (on_call hon2 (on_below HB1.out (on_refl u0 (some u0.heap.size)))) (Nat.le_refl _)) HB0.out)
  go_wp2
  refine bodyPost_ret (v := .tuple #[.slice A L.length c1, .slice A2 M.length c2, .int .i64 d]) (by simp [results, Try.results19, go_sem]) rfl ?_
  exact ⟨A, c1, L, A2, c2, M, d, rfl, H1.out, H2.out, hl1, hl2, hd, HB2.out⟩
set_option maxRecDepth 8000 in
set_option maxHeartbeats 4000000 in
theorem walk_FnFirstChange (a : Option Addr) (n c : Nat) (zs : List Int) (w : World) (hr : IsRow .u8 w a n c zs) :
    Calls Try.prog 4 #[.slice a n c] w fun e w' => e = .returned (.bool true) ∧ Below w.heap.size w w' := by
  have hm := small_rowi hr; unfold maxLen at hm; (rcases (by omega : 1048576 < n ∨ n ≤ 1048576) with hn | hn); (next => (go_enter Try.func4, Try.ntmps4; go_wp2; go_ret; exact ⟨rfl, bl_refl _⟩)); go_enter Try.func4, Try.ntmps4; go_wp2_with fail; (with_reducible refine (DrawFirstChange_any _ _ _ _ _ hr).mono ?_); rintro e u0 ⟨A, c1, L, A2, c2, M, d, rfl, hol, hol2, hll, hll2, hd, hb⟩; clear hr; have R1 := hide hol.reads; have R2 := hide hol2.reads; have HB := hide hb; clear hol hol2 hb; have CI := fun (V : World) (h1 : TL V A L.length L) (h2 : TL V A2 M.length M) => FirstChange_i V A A2 L.length M.length c1 c2 L M d h1 (by omega) h2 (by omega); have CS := fun (V : World) (h1 : TL V A L.length L) (h2 : TL V A2 M.length M) => FirstChange_s V A A2 L.length M.length c1 c2 L M d h1 (by omega) h2 (by omega)
  have LAW := hide (fun h => fcO_law (L := L) (M := M) (d := d) h)
  rcases (by omega : fcO L M d < 0 ∨ 0 ≤ fcO L M d) with h0 | h0
  · obtain ⟨z, hz⟩ : ∃ z, z = fcO L M d := ⟨_, rfl⟩
    rw [← hz] at CI CS h0
    have HCI := hide CI
    have HCS := hide CS
    clear CI CS hz LAW
    go_wp2_with fail; (with_reducible refine (HCI.out _ R1.out R2.out).mono ?_); rintro e u1 ⟨rfl, hb1⟩; have B1 := hide (bl_call hb1 HB.out); have S1 := hide (R1.out.below hb1); have S2 := hide (R2.out.below hb1); clear hb1; go_wp2_with fail; (with_reducible refine (HCS.out _ S1.out S2.out).mono ?_); rintro e u2 ⟨rfl, hb2⟩; have B2 := hide (bl_call hb2 B1.out); have T1 := hide (S1.out.below hb2); have T2 := hide (S2.out.below hb2); clear hb2 B1 S1 S2
    go_wp2_with fail
    (with_reducible refine (HCS.out _ T1.out T2.out).mono ?_)
    rintro e u3 ⟨rfl, hb3⟩
    go_wp2
    go_ret
    exact ⟨rfl, bl_call hb3 B2.out⟩
  · obtain ⟨h1, h2, h3, k, hk, hk1, hk2, hk3, _⟩ := LAW.out h0
    have xp := (ffO_valid (L := L) (d := d) (by rw [h1, h3]; rfl)).2.1
    have yp := (ffO_valid (L := M) (d := d) (by rw [h2, h3]; rfl)).2.1
    have xl := ffO_len (L := L) (d := d)
    have yl := ffO_len (L := M) (d := d)
    have CA := fun (V : World) (h1 : TL V A L.length L) => FirstChange_i V A A L.length L.length c1 c1 L L d h1 (by omega) h1 (by omega)
    rw [fcO_self h1 h3] at CA
    rw [hk] at CI CS
    have FA := fun (u : World) (hu : TL u A L.length L) => FirstFit_i u A L.length c1 L d hu (by omega)
    have FB := fun (u : World) (hu : TL u A2 M.length M) => FirstFit_i u A2 M.length c2 M d hu (by omega)
    unfold RetL at FA FB
    obtain ⟨X, hX⟩ : ∃ X, X = ffO L d := ⟨_, rfl⟩
    obtain ⟨Y, hY⟩ : ∃ Y, Y = ffO M d := ⟨_, rfl⟩
    rw [← hX] at FA CA xp xl hk1 hk3
    rw [← hY] at FB yp yl hk2 hk3
    have HCI := hide CI
    have HCS := hide CS
    have HCA := hide CA
    have HFA := hide FA
    have HFB := hide FB
    have HTK := hide hk3
    have kn : ¬ ((k : Int) < 0) := by omega
    clear CI CS CA FA FB hX hY LAW h1 h2 h3 h0 hk hk3
    go_wp2_with fail; (with_reducible refine (HCI.out _ R1.out R2.out).mono ?_); rintro e u1 ⟨rfl, hb1⟩; have B1 := hide (bl_call hb1 HB.out); have S1 := hide (R1.out.below hb1); have S2 := hide (R2.out.below hb1); clear hb1; go_wp2_with fail; (with_reducible refine (HCS.out _ S1.out S2.out).mono ?_); rintro e u2 ⟨rfl, hb2⟩; have B2 := hide (bl_call hb2 B1.out); have T1 := hide (S1.out.below hb2); have T2 := hide (S2.out.below hb2); clear hb2 B1 S1 S2
    go_wp2_with fail
    (with_reducible refine (HFA.out _ T1.out).mono ?_)
    rintro e u3 ⟨A3, c3, rfl, ho3, hb3⟩
    have B3 := hide (bl_call hb3 B2.out)
    have U1 := hide (T1.out.below hb3)
    have U2 := hide (T2.out.below hb3)
    have HO3 := hide ho3
    clear hb3 ho3
    go_wp2_with fail
    (with_reducible refine (HFB.out _ U2.out).mono ?_)
    rintro e u4 ⟨A4, c4, rfl, ho4, hb4⟩
    have B4 := hide (bl_call hb4 B3.out)
    have V1 := hide (U1.out.below hb4)
    have HO3 := hide (HO3.out.below hb4)
    have HO4 := hide ho4
    clear hb4 ho4
    obtain ⟨g3, rfl, _, _, hcap3, _⟩ := own_form HO3.out xp
    obtain ⟨g4, rfl, _, _, hcap4, _⟩ := own_form HO4.out yp
    have I3 := hide (HO3.out.reads.takeF (k := k) hk1)
    have I4 := hide (show IL u4 (some ⟨g4, 0, none⟩) k (X.take k) by rw [HTK.out]; exact HO4.out.reads.takeF (k := k) hk2)
    have tl : (X.take k).length = k := by simp; omega
    have EQ := hide (fun (u : World) (h1 : IL u (some ⟨g3, 0, none⟩) k (X.take k)) (h2 : IL u (some ⟨g4, 0, none⟩) k (X.take k)) => eqInts_l u (some ⟨g3, 0, none⟩) (some ⟨g4, 0, none⟩) k k c3 c4 (X.take k) (X.take k) h1 h2 (by omega) (by omega))
    have k1 : (k : Int) ≤ (X.length : Int) := by omega
    have k2 : (k : Int) ≤ (Y.length : Int) := by omega
    have k3 : k ≤ c3 := by omega
    have k4 : k ≤ c4 := by omega
    have k5 : (k : Int) ≤ (c3 : Int) := by omega
    have k6 : (k : Int) ≤ (c4 : Int) := by omega
    have k7 : ¬ c3 = 0 := by omega
    have n1 : ¬ X.length < k := by omega
    have n2 : ¬ Y.length < k := by omega
    have n3 : ¬ (X.length : Int) < (k : Int) := by omega
    have n4 : ¬ (Y.length : Int) < (k : Int) := by omega
    have k8 : ¬ c4 = 0 := by omega
    have d1 : decide ((k : Int) ≤ (X.length : Int)) = true := decide_eq_true k1
    have d2 : decide ((k : Int) ≤ (Y.length : Int)) = true := decide_eq_true k2
    have d3 : decide (k ≤ X.length) = true := decide_eq_true hk1
    have d4 : decide (k ≤ Y.length) = true := decide_eq_true hk2
    clear tl HFA HFB HCI HCS HB R1 R2 T1 T2 U1 U2 B2 B3 HO3 HO4 HTK
    go_upto_region 9 with fail
    have S0 := bl_drew (bl_refl u4)
    refine wp_region_held_drew (S := fun u : World => Below u4.heap.size u4 u) (by kernel_rfl) (S0) (fun hHeld => ?_)
    (first | refine tky 0 (h := ?_) | refine tkn 0 (h := ?_)); (try simp only [Act.put, tkd, tke, tkf])
    (first | refine tky 1 (h := ?_) | refine tkn 1 (h := ?_)); (try simp only [Act.put, tkd, tke, tkf])
    (first | refine tky 2 (h := ?_) | refine tkn 2 (h := ?_)); (try simp only [Act.put, tkd, tke, tkf])
    (first | refine tky 3 (h := ?_) | refine tkn 3 (h := ?_)); (try simp only [Act.put, tkd, tke, tkf])
    (first | refine tky 4 (h := ?_) | refine tkn 4 (h := ?_)); (try simp only [Act.put, tkd, tke, tkf])
    (first | refine tky 5 (h := ?_) | refine tkn 5 (h := ?_)); (try simp only [Act.put, tkd, tke, tkf])
    (first | refine tky 6 (h := ?_) | refine tkn 6 (h := ?_)); (try simp only [Act.put, tkd, tke, tkf])
    (first | refine tky 7 (h := ?_) | refine tkn 7 (h := ?_)); (try simp only [Act.put, tkd, tke, tkf])
    (first | refine tky 8 (h := ?_) | refine tkn 8 (h := ?_)); (try simp only [Act.put, tkd, tke, tkf])
    (first | refine tky 9 (h := ?_) | refine tkn 9 (h := ?_)); (try simp only [Act.put, tkd, tke, tkf])
    (first | refine tky 10 (h := ?_) | refine tkn 10 (h := ?_)); (try simp only [Act.put, tkd, tke, tkf])
    (first | refine tky 11 (h := ?_) | refine tkn 11 (h := ?_)); (try simp only [Act.put, tkd, tke, tkf])
    (first | refine tky 12 (h := ?_) | refine tkn 12 (h := ?_)); (try simp only [Act.put, tkd, tke, tkf])
    (first | refine tky 13 (h := ?_) | refine tkn 13 (h := ?_)); (try simp only [Act.put, tkd, tke, tkf])
    (first | refine tky 14 (h := ?_) | refine tkn 14 (h := ?_)); (try simp only [Act.put, tkd, tke, tkf])
    (first | refine tky 15 (h := ?_) | refine tkn 15 (h := ?_)); (try simp only [Act.put, tkd, tke, tkf])
    (first | refine tky 16 (h := ?_) | refine tkn 16 (h := ?_)); (try simp only [Act.put, tkd, tke, tkf])
    (first | refine tky 17 (h := ?_) | refine tkn 17 (h := ?_)); (try simp only [Act.put, tkd, tke, tkf])
    (first | refine tky 18 (h := ?_) | refine tkn 18 (h := ?_)); (try simp only [Act.put, tkd, tke, tkf])
    (first | refine tky 19 (h := ?_) | refine tkn 19 (h := ?_)); (try simp only [Act.put, tkd, tke, tkf])
    (first | refine tky 20 (h := ?_) | refine tkn 20 (h := ?_)); (try simp only [Act.put, tkd, tke, tkf])
    (first | refine tky 21 (h := ?_) | refine tkn 21 (h := ?_)); (try simp only [Act.put, tkd, tke, tkf])
    (first | refine tky 22 (h := ?_) | refine tkn 22 (h := ?_)); (try simp only [Act.put, tkd, tke, tkf])
    refine wpAnyH_ready (rs := [23]) (by kernel_rfl) (by simp) ?_; refine AllReadyH.cons (o := ?_) ?_ (fun K hK => ?_) AllReadyH.nil; rotate_left 1; (next => simp only [List.getElem?_toArray, List.getElem?_cons_succ, List.getElem?_cons_zero]; rfl); go_simp
    go_at_call 21
    (with_reducible refine (EQ.out _ (I3.out.below (by repeat' (first | exact bl_refl _ | refine bl_drew ?_ | refine bl_drewN ?_ _))) (I4.out.below (by repeat' (first | exact bl_refl _ | refine bl_drew ?_ | refine bl_drewN ?_ _)))).mono ?_)
    rintro e w' ⟨rfl, j, rfl⟩
    simp only [decide_true]
    (try go_wp2_with fail); refine hK.out _ _ ((by repeat' (first | exact bl_refl _ | refine bl_drew ?_ | refine bl_drewN ?_ _))) (fun hHeld => ?_); clear hK K; (try simp only [Act.put, List.setIfInBounds_toArray, List.set_cons_zero, List.set_cons_succ])
    (first | refine tky 24 (h := ?_) | refine tkn 24 (h := ?_)); (try simp only [Act.put, tkd, tke, tkf])
    (first | refine tky 25 (h := ?_) | refine tkn 25 (h := ?_)); (try simp only [Act.put, tkd, tke, tkf])
    (first | refine tky 26 (h := ?_) | refine tkn 26 (h := ?_)); (try simp only [Act.put, tkd, tke, tkf])
    (first | refine tky 27 (h := ?_) | refine tkn 27 (h := ?_)); (try simp only [Act.put, tkd, tke, tkf])
    (first | refine tky 28 (h := ?_) | refine tkn 28 (h := ?_)); (try simp only [Act.put, tkd, tke, tkf])
    (first | refine tky 30 (h := ?_) | refine tkn 30 (h := ?_)); (try simp only [Act.put, tkd, tke, tkf])
    (first | refine tky 31 (h := ?_) | refine tkn 31 (h := ?_)); (try simp only [Act.put, tkd, tke, tkf])
    refine wpAnyH_ready (rs := [29]) (by kernel_rfl) (by simp) ?_; refine AllReadyH.cons (o := ?_) ?_ (fun K hK => ?_) AllReadyH.nil; rotate_left 1; (next => simp only [List.getElem?_toArray, List.getElem?_cons_succ, List.getElem?_cons_zero]; rfl); go_simp
    go_at_call 17
    (with_reducible refine (HCA.out _ (V1.out.below (by repeat' (first | exact bl_refl _ | refine bl_drew ?_ | refine bl_drewN ?_ _)))).mono ?_)
    rintro e u5 ⟨rfl, hb5⟩
    have B5 := hide (bl_call hb5 (show Below u4.heap.size u4 _ from (by repeat' (first | exact bl_refl _ | refine bl_drew ?_ | refine bl_drewN ?_ _))))
    clear hb5
    (try go_wp2_with fail); refine hK.out _ _ (B5.out) (fun hHeld => ?_); clear hK K; (try simp only [Act.put, List.setIfInBounds_toArray, List.set_cons_zero, List.set_cons_succ])
    (first | refine tky 32 (h := ?_) | refine tkn 32 (h := ?_)); (try simp only [Act.put, tkd, tke, tkf])
    (first | refine tky 33 (h := ?_) | refine tkn 33 (h := ?_)); (try simp only [Act.put, tkd, tke, tkf])
    (first | refine tky 34 (h := ?_) | refine tkn 34 (h := ?_)); (try simp only [Act.put, tkd, tke, tkf])
    refine wpAnyH_done (by kernel_rfl) ?_ _
    go_wp2
    go_ret
    exact ⟨rfl, bl_call B5.out B4.out⟩
set_option maxRecDepth 100000 in
theorem lifted_FnFirstChange (os : Os) (started : os.Started) (H : Type) (enc : TypeId × Value → H) :
    ReturnsInHanded {} Try.checked os 4 .any (Rows.fnFirstChangeSpec.pre6 enc Try.prog Try.f4 Rows.fnFirstChangeRow.domain false) (Rows.fnFirstChangeSpec.post enc Try.prog Try.f4 false true false false) := by
  refine returnsInHanded_of_change (C := Try.checked) own_knob started (by kernel_rfl) Try.func4
    (ChangeSpec.witness6 (enc := enc) (C := Try.checked) false ⟨#[], #[.slice none 0 0], []⟩ 8 (by kernel_rfl) (by kernel_rfl) (by kernel_rfl) (by kernel_rfl)) ?_
  intro W base args ds gs before hval0 hW hcnd _
  have hval : ∀ (j : Nat) t v, Try.f4.params[j]? = some t → args[j]? = some v → Value.okWide Try.prog W .any base t v := hval0
  have hW' := hW
  obtain ⟨p, q, hA0, hV, rfl, hfz, hnd⟩ := hW
  have hA : DataW.TrodAll enc Try.prog W 0 (fun _ => true) true Try.f4.params.toList args.toList ds p := hA0
  rw [Try.params4] at hA hval
  obtain ⟨v0, vs0, d0, ds0, p0, q0, hargs, rfl, rfl, zh0, r0⟩ := trodAll_cons hA
  obtain ⟨rfl, rfl, rfl⟩ := trodAll_nil r0
  obtain rfl : args = #[v0] := by cases args; simp_all
  obtain ⟨rfl, rfl⟩ := trodVars_none hV
  have zk0 := zh0
  have zl0 : ∀ x ∈ p0, x.block < W.heap.size := by obtain ⟨m, hm⟩ := zk0; exact DataW.trod_lt m _ _ _ hm
  clear hA0 hval0
  obtain ⟨a_code, n_code, c_code, rfl⟩ := okWide_slice Try.underlying29 (hval 0 29 v0 rfl rfl)
  obtain ⟨code, w_code⟩ := isRow_of Try.underlying29 Try.underlying5 (by kernel_rfl) zh0
  refine (walk_FnFirstChange a_code n_code c_code code W w_code).mono fun e W' ⟨he, bel⟩ => ?_
  subst he
  exact ⟨_, rfl, _, _, _, [], _, [], hW', trodAll_mk1 (shut_bool Try.underlying4 _), (trodAll_cons_mk (Below.trod laid_out (by kernel_rfl) (of_decide_eq_true (by kernel_rfl)) zk0 bel zl0) trodAll_mk0), rfl, bel.frame _, fun h => by cases h⟩

/-- The statement. -/
theorem FnFirstChange_holds : Rows.FnFirstChangeSaid :=
  OpenClaim.holds_of_wide 4 Try.f4 rfl rfl rfl rfl rfl rfl rfl ⟨rfl, rfl, rfl, rfl, rfl⟩ rfl rfl rfl rfl rfl (by kernel_rfl) Try.func4 (by unfold joinedFacts; rw [may_enter, lifts_final, make_cut]; kernel_rfl)
    (of_decide_eq_true (by kernel_rfl)) (by unfold Func.isWrapper; first | (rw [if_pos (by decide +kernel)]; kernel_rfl) | (rw [if_neg (by decide +kernel)]; exact ⟨rfl, rfl⟩))
    (fun os started H enc _ => lifted_FnFirstChange os started H enc)
set_option maxRecDepth 8000 in
set_option maxHeartbeats 4000000 in
theorem walk_FnChangeCommon (a : Option Addr) (n c : Nat) (zs : List Int) (w : World) (hr : IsRow .u8 w a n c zs) :
    Calls Try.prog 5 #[.slice a n c] w fun e w' => e = .returned (.bool true) ∧ Below w.heap.size w w' := by
  have hm := small_rowi hr; unfold maxLen at hm; (rcases (by omega : 1048576 < n ∨ n ≤ 1048576) with hn | hn); (next => (go_enter Try.func5, Try.ntmps5; go_wp2; go_ret; exact ⟨rfl, bl_refl _⟩)); go_enter Try.func5, Try.ntmps5; go_wp2_with fail; (with_reducible refine (DrawFirstChange_any _ _ _ _ _ hr).mono ?_); rintro e u0 ⟨A, c1, L, A2, c2, M, d, rfl, hol, hol2, hll, hll2, hd, hb⟩; clear hr; have R1 := hide hol.reads; have R2 := hide hol2.reads; have HB := hide hb; clear hol hol2 hb; have CI := fun (V : World) (h1 : TL V A L.length L) (h2 : TL V A2 M.length M) => FirstChange_i V A A2 L.length M.length c1 c2 L M d h1 (by omega) h2 (by omega); have CS := fun (V : World) (h1 : TL V A L.length L) (h2 : TL V A2 M.length M) => FirstChange_s V A A2 L.length M.length c1 c2 L M d h1 (by omega) h2 (by omega)
  have LAW := hide (fun h => fcO_law (L := L) (M := M) (d := d) h)
  rcases (by omega : fcO L M d < 1 ∨ 1 ≤ fcO L M d) with h0 | h0
  · obtain ⟨z, hz⟩ : ∃ z, z = fcO L M d := ⟨_, rfl⟩
    rw [← hz] at CI CS h0
    have HCI := hide CI
    have HCS := hide CS
    clear CI CS hz LAW
    go_wp2_with fail; (with_reducible refine (HCI.out _ R1.out R2.out).mono ?_); rintro e u1 ⟨rfl, hb1⟩; have B1 := hide (bl_call hb1 HB.out); have S1 := hide (R1.out.below hb1); have S2 := hide (R2.out.below hb1); clear hb1; go_wp2_with fail; (with_reducible refine (HCS.out _ S1.out S2.out).mono ?_); rintro e u2 ⟨rfl, hb2⟩; have B2 := hide (bl_call hb2 B1.out); have T1 := hide (S1.out.below hb2); have T2 := hide (S2.out.below hb2); clear hb2 B1 S1 S2
    go_wp2_with fail
    (with_reducible refine (HCS.out _ T1.out T2.out).mono ?_)
    rintro e u3 ⟨rfl, hb3⟩
    go_wp2
    go_ret
    exact ⟨rfl, bl_call hb3 B2.out⟩
  · obtain ⟨h1, h2, h3, k, hk, hk1, hk2, hk3, hk4⟩ := LAW.out (by omega)
    have hc5 := hk4 (by omega)
    obtain ⟨m, hm⟩ : ∃ m, k = m + 1 := ⟨k - 1, by omega⟩
    rw [show k - 1 = m by omega] at hc5
    have xl := ffO_len (L := L) (d := d)
    have CC := fun (V : World) (h1 : TL V A L.length L) (h2 : TL V A2 M.length M) => CommonItems_i V A A2 L.length M.length c1 c2 L M h1 h2 (by omega) (by omega)
    rw [hk] at CI CS
    have FA := fun (u : World) (hu : TL u A L.length L) => FirstFit_i u A L.length c1 L d hu (by omega)
    unfold RetL at FA
    obtain ⟨X, hX⟩ : ∃ X, X = ffO L d := ⟨_, rfl⟩
    obtain ⟨ci, hci⟩ : ∃ X, X = ciO L M := ⟨_, rfl⟩
    rw [← hX] at FA xl hk1 hc5
    rw [← hci] at CC hc5
    obtain ⟨y, hy⟩ : ∃ y, y = ng X m := ⟨_, rfl⟩
    rw [← hy] at hc5
    have HY := hide hy
    have HCI := hide CI
    have HCS := hide CS
    have HCC := hide CC
    have HFA := hide FA
    have kn : ¬ ((k : Int) < 1) := by omega
    have e1 : (k : Int) - 1 = (m : Int) := by omega
    have w1 : IntKind.i64.wrap (m : Int) = (m : Int) := IntWalk.i64_in _ (by omega)
    have m0 : (0 : Int) ≤ (m : Int) := by omega
    have mX : m < X.length := by omega
    have mX' : (m : Int) < (X.length : Int) := by omega
    have k1 : (k : Int) ≤ (X.length : Int) := by omega
    have d1 : decide ((k : Int) ≤ (X.length : Int)) = true := decide_eq_true k1
    have d2 : decide (k ≤ X.length) = true := decide_eq_true hk1
    have d3 : decide (y < ci) = true := decide_eq_true hc5
    clear CI CS CC FA hX hci hy LAW h1 h2 h3 h0 hk hk2 hk3 hk4 hm
    go_wp2_with fail; (with_reducible refine (HCI.out _ R1.out R2.out).mono ?_); rintro e u1 ⟨rfl, hb1⟩; have B1 := hide (bl_call hb1 HB.out); have S1 := hide (R1.out.below hb1); have S2 := hide (R2.out.below hb1); clear hb1; go_wp2_with fail; (with_reducible refine (HCS.out _ S1.out S2.out).mono ?_); rintro e u2 ⟨rfl, hb2⟩; have B2 := hide (bl_call hb2 B1.out); have T1 := hide (S1.out.below hb2); have T2 := hide (S2.out.below hb2); clear hb2 B1 S1 S2
    go_wp2_with fail
    (with_reducible refine (HFA.out _ T1.out).mono ?_)
    rintro e u3 ⟨A3, c3, rfl, ho3, hb3⟩
    have B3 := hide (bl_call hb3 B2.out)
    have U1 := hide (T1.out.below hb3)
    have U2 := hide (T2.out.below hb3)
    obtain ⟨b, o, rfl, hb0, c0⟩ := ho3.reads.at_ mX
    rw [← HY.out] at c0
    clear hb3 ho3 HFA HCI HCS T1 T2 B2 R1 R2 HB
    go_upto_region 8 with fail
    have S0 := bl_drew (bl_refl u3)
    refine wp_region_held_drew (S := fun u : World => Below u3.heap.size u3 u) (by kernel_rfl) (S0) (fun hHeld => ?_)
    (first | refine tky 0 (h := ?_) | refine tkn 0 (h := ?_)); (try simp only [Act.put, tkd, tke, tkf])
    (first | refine tky 1 (h := ?_) | refine tkn 1 (h := ?_)); (try simp only [Act.put, tkd, tke, tkf])
    (first | refine tky 2 (h := ?_) | refine tkn 2 (h := ?_)); (try simp only [Act.put, tkd, tke, tkf])
    (first | refine tky 3 (h := ?_) | refine tkn 3 (h := ?_)); (try simp only [Act.put, tkd, tke, tkf])
    (first | refine tky 4 (h := ?_) | refine tkn 4 (h := ?_)); (try simp only [Act.put, tkd, tke, tkf])
    (first | refine tky 5 (h := ?_) | refine tkn 5 (h := ?_)); (try simp only [Act.put, tkd, tke, tkf])
    (first | refine tky 6 (h := ?_) | refine tkn 6 (h := ?_)); (try simp only [Act.put, tkd, tke, tkf])
    (first | refine tky 7 (h := ?_) | refine tkn 7 (h := ?_)); (try simp only [Act.put, tkd, tke, tkf])
    (first | refine tky 8 (h := ?_) | refine tkn 8 (h := ?_)); (try simp only [Act.put, tkd, tke, tkf])
    refine tky 9 (hy := by (intro w_ hSw; (try dsimp only at hSw); have c0 := keep_cell hSw c0; go_simp; (try (with_reducible rfl)))) (h := ?_); (try simp only [Act.put, tkd, tke, tkf])
    (first | refine tky 10 (h := ?_) | refine tkn 10 (h := ?_)); (try simp only [Act.put, tkd, tke, tkf])
    (first | refine tky 11 (h := ?_) | refine tkn 11 (h := ?_)); (try simp only [Act.put, tkd, tke, tkf])
    refine wpAnyH_ready (rs := [12]) (by kernel_rfl) (by simp) ?_; refine AllReadyH.cons (o := ?_) ?_ (fun K hK => ?_) AllReadyH.nil; rotate_left 1; (next => simp only [List.getElem?_toArray, List.getElem?_cons_succ, List.getElem?_cons_zero]; rfl); go_simp
    go_at_call 22
    (with_reducible refine (HCC.out _ (U1.out.below (by repeat' (first | exact bl_refl _ | refine bl_drew ?_ | refine bl_drewN ?_ _))) (U2.out.below (by repeat' (first | exact bl_refl _ | refine bl_drew ?_ | refine bl_drewN ?_ _)))).mono ?_)
    rintro e u5 ⟨rfl, hb5⟩
    have B5 := hide (bl_call hb5 (show Below u3.heap.size u3 _ from (by repeat' (first | exact bl_refl _ | refine bl_drew ?_ | refine bl_drewN ?_ _))))
    clear hb5
    (try go_wp2_with fail); refine hK.out _ _ (B5.out) (fun hHeld => ?_); clear hK K; (try simp only [Act.put, List.setIfInBounds_toArray, List.set_cons_zero, List.set_cons_succ])
    (first | refine tky 13 (h := ?_) | refine tkn 13 (h := ?_)); (try simp only [Act.put, tkd, tke, tkf])
    (first | refine tky 14 (h := ?_) | refine tkn 14 (h := ?_)); (try simp only [Act.put, tkd, tke, tkf])
    (first | refine tky 15 (h := ?_) | refine tkn 15 (h := ?_)); (try simp only [Act.put, tkd, tke, tkf])
    refine wpAnyH_done (by kernel_rfl) ?_ _
    go_wp2
    go_ret
    exact ⟨rfl, bl_call B5.out B3.out⟩
set_option maxRecDepth 100000 in
theorem lifted_FnChangeCommon (os : Os) (started : os.Started) (H : Type) (enc : TypeId × Value → H) :
    ReturnsInHanded {} Try.checked os 5 .any (Rows.fnChangeCommonSpec.pre6 enc Try.prog Try.f5 Rows.fnChangeCommonRow.domain false) (Rows.fnChangeCommonSpec.post enc Try.prog Try.f5 false true false false) := by
  refine returnsInHanded_of_change (C := Try.checked) own_knob started (by kernel_rfl) Try.func5
    (ChangeSpec.witness6 (enc := enc) (C := Try.checked) false ⟨#[], #[.slice none 0 0], []⟩ 8 (by kernel_rfl) (by kernel_rfl) (by kernel_rfl) (by kernel_rfl)) ?_
  intro W base args ds gs before hval0 hW hcnd _
  have hval : ∀ (j : Nat) t v, Try.f5.params[j]? = some t → args[j]? = some v → Value.okWide Try.prog W .any base t v := hval0
  have hW' := hW
  obtain ⟨p, q, hA0, hV, rfl, hfz, hnd⟩ := hW
  have hA : DataW.TrodAll enc Try.prog W 0 (fun _ => true) true Try.f5.params.toList args.toList ds p := hA0
  rw [Try.params5] at hA hval
  obtain ⟨v0, vs0, d0, ds0, p0, q0, hargs, rfl, rfl, zh0, r0⟩ := trodAll_cons hA
  obtain ⟨rfl, rfl, rfl⟩ := trodAll_nil r0
  obtain rfl : args = #[v0] := by cases args; simp_all
  obtain ⟨rfl, rfl⟩ := trodVars_none hV
  have zk0 := zh0
  have zl0 : ∀ x ∈ p0, x.block < W.heap.size := by obtain ⟨m, hm⟩ := zk0; exact DataW.trod_lt m _ _ _ hm
  clear hA0 hval0
  obtain ⟨a_code, n_code, c_code, rfl⟩ := okWide_slice Try.underlying29 (hval 0 29 v0 rfl rfl)
  obtain ⟨code, w_code⟩ := isRow_of Try.underlying29 Try.underlying5 (by kernel_rfl) zh0
  refine (walk_FnChangeCommon a_code n_code c_code code W w_code).mono fun e W' ⟨he, bel⟩ => ?_
  subst he
  exact ⟨_, rfl, _, _, _, [], _, [], hW', trodAll_mk1 (shut_bool Try.underlying4 _), (trodAll_cons_mk (Below.trod laid_out (by kernel_rfl) (of_decide_eq_true (by kernel_rfl)) zk0 bel zl0) trodAll_mk0), rfl, bel.frame _, fun h => by cases h⟩

/-- The statement. -/
theorem FnChangeCommon_holds : Rows.FnChangeCommonSaid :=
  OpenClaim.holds_of_wide 5 Try.f5 rfl rfl rfl rfl rfl rfl rfl ⟨rfl, rfl, rfl, rfl, rfl⟩ rfl rfl rfl rfl rfl (by kernel_rfl) Try.func5 (by unfold joinedFacts; rw [may_enter, lifts_final, make_cut]; kernel_rfl)
    (of_decide_eq_true (by kernel_rfl)) (by unfold Func.isWrapper; first | (rw [if_pos (by decide +kernel)]; kernel_rfl) | (rw [if_neg (by decide +kernel)]; exact ⟨rfl, rfl⟩))
    (fun os started H enc _ => lifted_FnChangeCommon os started H enc)
end Go.Proofs.Ytlkfpcajpdohiaa
