/- The exact law on ReplaceItems holds at every input: it answers as its model does, writes into no argument, and what it returns is its own. No condition. -/
import Derived.Test.YtlkfpcajpdohiaaSa
import Derived.Test.YtlkfpcajpdohiaaRiI
import Derived.Test.YtlkfpcajpdohiaaMkI
namespace Go.Proofs.Ytlkfpcajpdohiaa
open Go.ChangeShapes Go.WideShapes Go.ChangeAt Go.RowKit
set_option linter.unusedVariables false
set_option linter.unusedSimpArgs false
open Classical

theorem bl_markRi {w u v : World} {B : Nat} {x : Option Nat} (h : ∀ k, x = some k → B ≤ k) (hb : Below w.heap.size w u) (hB : w.heap.size ≤ B) (hg : u.grownBy v x) : Below w.heap.size w v :=
  hb.grown hg hb.size (fun k hk => Nat.le_trans hB (h k hk))
theorem rpO_len {L K : List It} {f t : Int} : (rpO L K f t).1.length ≤ 60 := by
  unfold rpO
  split
  · rename_i h
    exact (isOk_iff.1 ((Bool.and_eq_true _ _).mp h).2).2.1.2
  · simp
theorem TO_capR {w : World} {e : TypeId} {B : Nat} {A : Option Addr} {c : Nat} {L : List It} (h : TO w e B A c L) : A = none → c = 0 := fun e => by
  subst e
  rcases h.2 with ⟨h1, _⟩ | ⟨g, cap, cur, h1, _⟩
  · injection h1
  · cases h1
set_option maxHeartbeats 4000000 in
theorem walk_FnExactReplaceItems (a : Option Addr) (n c : Nat) (L : List It) (f t : Int) (a2 : Option Addr) (n2 c2 : Nat) (M : List It) (w : World) (h : TL w a n L) (hm : n ≤ maxLen) (_ : (Lit.int .i64 f).wf = true) (_ : (Lit.int .i64 t).wf = true) (h2 : TL w a2 n2 M) (hm2 : n2 ≤ maxLen) :
    Calls Try.prog 6 #[.slice a n c, .int .i64 f, .int .i64 t, .slice a2 n2 c2] w fun e w' => e = .returned (.bool true) ∧ Below w.heap.size w w' := by
  unfold maxLen at hm hm2
  obtain rfl : n = L.length := h.1
  obtain rfl : n2 = M.length := h2.1
  have HI := hide h
  have HJ := hide h2
  clear h h2
  have SZ := fun (u : World) => szItemS_l u a L.length c 1048576 (by omega) (by omega) (by omega)
  rcases (by omega : (1048576 : Int) - (L.length : Int) < 0 ∨ 0 ≤ (1048576 : Int) - (L.length : Int)) with q | q
  · rw [if_pos q] at SZ
    have HSZ := hide SZ
    clear SZ
    go_enter Try.func6, Try.ntmps6
    go_wp2_with fail
    (with_reducible refine (HSZ.out _).mono ?_)
    rintro e w' ⟨rfl, rfl⟩
    go_wp2
    go_ret
    exact ⟨rfl, bl_refl _⟩
  have q' : ¬ ((1048576 : Int) - (L.length : Int) < 0) := by omega
  rw [if_neg q'] at SZ
  have HSZ := hide SZ
  clear SZ
  have SZ := fun (u : World) => szItemS_l u a2 M.length c2 (1048576 - (L.length : Int)) (by omega) (by omega) (by omega)
  rcases (by omega : (1048576 : Int) - (L.length : Int) - (M.length : Int) < 0 ∨ 0 ≤ (1048576 : Int) - (L.length : Int) - (M.length : Int)) with q2 | q2
  · rw [if_pos q2] at SZ
    have HSZ2 := hide SZ
    clear SZ
    go_enter Try.func6, Try.ntmps6
    go_wp2_with fail
    (with_reducible refine (HSZ.out _).mono ?_)
    rintro e w' ⟨rfl, rfl⟩
    go_wp2_with fail
    (with_reducible refine (HSZ2.out _).mono ?_)
    rintro e w' ⟨rfl, rfl⟩
    go_wp2
    go_ret
    exact ⟨rfl, bl_refl _⟩
  have q2' : ¬ ((1048576 : Int) - (L.length : Int) - (M.length : Int) < 0) := by omega
  rw [if_neg q2'] at SZ
  have HSZ2 := hide SZ
  clear SZ
  have hn : L.length ≤ 1048576 := by omega
  have hn2 : M.length ≤ 1048576 := by omega
  have CS := fun (u : World) (A B : Option Addr) (c d : Nat) (h1 : TL u A L.length L) (hc : L.length ≤ c) (h2 : TL u B M.length M) (hb : B = none → d = 0) => ReplaceItems_s u A B L.length c M.length d L M f t h1 hn hc h2 hn2 hb
  have CI := fun (u : World) (A B : Option Addr) (c d : Nat) (h1 : TL u A L.length L) (hc : L.length ≤ c) (h2 : TL u B M.length M) (hb : B = none → d = 0) => ReplaceItems_i u A B L.length c M.length d L M f t h1 hn hc h2 hn2 hb
  have PL := rpO_len (L := L) (K := M) (f := f) (t := t)
  unfold RetI at CS CI
  obtain ⟨V, hV⟩ : ∃ V, V = rpO L M f t := ⟨_, rfl⟩
  rw [← hV] at CS CI PL
  obtain ⟨R, y⟩ := V
  simp only at CS CI PL
  have HCS := hide CS
  have HCI := hide CI
  clear CS CI hV
  go_enter Try.func6, Try.ntmps6
  go_wp2_with fail
  (with_reducible refine (HSZ.out _).mono ?_)
  rintro e w' ⟨rfl, rfl⟩
  go_wp2_with fail
  (with_reducible refine (HSZ2.out _).mono ?_)
  rintro e w' ⟨rfl, rfl⟩
  clear HSZ HSZ2
  go_wp2_with fail
  (with_reducible refine (toItemS_l _ _ _ _ L HI.out hn).mono ?_)
  rintro e u1 ⟨A1, c1, rfl, ho1, hb1⟩
  have B1 := hide hb1
  clear hb1
  go_wp2_with fail
  (with_reducible refine (toItemS_l _ _ _ _ M (HJ.out.below B1.out) hn2).mono ?_)
  rintro e u2 ⟨A2, d2, rfl, ho2, hb2⟩
  have B2 := hide (bl_call hb2 B1.out)
  have ho1 := ho1.below hb2
  clear hb2
  go_wp2_with fail
  (with_reducible refine (HCS.out _ _ _ _ _ ho1.reads (TO_capi ho1) ho2.reads (TO_capR ho2)).mono ?_)
  rintro e u3 ⟨A3, c3, rfl, ho3, hb3⟩
  have B3 := hide (bl_call hb3 B2.out)
  have SZ3 := B3.out.size
  clear ho1 ho2 hb3
  go_wp2_with fail
  (with_reducible refine (toItemS_l _ _ _ _ L (HI.out.below B3.out) hn).mono ?_)
  rintro e u4 ⟨A4, c4, rfl, ho4, hb4⟩
  have P34 := hide (TO.apart ho3 ho4)
  have B4 := hide (bl_call hb4 B3.out)
  have ho3 := ho3.below hb4
  have SZ4 := B4.out.size
  clear hb4
  go_wp2_with fail
  (with_reducible refine (toItemS_l _ _ _ _ M (HJ.out.below B4.out) hn2).mono ?_)
  rintro e u5 ⟨A5, c5, rfl, ho5, hb5⟩
  have P35 := hide (TO.apart ho3 ho5)
  have P45 := hide (TO.apart ho4 ho5)
  have B5 := hide (bl_call hb5 B4.out)
  have ho3 := ho3.below hb5
  have ho4 := ho4.below hb5
  have SZ5 := B5.out.size
  clear hb5
  go_wp2_with fail
  (with_reducible refine (HCI.out _ _ _ _ _ ho4.reads (TO_capi ho4) ho5.reads (TO_capR ho5)).mono ?_)
  rintro e u6 ⟨A6, c6, rfl, ho6, hb6⟩
  have P36 := hide (TO.apart ho3 ho6)
  have P46 := hide (TO.apart ho4 ho6)
  have P56 := hide (TO.apart ho5 ho6)
  have B6 := hide (bl_call hb6 B5.out)
  have ho3 := ho3.below hb6
  have ho4 := ho4.below hb6
  have ho5 := ho5.below hb6
  clear hb6
  go_wp2_with fail
  (with_reducible refine (eqItemS_l _ _ _ _ _ _ R ho6.reads ho3.reads (by omega)).mono ?_)
  rintro e u7 ⟨rfl, hb7⟩
  have B7 := hide (bl_call hb7 B6.out)
  have ho3 := ho3.below hb7
  have ho4 := ho4.below hb7
  have ho5 := ho5.below hb7
  have ho6 := ho6.below hb7
  clear hb7
  go_wp2_with fail
  (with_reducible refine (toItemS_l _ _ _ _ L (HI.out.below B7.out) hn).mono ?_)
  rintro e u8 ⟨A8, c8, rfl, ho8, hb8⟩
  have B8 := hide (bl_call hb8 B7.out)
  have ho3 := ho3.below hb8
  have ho4 := ho4.below hb8
  have ho5 := ho5.below hb8
  have ho6 := ho6.below hb8
  clear hb8
  go_wp2_with fail
  (with_reducible refine (eqItemS_l _ _ _ _ _ _ L ho4.reads ho8.reads hn).mono ?_)
  rintro e u9 ⟨rfl, hb9⟩
  have B9 := hide (bl_call hb9 B8.out)
  have ho3 := ho3.below hb9
  have ho4 := ho4.below hb9
  have ho5 := ho5.below hb9
  have ho6 := ho6.below hb9
  clear hb9 ho8
  go_wp2_with fail
  (with_reducible refine (toItemS_l _ _ _ _ M (HJ.out.below B9.out) hn2).mono ?_)
  rintro e u10 ⟨A10, c10, rfl, ho10, hb10⟩
  have B10 := hide (bl_call hb10 B9.out)
  have ho3 := ho3.below hb10
  have ho4 := ho4.below hb10
  have ho5 := ho5.below hb10
  have ho6 := ho6.below hb10
  clear hb10
  go_wp2_with fail
  (with_reducible refine (eqItemS_l _ _ _ _ _ _ M ho5.reads ho10.reads hn2).mono ?_)
  rintro e u11 ⟨rfl, hb11⟩
  have B11 := hide (bl_call hb11 B10.out)
  have ho3 := ho3.below hb11
  have ho4 := ho4.below hb11
  have ho5 := ho5.below hb11
  have ho6 := ho6.below hb11
  clear hb11 ho10
  have L4 := hide (fun k h => (TO.own_lt ho4 k h).1)
  have L5 := hide (fun k h => (TO.own_lt ho5 k h).1)
  have L6 := hide (fun k h => (TO.own_lt ho6 k h).1)
  go_wp2_with fail
  (with_reducible refine (markItemS_l _ _ _ _ _ L 1 ho4 (by omega) (by omega) (by omega)).mono ?_)
  rintro e u12 ⟨rfl, hg12⟩
  have ho3 := ho3.kept hg12 P34.out
  have ho5 := ho5.kept hg12 (fun k hk e => P45.out k e hk)
  have ho6 := ho6.kept hg12 (fun k hk e => P46.out k e hk)
  have B12 := hide (bl_markRi L4.out B11.out SZ3 hg12)
  clear ho4 hg12 B11
  have kz : ¬ ((1 : Int) + 6 * (L.length : Int) + 6 * (M.length : Int) < 0) := by omega
  have kz' : decide ((1 : Int) + 6 * (L.length : Int) + 6 * (M.length : Int) < 0) = false := decide_eq_false kz
  go_wp2_with fail
  (with_reducible refine (markItemS_l _ _ _ _ _ M _ ho5 (by omega) (by omega) (by omega)).mono ?_)
  rintro e u13 ⟨rfl, hg13⟩
  have ho3 := ho3.kept hg13 P35.out
  have ho6 := ho6.kept hg13 (fun k hk e => P56.out k e hk)
  have B13 := hide (bl_markRi L5.out B12.out SZ4 hg13)
  clear ho5 hg13 B12
  go_wp2_with fail
  (with_reducible refine (eqItemS_l _ _ _ _ _ _ R ho6.reads ho3.reads (by omega)).mono ?_)
  rintro e u14 ⟨rfl, hb14⟩
  have B14 := hide (bl_call hb14 B13.out)
  have ho3 := ho3.below hb14
  have ho6 := ho6.below hb14
  clear hb14
  go_wp2_with fail
  (with_reducible refine (markItemS_f _ _ _ _ _ R ho6 (by omega)).mono ?_)
  rintro e u15 ⟨rfl, ho15, hg15⟩
  have ho3 := ho3.kept hg15 P36.out
  have B15 := hide (bl_markRi L6.out B14.out SZ5 hg15)
  have HR15 := hide (show TL u15 A6 R.length (mkL R.length) by have h9 := ho15.reads; rwa [mkL_len] at h9)
  clear ho6 ho15 hg15 B14
  go_wp2_with fail
  (with_reducible refine (heldItemS_l _ _ _ _ HR15.out (by omega)).mono ?_)
  rintro e w' ⟨rfl, rfl⟩
  go_wp2_with fail
  (with_reducible refine (toItemS_l _ _ _ _ L (HI.out.below B15.out) hn).mono ?_)
  rintro e u16 ⟨A16, c16, rfl, ho16, hb16⟩
  have B16 := hide (bl_call hb16 B15.out)
  have ho3 := ho3.below hb16
  have HR16 := hide (HR15.out.below hb16)
  clear hb16
  go_wp2_with fail
  (with_reducible refine (toItemS_l _ _ _ _ M (HJ.out.below B16.out) hn2).mono ?_)
  rintro e u17 ⟨A17, c17, rfl, ho17, hb17⟩
  have B17 := hide (bl_call hb17 B16.out)
  have ho3 := ho3.below hb17
  have ho16 := ho16.below hb17
  have HR17 := hide (HR16.out.below hb17)
  clear hb17
  go_wp2_with fail
  (with_reducible refine (HCI.out _ _ _ _ _ ho16.reads (TO_capi ho16) ho17.reads (TO_capR ho17)).mono ?_)
  rintro e u18 ⟨A18, c18, rfl, ho18, hb18⟩
  have B18 := hide (bl_call hb18 B17.out)
  have ho3 := ho3.below hb18
  have HR18 := hide (HR17.out.below hb18)
  clear hb18 ho16 ho17
  go_wp2_with fail
  (with_reducible refine (eqItemS_l _ _ _ _ _ _ R ho18.reads ho3.reads (by omega)).mono ?_)
  rintro e u19 ⟨rfl, hb19⟩
  have B19 := hide (bl_call hb19 B18.out)
  have HR19 := hide (HR18.out.below hb19)
  clear hb19
  go_wp2_with fail
  (with_reducible refine (heldItemS_l _ _ _ _ HR19.out (by omega)).mono ?_)
  rintro e w' ⟨rfl, rfl⟩
  go_wp2
  go_ret
  exact ⟨rfl, B19.out⟩
set_option maxRecDepth 100000 in
theorem lifted_FnExactReplaceItems (os : Os) (started : os.Started) (H : Type) (enc : TypeId × Value → H) :
    ReturnsInHanded {} Try.checked os 6 .any (Rows.fnExactReplaceItemsSpec.pre6 enc Try.prog Try.f6 Rows.fnExactReplaceItemsRow.domain false) (Rows.fnExactReplaceItemsSpec.post enc Try.prog Try.f6 false true false false) := by
  refine returnsInHanded_of_change (C := Try.checked) own_knob started (by kernel_rfl) Try.func6
    (ChangeSpec.witness6 (enc := enc) (C := Try.checked) false ⟨#[], #[.slice none 0 0, .int .i64 0, .int .i64 0, .slice none 0 0], []⟩ 8 (by kernel_rfl) (by kernel_rfl) (by kernel_rfl) (by kernel_rfl)) ?_
  intro W base args ds gs before hval0 hW hcnd _
  have hval : ∀ (j : Nat) t v, Try.f6.params[j]? = some t → args[j]? = some v → Value.okWide Try.prog W .any base t v := hval0
  have hW' := hW
  obtain ⟨p, q, hA0, hV, rfl, hfz, hnd⟩ := hW
  have hA : DataW.TrodAll enc Try.prog W 0 (fun _ => true) true Try.f6.params.toList args.toList ds p := hA0
  rw [Try.params6] at hA hval
  obtain ⟨v0, vs0, d0, ds0, p0, q0, hargs, rfl, rfl, zh0, r0⟩ := trodAll_cons hA
  obtain ⟨v1, vs1, d1, ds1, p1, q1, rfl, rfl, rfl, zh1, r1⟩ := trodAll_cons r0
  obtain ⟨v2, vs2, d2, ds2, p2, q2, rfl, rfl, rfl, zh2, r2⟩ := trodAll_cons r1
  obtain ⟨v3, vs3, d3, ds3, p3, q3, rfl, rfl, rfl, zh3, r3⟩ := trodAll_cons r2
  obtain ⟨rfl, rfl, rfl⟩ := trodAll_nil r3
  obtain rfl : args = #[v0, v1, v2, v3] := by cases args; simp_all
  obtain ⟨rfl, rfl⟩ := trodVars_none hV
  have zk0 := zh0
  have zl0 : ∀ x ∈ p0, x.block < W.heap.size := by obtain ⟨m, hm⟩ := zk0; exact DataW.trod_lt m _ _ _ hm
  have zk1 := zh1
  have zl1 : ∀ x ∈ p1, x.block < W.heap.size := by obtain ⟨m, hm⟩ := zk1; exact DataW.trod_lt m _ _ _ hm
  have zk2 := zh2
  have zl2 : ∀ x ∈ p2, x.block < W.heap.size := by obtain ⟨m, hm⟩ := zk2; exact DataW.trod_lt m _ _ _ hm
  have zk3 := zh3
  have zl3 : ∀ x ∈ p3, x.block < W.heap.size := by obtain ⟨m, hm⟩ := zk3; exact DataW.trod_lt m _ _ _ hm
  clear hA0 hval0
  obtain ⟨a_s, n_s, c_s, rfl⟩ := okWide_slice Try.underlying22 (hval 0 22 v0 rfl rfl)
  obtain ⟨L_s, t_s, m_s, _⟩ := items_in Try.underlying22 (by kernel_rfl) (by kernel_rfl) zh0
  obtain ⟨f, rfl, rfl, rfl, w_f⟩ := open_int Try.underlying3 (hval 1 3 v1 rfl rfl) zh1
  obtain ⟨t, rfl, rfl, rfl, w_t⟩ := open_int Try.underlying3 (hval 2 3 v2 rfl rfl) zh2
  obtain ⟨a_b, n_b, c_b, rfl⟩ := okWide_slice Try.underlying22 (hval 3 22 v3 rfl rfl)
  obtain ⟨L_b, t_b, m_b, _⟩ := items_in Try.underlying22 (by kernel_rfl) (by kernel_rfl) zh3
  refine (walk_FnExactReplaceItems a_s n_s c_s L_s f t a_b n_b c_b L_b W t_s m_s w_f w_t t_b m_b).mono fun e W' ⟨he, bel⟩ => ?_
  subst he
  exact ⟨_, rfl, _, _, _, [], _, [], hW', trodAll_mk1 (shut_bool Try.underlying4 _), (trodAll_cons_mk (Below.trod laid_out (by kernel_rfl) (of_decide_eq_true (by kernel_rfl)) zk0 bel zl0) (trodAll_cons_mk (Below.trod laid_out (by kernel_rfl) (of_decide_eq_true (by kernel_rfl)) zk1 bel zl1) (trodAll_cons_mk (Below.trod laid_out (by kernel_rfl) (of_decide_eq_true (by kernel_rfl)) zk2 bel zl2) (trodAll_cons_mk (Below.trod laid_out (by kernel_rfl) (of_decide_eq_true (by kernel_rfl)) zk3 bel zl3) trodAll_mk0)))), rfl, bel.frame _, fun h => by cases h⟩

/-- The statement. -/
theorem FnExactReplaceItems_holds : Rows.FnExactReplaceItemsSaid :=
  OpenClaim.holds_of_wide 6 Try.f6 rfl rfl rfl rfl rfl rfl rfl ⟨rfl, rfl, rfl, rfl, rfl⟩ rfl rfl rfl rfl rfl (by kernel_rfl) Try.func6 (by unfold joinedFacts; rw [may_enter, lifts_final, make_cut]; kernel_rfl)
    (of_decide_eq_true (by kernel_rfl)) (by unfold Func.isWrapper; first | (rw [if_pos (by decide +kernel)]; kernel_rfl) | (rw [if_neg (by decide +kernel)]; exact ⟨rfl, rfl⟩))
    (fun os started H enc _ => lifted_FnExactReplaceItems os started H enc)
end Go.Proofs.Ytlkfpcajpdohiaa
