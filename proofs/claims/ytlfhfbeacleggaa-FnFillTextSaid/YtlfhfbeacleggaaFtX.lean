/- The exact law on FillText holds at every input: it answers as its model does, writes into no argument, and what it returns is its own. No condition. -/
import Derived.Test.YtlfhfbeacleggaaJn
import Derived.Test.YtlfhfbeacleggaaFtI
namespace Go.Proofs.Ytlfhfbeacleggaa
open Go.ChangeShapes Go.WideShapes Go.ChangeAt Go.RowKit
set_option linter.unusedVariables false

theorem OS.capF {w : World} {e : TypeId} {B c : Nat} {A : Option Addr} {l : List ByteArray} (h : OS w e B A c l) : l.length ≤ c := by
  rcases Nat.eq_zero_or_pos l.length with h0 | h0
  · omega
  · obtain ⟨g, _, _, _, hc, _⟩ := h.form h0
    exact hc
theorem ftO_len {l : List ByteArray} {wd : Int} : (ftO l wd).length ≤ 40 := by
  cases q : wok l && inB wd 20 60
  · rw [ftO_no q]; simp
  · rw [ftO_yes q, ftT_len]
    have := wwO_len (l := l) (wd := wd)
    rwa [wwO_yes q] at this
set_option maxHeartbeats 2000000 in
theorem walk_FnExactFillText (a : Option Addr) (n c : Nat) (l : List ByteArray) (wd : Int) (w : World) (h : SL w a n l) (hm : n ≤ maxLen) (hs : ∀ k, k < l.length → (sg l k).size ≤ maxLen) (wf1 : (Lit.int .i64 wd).wf = true) :
    Calls Try.prog 3 #[.slice a n c, .int .i64 wd] w fun e w' => e = .returned (.bool true) ∧ Below w.heap.size w w' := by
  have SZ := hide (fun (u : World) (hu : SL u a n l) => szStringS_l u a n c 1048576 l hu hs hm (by omega) (by omega))
  have HNL := hide h.1
  have HI := hide h
  unfold maxLen at hm
  clear h hs wf1
  go_enter Try.func3, Try.ntmps3
  go_wp2_with fail
  (with_reducible refine (SZ.out _ HI.out).mono ?_)
  rintro e w' ⟨⟨r, rfl, q⟩, rfl⟩
  rcases q with rfl | ⟨q0, q1, q2⟩
  · go_wp2
    go_ret
    exact ⟨rfl, bl_refl _⟩
  have hn : n ≤ 1048576 := by omega
  have hlx : l.length ≤ 1048576 := by rw [← HNL.out]; exact hn
  have hll := hide hlx
  have HK := hide (fun k (hk : k < l.length) => show (sg l k).size ≤ 1048576 by have := q2 k hk; omega)
  have CS := fun (u : World) (A : Option Addr) (d : Nat) (h : SL u A l.length l) (hc : l.length ≤ d) => FillText_s u A l.length d l wd h hc HK.out (by omega)
  have CI := fun (u : World) (A : Option Addr) (d : Nat) (h : SL u A l.length l) (hc : l.length ≤ d) => FillText_i u A l.length d l wd h hc HK.out (by omega)
  obtain ⟨L, hL⟩ : ∃ L, L = ftO l wd := ⟨_, rfl⟩
  have hlen : L.length ≤ 60 := by rw [hL]; exact Nat.le_trans ftO_len (by omega)
  unfold RetT at CS CI
  rw [← hL] at CS CI
  have HCS := hide CS
  have HCI := hide CI
  clear CS CI hL q1 q2 hlx
  have hb := hn
  have hx := HI.out
  go_wp2_with fail
  (with_reducible refine (toStringS_l _ _ _ _ l hx hn).mono ?_)
  rintro e u1 ⟨A1, c1, rfl, ho1, hb1⟩
  go_wp2_with fail
  (with_reducible refine (HCS.out _ _ _ ho1.reads (OS.capF ho1)).mono ?_)
  rintro e u2 ⟨A2, c2, rfl, ho2, hb2⟩
  have hx2 := hx.below (bl_call hb2 hb1)
  have HB2 := hide (bl_call hb2 hb1)
  clear ho1 hb1 hb2 hx
  go_wp2_with fail
  (with_reducible refine (toStringS_l _ _ _ _ l hx2 hn).mono ?_)
  rintro e u3 ⟨A3, c3, rfl, ho3, hb3⟩
  have hz23 : u2.heap.size ≤ u3.heap.size := hb3.size
  go_wp2_with fail
  (with_reducible refine (HCI.out _ _ _ ho3.reads (OS.capF ho3)).mono ?_)
  rintro e u4 ⟨A4, c4, rfl, ho4, hb4⟩
  have W34 : Hid (∀ k, (Value.slice A4 L.length c4).ownBlock = some k → (Value.slice A3 l.length c3).ownBlock ≠ some k) := hide (fun k h1 h2 => by
    have a := (ho4.own_lt k h1).1
    have b := (ho3.own_lt k h2).2
    omega)
  have W32 : Hid (∀ k, (Value.slice A2 L.length c2).ownBlock = some k → (Value.slice A3 l.length c3).ownBlock ≠ some k) := hide (fun k h1 h2 => by
    have a := (ho2.own_lt k h1).2
    have b := (ho3.own_lt k h2).1
    omega)
  have W24 : Hid (∀ k, (Value.slice A2 L.length c2).ownBlock = some k → (Value.slice A4 L.length c4).ownBlock ≠ some k) := hide (fun k h1 h2 => by
    have a := (ho2.own_lt k h1).2
    have b := (ho4.own_lt k h2).1
    have := hb3.size
    omega)
  have ho2 := (ho2.below hb3).below hb4
  have ho3 := ho3.below hb4
  go_wp2_with fail
  (with_reducible refine (eqStringS_l _ _ _ _ _ _ _ _ _ ho4.reads ho2.reads (by omega) (by omega)).mono ?_)
  rintro e u5 ⟨rfl, j5, rfl⟩
  simp only [decide_true]
  have hx5 := ((hx2.below hb3).below hb4).drewN j5
  go_wp2_with fail
  (with_reducible refine (toStringS_l _ _ _ _ l hx5 hn).mono ?_)
  rintro e u6 ⟨A6, c6, rfl, ho6, hb6⟩
  have ho2 := (ho2.drewN j5).below hb6
  have ho3 := (ho3.drewN j5).below hb6
  have ho4 := (ho4.drewN j5).below hb6
  go_wp2_with fail
  (with_reducible refine (eqStringS_l _ _ _ _ _ _ _ _ _ ho3.reads ho6.reads (by have := hll.out; omega) (by have := hll.out; omega)).mono ?_)
  rintro e u7 ⟨rfl, j7, rfl⟩
  simp only [decide_true]
  go_wp2_with fail
  refine (markStringS_w _ _ _ _ _ l 1 (ho3.drewN j7) (by have := hll.out; omega) (by omega)).mono ?_
  rintro e u8 ⟨rfl, ho8, hg8⟩
  have hs2 : u2.heap.size ≤ (u6.drewN j7).heap.size := Nat.le_trans (Nat.le_trans hb3.size hb4.size) hb6.size
  have hb7 : Below u2.heap.size u2 (u6.drewN j7) := bl_drewN (bl_call hb6 (bl_drewN (bl_call hb4 hb3) _)) _
  have hb8 : Below u2.heap.size u2 u8 := hb7.grown hg8 hs2 (fun k hk => (ho3.own_lt k hk).1)
  have ho2 := (ho2.drewN j7).kept hg8 W32.out
  have ho4 := (ho4.drewN j7).kept hg8 W34.out
  have hx8 := hx2.below hb8
  have hb48 : Below u2.heap.size u2 u4 := bl_call hb4 hb3
  have hk8 : ¬ ((1 : Int) + l.length < 0) := by omega
  clear hg8 ho8 hb7 hs2 hx5 hb6 ho3 ho6 hb4 hb3
  go_wp2_with fail
  (with_reducible refine (eqStringS_l _ _ _ _ _ _ _ _ _ ho4.reads ho2.reads (by omega) (by omega)).mono ?_)
  rintro e u9 ⟨rfl, j9, rfl⟩
  simp only [decide_true]
  go_wp2_with fail
  refine (markStringS_l _ _ _ _ _ L 1 (ho4.drewN j9) (by omega) (by omega) (by omega)).mono ?_
  rintro e u10 ⟨rfl, ho10, hg10⟩
  have hs2 : u2.heap.size ≤ (u8.drewN j9).heap.size := hb8.size
  have hb10 : Below u2.heap.size u2 u10 := (bl_drewN hb8 j9).grown hg10 hs2 (fun k hk => by have := (ho4.own_lt k hk).1; have := hb48.size; omega)
  have ho2 := (ho2.drewN j9).kept hg10 W24.out
  have hx10 := hx2.below hb10
  have hr10 := ho10.reads
  rw [mts_len] at hr10
  clear hg10 hs2 hb8 hx8 ho4
  go_wp2_with fail
  refine (heldStringS_l _ _ _ _ 1 hr10 (by omega) (by omega) (by omega)).mono ?_
  rintro e u11 ⟨rfl, hb11⟩
  go_wp2_with fail
  (with_reducible refine (toStringS_l _ _ _ _ l (hx10.below hb11) hn).mono ?_)
  rintro e u12 ⟨A5, c5, rfl, ho5, hb12⟩
  go_wp2_with fail
  (with_reducible refine (HCI.out _ _ _ ho5.reads (OS.capF ho5)).mono ?_)
  rintro e u13 ⟨A6, c6, rfl, ho6, hb13⟩
  have ho2 := ((ho2.below hb11).below hb12).below hb13
  have hr13 := ((hr10.below hb11).below hb12).below hb13
  go_wp2_with fail
  (with_reducible refine (eqStringS_l _ _ _ _ _ _ _ _ _ ho6.reads ho2.reads (by omega) (by omega)).mono ?_)
  rintro e u14 ⟨rfl, j14, rfl⟩
  simp only [decide_true]
  go_wp2_with fail
  refine (heldStringS_l _ _ _ _ 1 (hr13.drewN j14) (by omega) (by omega) (by omega)).mono ?_
  rintro e u15 ⟨rfl, hb15⟩
  go_wp2
  go_ret
  refine ⟨rfl, ?_⟩
  exact bl_call hb15 (bl_drewN (bl_call hb13 (bl_call hb12 (bl_call hb11 (bl_call hb10 HB2.out)))) _)
set_option maxRecDepth 100000 in
theorem lifted_FnExactFillText (os : Os) (started : os.Started) (H : Type) (enc : TypeId × Value → H) :
    ReturnsInHanded {} Try.checked os 3 .any (Rows.fnExactFillTextSpec.pre6 enc Try.prog Try.f3 Rows.fnExactFillTextRow.domain false) (Rows.fnExactFillTextSpec.post enc Try.prog Try.f3 false true false false) := by
  refine returnsInHanded_of_change (C := Try.checked) own_knob started (by kernel_rfl) Try.func3
    (ChangeSpec.witness6 (enc := enc) (C := Try.checked) false ⟨#[], #[.slice none 0 0, .int .i64 0], []⟩ 8 (by kernel_rfl) (by kernel_rfl) (by kernel_rfl) (by kernel_rfl)) ?_
  intro W base args ds gs before hval0 hW hcnd _
  have hval : ∀ (j : Nat) t v, Try.f3.params[j]? = some t → args[j]? = some v → Value.okWide Try.prog W .any base t v := hval0
  have hW' := hW
  obtain ⟨p, q, hA0, hV, rfl, hfz, hnd⟩ := hW
  have hA : DataW.TrodAll enc Try.prog W 0 (fun _ => true) true Try.f3.params.toList args.toList ds p := hA0
  rw [Try.params3] at hA hval
  obtain ⟨v0, vs0, d0, ds0, p0, q0, hargs, rfl, rfl, zh0, r0⟩ := trodAll_cons hA
  obtain ⟨v1, vs1, d1, ds1, p1, q1, rfl, rfl, rfl, zh1, r1⟩ := trodAll_cons r0
  obtain ⟨rfl, rfl, rfl⟩ := trodAll_nil r1
  obtain rfl : args = #[v0, v1] := by cases args; simp_all
  obtain ⟨rfl, rfl⟩ := trodVars_none hV
  have zk0 := zh0
  have zl0 : ∀ x ∈ p0, x.block < W.heap.size := by obtain ⟨m, hm⟩ := zk0; exact DataW.trod_lt m _ _ _ hm
  have zk1 := zh1
  have zl1 : ∀ x ∈ p1, x.block < W.heap.size := by obtain ⟨m, hm⟩ := zk1; exact DataW.trod_lt m _ _ _ hm
  clear hA0 hval0
  obtain ⟨a_s, n_s, c_s, rfl⟩ := okWide_slice Try.underlying22 (hval 0 22 v0 rfl rfl)
  obtain ⟨l_s, t_s, m_s, s_s⟩ := strs_in Try.underlying22 (by kernel_rfl) (by kernel_rfl) zh0
  obtain ⟨t, rfl, rfl, rfl, w_t⟩ := open_int Try.underlying3 (hval 1 3 v1 rfl rfl) zh1
  refine (walk_FnExactFillText a_s n_s c_s l_s t W t_s m_s s_s w_t).mono fun e W' ⟨he, bel⟩ => ?_
  subst he
  exact ⟨_, rfl, _, _, _, [], _, [], hW', trodAll_mk1 (shut_bool Try.underlying4 _), (trodAll_cons_mk (Below.trod laid_out (by kernel_rfl) (of_decide_eq_true (by kernel_rfl)) zk0 bel zl0) (trodAll_cons_mk (Below.trod laid_out (by kernel_rfl) (of_decide_eq_true (by kernel_rfl)) zk1 bel zl1) trodAll_mk0)), rfl, bel.frame _, fun h => by cases h⟩

/-- The statement. -/
theorem FnExactFillText_holds : Rows.FnExactFillTextSaid :=
  OpenClaim.holds_of_wide 3 Try.f3 rfl rfl rfl rfl rfl rfl rfl ⟨rfl, rfl, rfl, rfl, rfl⟩ rfl rfl rfl rfl rfl (by kernel_rfl) Try.func3 (by unfold joinedFacts; rw [may_enter, lifts_final, make_cut]; kernel_rfl)
    (of_decide_eq_true (by kernel_rfl)) (by unfold Func.isWrapper; first | (rw [if_pos (by decide +kernel)]; kernel_rfl) | (rw [if_neg (by decide +kernel)]; exact ⟨rfl, rfl⟩))
    (fun os started H enc _ => lifted_FnExactFillText os started H enc)
end Go.Proofs.Ytlfhfbeacleggaa
