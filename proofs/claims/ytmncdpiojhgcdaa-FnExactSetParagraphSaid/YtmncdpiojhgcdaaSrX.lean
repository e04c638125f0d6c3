/- The exact law on SetParagraph holds at every input: it answers as its model does, writes into no argument, and what it returns is its own. No condition. -/
import Derived.Test.YtmncdpiojhgcdaaSa
import Derived.Test.YtmncdpiojhgcdaaSrS
import Derived.Test.YtmncdpiojhgcdaaRrL
namespace Go.Proofs.Ytmncdpiojhgcdaa
open Go.ChangeShapes Go.WideShapes Go.ChangeAt Go.RowKit
set_option linter.unusedVariables false
open Classical

theorem row_lenO {w : World} {a : Option Addr} {n c : Nat} {zs : List Int} (hr : IsRow .i64 w a n c zs) : n ≤ maxLen := by
  rcases hr with ⟨_, rfl, _, _⟩ | ⟨_, _, hl, hm, _⟩
  · exact Nat.zero_le _
  · omega
theorem row_wfO {w : World} {a : Option Addr} {n c : Nat} {zs : List Int} (hr : IsRow .i64 w a n c zs) : okW (zs.take n) := by
  intro k hk
  have hm : ng (zs.take n) k ∈ zs := List.mem_of_mem_take (ng_mem hk)
  rcases hr with ⟨_, _, _, rfl⟩ | ⟨_, _, _, _, _, _, hw⟩
  · simp at hm
  · exact wf_bd (hw _ hm)
theorem frm_geX {L : List It} {E : List Int} (h : okT (-1) E (fun _ a b => (0, hasL L a b)) E.length) : ∀ k, k ≤ E.length → (k : Int) ≤ frm (-1) E k + 1 ∧ frm (-1) E k < L.length := fun k => by
  induction k with
  | zero => intro _; rw [frm_zero]; omega
  | succ k ih =>
    intro hk
    have IH := ih (by omega)
    obtain ⟨p, q, e1, e2, e3, e4, _⟩ := hasL_of (h k (by omega))
    rw [frm_succ, e2]
    omega
theorem spN_at {L : List It} {d : Int} {E : List Int} : ∀ {k i : Nat}, i < k → lgR (spN L d E k) i = setL L (frm (-1) E i) d (ng E i).toNat
  | 0, i, h => by omega
  | k + 1, i, h => by
    simp only [spN]
    rcases (by omega : i < k ∨ i = k) with e | e
    · rw [lgR_app (by rw [spN_len]; exact e), spN_at e]
    · rw [lgR_last (by rw [spN_len]; exact e), e]
theorem spO_bd (L : List It) (d : Int) (E : List Int) : (spO L d E).length ≤ 60 ∧ ∀ i, i < (spO L d E).length → (lgR (spO L d E) i).length ≤ 61 := by
  cases h : (vbO L E && inB d 1 10000)
  · rw [spO_no h]; exact ⟨by simp, fun i hi => by simp at hi⟩
  · have hv : vbO L E = true := by rw [Bool.and_eq_true] at h; exact h.1
    rw [vbO_eq] at hv
    obtain ⟨ok, _, b, _⟩ := cbV_true hv
    have h1 := frm_geX b E.length (Nat.le_refl _)
    have h2 := (isOk_iff.1 ok).2.1
    rw [spO_yes h, spN_len]
    refine ⟨by omega, fun i hi => ?_⟩
    rw [spN_at hi]
    obtain ⟨p, q, e1, e2, e3, e4, _⟩ := hasL_of (b i hi)
    rw [e2]
    have := stN_len L (d - lgW L (frm (-1) E i) q) (lgT L (frm (-1) E i) q) (lgS L (frm (-1) E i) q) (stA L (frm (-1) E i) q) (q - stA L (frm (-1) E i) q)
    rw [show ((q : Int)).toNat = q by omega]
    unfold setL
    simp
    omega
def Blk (A : Option Addr) (c : Nat) (V : List Value) (S : List (List Int)) (k : Nat) : Prop := (Value.slice A S.length c).ownBlock = some k ∨ ∃ i, i < S.length ∧ (vgR V i).ownBlock = some k
theorem RR.blk {w : World} {B c : Nat} {A : Option Addr} {V : List Value} {S : List (List Int)} (h : RR w B A c V S) : ∀ k, Blk A c V S k → B ≤ k ∧ k < w.heap.size := fun k q => by
  rcases q with q | ⟨i, hi, q⟩
  · exact h.lt k q
  · exact h.2.1.lt hi k q
theorem RR.off {w w' : World} {B c : Nat} {A : Option Addr} {V : List Value} {S : List (List Int)} {row : Option Nat} (h : RR w B A c V S) (hg : w.grownBy w' row) (hne : ∀ k, row = some k → ¬ Blk A c V S k) : RR w' B A c V S :=
  h.put (fun k _ h2 q => hg.block k h2 (fun e => hne k e.symm q))
theorem RR.far {w w' : World} {B c n : Nat} {A : Option Addr} {V : List Value} {S : List (List Int)} (h : RR w B A c V S) (hb : Below n w w') (hlt : ∀ k, Blk A c V S k → k < n) : RR w' B A c V S :=
  h.put (fun k _ _ q => hb.block k (hlt k q))
theorem RR.drewN {w : World} {B c : Nat} {A : Option Addr} {V : List Value} {S : List (List Int)} (h : RR w B A c V S) (j : Nat) : RR (w.drewN j) B A c V S := h.below (bl_drewN (bl_refl _) j)
theorem RL.below {w w' : World} {A : Option Addr} {S : List (List Int)} (h : RL w A S) (hb : Below w.heap.size w w') : RL w' A S := fun i hi => by
  obtain ⟨b, o, A1, c1, e, hl, hc, h1⟩ := h i hi
  exact ⟨b, o, A1, c1, e, Nat.lt_of_lt_of_le hl hb.size, keep_cell hb hc, h1.below hb⟩
theorem RL.drewN {w : World} {A : Option Addr} {S : List (List Int)} (h : RL w A S) (j : Nat) : RL (w.drewN j) A S := h.below (bl_drewN (bl_refl _) j)
set_option maxHeartbeats 2000000 in
theorem walk_FnExactSetParagraph (a : Option Addr) (n c : Nat) (l : List It) (a2 : Option Addr) (n2 c2 : Nat) (zs : List Int) (wd : Int) (w : World) (h : TL w a n l) (hm : n ≤ maxLen) (hr2 : IsRow .i64 w a2 n2 c2 zs) (wf1 : (Lit.int .i64 wd).wf = true) :
    Calls Try.prog 9 #[.slice a n c, .slice a2 n2 c2, .int .i64 wd] w fun e w' => e = .returned (.bool true) ∧ Below w.heap.size w w' := by
  have hy := IL.of_row hr2
  have hwf := row_wfO hr2
  obtain ⟨E, hE⟩ : ∃ E, E = zs.take n2 := ⟨_, rfl⟩
  rw [← hE] at hy hwf
  have HWF := hide hwf
  have hn2 : n2 ≤ maxLen := row_lenO hr2
  have HNL := hide h.1
  have HI := hide h
  unfold maxLen at hm hn2
  clear h wf1 hr2 hE hwf
  rcases (by omega : 1048576 < n2 ∨ n2 ≤ 1048576) with hb2 | hb2
  · go_enter Try.func9, Try.ntmps9
    go_wp2
    go_ret
    exact ⟨rfl, bl_refl _⟩
  have HY := hide hy
  have HNE := hide (show E.length ≤ 1048576 by have := hy.1; omega)
  clear hy
  rcases (by omega : (1048576 : Int) - (n : Int) < 0 ∨ 0 ≤ (1048576 : Int) - (n : Int)) with q | q
  · have SZ := fun (u : World) => szItemS_l u a n c 1048576 (by omega) (by omega) (by omega)
    rw [if_pos q] at SZ
    have HSZ := hide SZ
    clear SZ
    go_enter Try.func9, Try.ntmps9
    go_wp2_with fail
    (with_reducible refine (HSZ.out _).mono ?_)
    rintro e w' ⟨rfl, rfl⟩
    go_wp2
    go_ret
    exact ⟨rfl, bl_refl _⟩
  have hn : n ≤ 1048576 := by omega
  have hll := hide (show l.length ≤ 1048576 by rw [← HNL.out]; exact hn)
  have q' : ¬ ((1048576 : Int) - (n : Int) < 0) := by omega
  have SZ := fun (u : World) => szItemS_l u a n c 1048576 (by omega) (by omega) (by omega)
  rw [if_neg q'] at SZ
  have HSZ := hide SZ
  clear SZ
  have CS := fun (u : World) (A B : Option Addr) (c d : Nat) (h : TL u A l.length l) (h2 : IL u B E.length E) => SetParagraph_s u A B l.length c E.length d l E wd h hll.out h2 HNE.out HWF.out
  have CI := fun (u : World) (A B : Option Addr) (c d : Nat) (h : TL u A l.length l) (h2 : IL u B E.length E) => SetParagraph_i u A B l.length c E.length d l E wd h hll.out h2 HNE.out HWF.out
  have HRL := spO_bd l wd E
  obtain ⟨R, hR⟩ : ∃ t, t = spO l wd E := ⟨_, rfl⟩
  unfold RetRR at CS CI
  rw [← hR] at CS CI HRL
  have HLE := hide (show R.length ≤ 1048576 by omega)
  have HLL := hide (fun i (hi : i < R.length) => show (lgR R i).length ≤ 2000000 by have := HRL.2 i hi; omega)
  have HTT := hide (fun k (hk : k ≤ R.length) => show totR R k ≤ 900000 by have := totR_le HRL.2 k hk; omega)
  replace CS := hide CS
  replace CI := hide CI
  have kz : ¬ ((1 : Int) + 6 * (l.length : Int) + (E.length : Int) < 0) := by omega
  clear hR HRL
  go_enter Try.func9, Try.ntmps9
  go_wp2_with fail
  (with_reducible refine (HSZ.out _).mono ?_)
  rintro e w' ⟨rfl, rfl⟩
  go_wp2_with fail
  (with_reducible refine (toItemS_l _ _ _ _ l HI.out hn).mono ?_)
  rintro e u1 ⟨A1, c1, rfl, ho1, hb1⟩
  have B1 := hide hb1
  clear hb1
  go_wp2_with fail
  (with_reducible refine (toIntS_l _ _ _ _ _ (HY.out.below B1.out) hb2).mono ?_)
  rintro e u2 ⟨A2, d2, rfl, ho2, hb2'⟩
  have B2 := hide (bl_call hb2' B1.out)
  go_wp2_with fail
  (with_reducible refine (CS.out _ _ _ _ _ (TO.below ho1 hb2').reads ho2.reads).mono ?_)
  rintro e u9 ⟨A9, c9, V9, rfl, ho9, hb9⟩
  have B3 := hide (bl_call hb9 B2.out)
  have L9 := hide ho9.blk
  clear ho1 ho2 hb2' hb9
  go_wp2_with fail
  (with_reducible refine (toItemS_l _ _ _ _ l (HI.out.below B3.out) hn).mono ?_)
  rintro e u3 ⟨A3, c3, rfl, ho3, hb3⟩
  have B4 := hide (bl_call hb3 B3.out)
  have L3 := hide ho3.own_lt
  have ho9 := ho9.below hb3
  have s3 := hb3.size
  clear hb3
  go_wp2_with fail
  (with_reducible refine (toIntS_l _ _ _ _ _ (HY.out.below B4.out) hb2).mono ?_)
  rintro e u4 ⟨A4, d4, rfl, ho4, hb4⟩
  have B5 := hide (bl_call hb4 B4.out)
  have L4 := hide ho4.own_lt
  have ho3 := ho3.below hb4
  have ho9 := ho9.below hb4
  have s4 := hb4.size
  clear hb4
  go_wp2_with fail
  (with_reducible refine (CI.out _ _ _ _ _ ho3.reads ho4.reads).mono ?_)
  rintro e u5 ⟨A5, c5, V5, rfl, ho5, hb5⟩
  have B6 := hide (bl_call hb5 B5.out)
  have L5 := hide ho5.blk
  have ho3 := ho3.below hb5
  have ho4 := ho4.below hb5
  have ho9 := ho9.below hb5
  have s5 := hb5.size
  have W34 : Hid (∀ k, (Value.slice A4 E.length d4).ownBlock = some k → (Value.slice A3 l.length c3).ownBlock ≠ some k) := hide (fun k h1 h2 => by
    have a := (L4.out k h1).1
    have b := (L3.out k h2).2
    omega)
  have W35 : Hid (∀ k, (Value.slice A3 l.length c3).ownBlock = some k → ¬ Blk A5 c5 V5 R k) := hide (fun k h1 h2 => by
    have a := (L5.out k h2).1
    have b := (L3.out k h1).2
    omega)
  have W39 : Hid (∀ k, (Value.slice A3 l.length c3).ownBlock = some k → ¬ Blk A9 c9 V9 R k) := hide (fun k h1 h2 => by
    have a := (L9.out k h2).2
    have b := (L3.out k h1).1
    omega)
  have W45 : Hid (∀ k, (Value.slice A4 E.length d4).ownBlock = some k → ¬ Blk A5 c5 V5 R k) := hide (fun k h1 h2 => by
    have a := (L5.out k h2).1
    have b := (L4.out k h1).2
    omega)
  have W49 : Hid (∀ k, (Value.slice A4 E.length d4).ownBlock = some k → ¬ Blk A9 c9 V9 R k) := hide (fun k h1 h2 => by
    have a := (L9.out k h2).2
    have b := (L4.out k h1).1
    omega)
  have W59 : Hid (∀ k, Blk A9 c9 V9 R k → k < u4.heap.size) := hide (fun k h1 => by
    have a := (L9.out k h1).2
    omega)
  have K3 : Hid (∀ k, (Value.slice A3 l.length c3).ownBlock = some k → w.heap.size ≤ k) := hide (fun k h1 => Nat.le_trans B3.out.size (L3.out k h1).1)
  have K4 : Hid (∀ k, (Value.slice A4 E.length d4).ownBlock = some k → w.heap.size ≤ k) := hide (fun k h1 => Nat.le_trans B4.out.size (L4.out k h1).1)
  have K5 : Hid (w.heap.size ≤ u4.heap.size) := hide B5.out.size
  clear hb5 L3 L4 L5 L9 s3 s4 s5
  have HEQ := hide (fun (u : World) (x : Option Addr) (cx : Nat) (hx : RL u x R) (h9 : RL u A9 R) => eqIntSS_l u x A9 cx c9 R hx h9 HLE.out HLL.out)
  go_wp2_with fail
  (with_reducible refine (HEQ.out _ _ _ ho5.reads ho9.reads).mono ?_)
  rintro e w' ⟨rfl, j6, rfl⟩
  have B7 := hide (bl_drewN B6.out j6)
  have ho3 := ho3.drewN j6
  have ho4 := ho4.drewN j6
  have ho5 := ho5.drewN j6
  have ho9 := ho9.drewN j6
  go_wp2_with fail
  (with_reducible refine (toItemS_l _ _ _ _ l (HI.out.below B7.out) hn).mono ?_)
  rintro e u6 ⟨A6, c6, rfl, ho6, hb6⟩
  have B8 := hide (bl_call hb6 B7.out)
  have ho3 := ho3.below hb6
  have ho4 := ho4.below hb6
  have ho5 := ho5.below hb6
  have ho9 := ho9.below hb6
  go_wp2_with fail
  (with_reducible refine (eqItemS_l _ _ _ _ _ _ l ho3.reads ho6.reads hll.out).mono ?_)
  rintro e u7 ⟨rfl, hb7⟩
  have B9 := hide (bl_call hb7 B8.out)
  have ho3 := ho3.below hb7
  have ho4 := ho4.below hb7
  have ho5 := ho5.below hb7
  have ho9 := ho9.below hb7
  clear hb6 ho6 hb7
  go_wp2_with fail
  (with_reducible refine (toIntS_l _ _ _ _ _ (HY.out.below B9.out) hb2).mono ?_)
  rintro e u8 ⟨A8, d8, rfl, ho8, hb8⟩
  have B10 := hide (bl_call hb8 B9.out)
  have ho3 := ho3.below hb8
  have ho4 := ho4.below hb8
  have ho5 := ho5.below hb8
  have ho9 := ho9.below hb8
  go_wp2_with fail
  (with_reducible refine (eqIntS_l _ _ _ _ _ _ _ _ _ ho4.reads ho8.reads (by have := HNE.out; omega) (by have := HNE.out; omega)).mono ?_)
  rintro e w' ⟨rfl, j9, rfl⟩
  simp only [decide_true]
  have B11 := hide (bl_drewN B10.out j9)
  have ho3 := ho3.drewN j9
  have ho4 := ho4.drewN j9
  have ho5 := ho5.drewN j9
  have ho9 := ho9.drewN j9
  clear hb8 ho8
  go_wp2_with fail
  (with_reducible refine (markItemS_l _ _ _ _ _ l 1 ho3 (by have := hll.out; omega) (by omega) (by omega)).mono ?_)
  rintro e u10 ⟨rfl, hg10⟩
  have B12 := hide (B11.out.grown hg10 B11.out.size K3.out)
  have ho4 := ho4.kept hg10 (fun k h1 h2 => W34.out k h1 h2)
  have ho5 := ho5.off hg10 W35.out
  have ho9 := ho9.off hg10 W39.out
  clear hg10 ho3
  go_wp2_with fail
  (with_reducible refine (markIntS_l _ _ _ _ _ E (1 + 6 * (l.length : Int)) ho4 (by have := HNE.out; omega) (by omega) (by have := hll.out; omega)).mono ?_)
  rintro e u11 ⟨rfl, ho4', hg11⟩
  have B13 := hide (B12.out.grown hg11 B12.out.size K4.out)
  have ho5 := ho5.off hg11 W45.out
  have ho9 := ho9.off hg11 W49.out
  clear hg11 ho4 ho4'
  go_wp2_with fail
  (with_reducible refine (HEQ.out _ _ _ ho5.reads ho9.reads).mono ?_)
  rintro e w' ⟨rfl, j12, rfl⟩
  have B14 := hide (bl_drewN B13.out j12)
  have ho5 := ho5.drewN j12
  have ho9 := ho9.drewN j12
  go_wp2_with fail
  (with_reducible refine (markIntSS_l _ _ _ _ _ R 1 ho5 HLE.out HLL.out HTT.out (by omega) (by omega)).mono ?_)
  rintro e u13 ⟨rfl, hg13, T, hT, hTi, ho5'⟩
  have B15 := hide (B14.out.trans (hg13.mono K5.out))
  have ho9 := ho9.far hg13 W59.out
  have hr5 := ho5'.reads
  have HTI := hide hTi
  clear hg13 ho5 ho5' hTi
  have HHD := hide (fun (u : World) (hu : RL u A5 T) => heldIntSS_l u A5 c5 R.length R T 1 rfl hT HTI.out hu HLE.out HLL.out HTT.out (by omega) (by omega))
  have hrz : ¬ ((1 : Int) + (totR R R.length : Int) < 0) := by omega
  go_wp2_with fail
  (with_reducible refine (HHD.out _ hr5).mono ?_)
  rintro e w' ⟨rfl, rfl⟩
  go_wp2_with fail
  (with_reducible refine (toItemS_l _ _ _ _ l (HI.out.below B15.out) hn).mono ?_)
  rintro e u14 ⟨A14, c14, rfl, ho14, hb14⟩
  have B16 := hide (bl_call hb14 B15.out)
  have ho9 := ho9.below hb14
  have hr5 := hr5.below hb14
  clear hb14
  go_wp2_with fail
  (with_reducible refine (toIntS_l _ _ _ _ _ (HY.out.below B16.out) hb2).mono ?_)
  rintro e u15 ⟨A15, c15, rfl, ho15, hb15⟩
  have B17 := hide (bl_call hb15 B16.out)
  have ho9 := ho9.below hb15
  have hr5 := hr5.below hb15
  have ho14 := TO.below ho14 hb15
  clear hb15
  go_wp2_with fail
  (with_reducible refine (CI.out _ _ _ _ _ ho14.reads ho15.reads).mono ?_)
  rintro e u16 ⟨A16, c16, V16, rfl, ho16, hb16⟩
  have B18 := hide (bl_call hb16 B17.out)
  have ho9 := ho9.below hb16
  have hr5 := hr5.below hb16
  clear hb16 ho14 ho15
  go_wp2_with fail
  (with_reducible refine (HEQ.out _ _ _ ho16.reads ho9.reads).mono ?_)
  rintro e w' ⟨rfl, j17, rfl⟩
  go_wp2_with fail
  (with_reducible refine (HHD.out _ (hr5.drewN j17)).mono ?_)
  rintro e w' ⟨rfl, rfl⟩
  go_wp2
  go_ret
  exact ⟨rfl, bl_drewN B18.out j17⟩
set_option maxRecDepth 100000 in
theorem lifted_FnExactSetParagraph (os : Os) (started : os.Started) (H : Type) (enc : TypeId × Value → H) :
    ReturnsInHanded {} Try.checked os 9 .any (Rows.fnExactSetParagraphSpec.pre6 enc Try.prog Try.f9 Rows.fnExactSetParagraphRow.domain false) (Rows.fnExactSetParagraphSpec.post enc Try.prog Try.f9 false true false false) := by
  refine returnsInHanded_of_change (C := Try.checked) own_knob started (by kernel_rfl) Try.func9
    (ChangeSpec.witness6 (enc := enc) (C := Try.checked) false ⟨#[], #[.slice none 0 0, .slice none 0 0, .int .i64 0], []⟩ 8 (by kernel_rfl) (by kernel_rfl) (by kernel_rfl) (by kernel_rfl)) ?_
  intro W base args ds gs before hval0 hW hcnd _
  have hval : ∀ (j : Nat) t v, Try.f9.params[j]? = some t → args[j]? = some v → Value.okWide Try.prog W .any base t v := hval0
  have hW' := hW
  obtain ⟨p, q, hA0, hV, rfl, hfz, hnd⟩ := hW
  have hA : DataW.TrodAll enc Try.prog W 0 (fun _ => true) true Try.f9.params.toList args.toList ds p := hA0
  rw [Try.params9] at hA hval
  obtain ⟨v0, vs0, d0, ds0, p0, q0, hargs, rfl, rfl, zh0, r0⟩ := trodAll_cons hA
  obtain ⟨v1, vs1, d1, ds1, p1, q1, rfl, rfl, rfl, zh1, r1⟩ := trodAll_cons r0
  obtain ⟨v2, vs2, d2, ds2, p2, q2, rfl, rfl, rfl, zh2, r2⟩ := trodAll_cons r1
  obtain ⟨rfl, rfl, rfl⟩ := trodAll_nil r2
  obtain rfl : args = #[v0, v1, v2] := by cases args; simp_all
  obtain ⟨rfl, rfl⟩ := trodVars_none hV
  have zk0 := zh0
  have zl0 : ∀ x ∈ p0, x.block < W.heap.size := by obtain ⟨m, hm⟩ := zk0; exact DataW.trod_lt m _ _ _ hm
  have zk1 := zh1
  have zl1 : ∀ x ∈ p1, x.block < W.heap.size := by obtain ⟨m, hm⟩ := zk1; exact DataW.trod_lt m _ _ _ hm
  have zk2 := zh2
  have zl2 : ∀ x ∈ p2, x.block < W.heap.size := by obtain ⟨m, hm⟩ := zk2; exact DataW.trod_lt m _ _ _ hm
  clear hA0 hval0
  obtain ⟨a_x, n_x, c_x, rfl⟩ := okWide_slice Try.underlying22 (hval 0 22 v0 rfl rfl)
  obtain ⟨L_x, t_x, m_x, _⟩ := items_in Try.underlying22 (by kernel_rfl) (by kernel_rfl) zh0
  obtain ⟨a_b, n_b, c_b, rfl⟩ := okWide_slice Try.underlying30 (hval 1 30 v1 rfl rfl)
  obtain ⟨b, w_b⟩ := isRow_of Try.underlying30 Try.underlying3 (by kernel_rfl) zh1
  obtain ⟨m, rfl, rfl, rfl, w_m⟩ := open_int Try.underlying3 (hval 2 3 v2 rfl rfl) zh2
  refine (walk_FnExactSetParagraph a_x n_x c_x L_x a_b n_b c_b b m W t_x m_x w_b w_m).mono fun e W' ⟨he, bel⟩ => ?_
  subst he
  exact ⟨_, rfl, _, _, _, [], _, [], hW', trodAll_mk1 (shut_bool Try.underlying4 _), (trodAll_cons_mk (Below.trod laid_out (by kernel_rfl) (of_decide_eq_true (by kernel_rfl)) zk0 bel zl0) (trodAll_cons_mk (Below.trod laid_out (by kernel_rfl) (of_decide_eq_true (by kernel_rfl)) zk1 bel zl1) (trodAll_cons_mk (Below.trod laid_out (by kernel_rfl) (of_decide_eq_true (by kernel_rfl)) zk2 bel zl2) trodAll_mk0))), rfl, bel.frame _, fun h => by cases h⟩

/-- The statement. -/
theorem FnExactSetParagraph_holds : Rows.FnExactSetParagraphSaid :=
  OpenClaim.holds_of_wide 9 Try.f9 rfl rfl rfl rfl rfl rfl rfl ⟨rfl, rfl, rfl, rfl, rfl⟩ rfl rfl rfl rfl rfl (by kernel_rfl) Try.func9 (by unfold joinedFacts; rw [may_enter, lifts_final, make_cut]; kernel_rfl)
    (of_decide_eq_true (by kernel_rfl)) (by unfold Func.isWrapper; first | (rw [if_pos (by decide +kernel)]; kernel_rfl) | (rw [if_neg (by decide +kernel)]; exact ⟨rfl, rfl⟩))
    (fun os started H enc _ => lifted_FnExactSetParagraph os started H enc)
end Go.Proofs.Ytmncdpiojhgcdaa
