/- The laws on replaced items hold for every code: replaced paragraphs keep the rest, and replacing can be undone. No condition. -/
import Derived.Test.YtlkfpcajpdohiaaSa
import Derived.Test.YtlkfpcajpdohiaaRiI
import Derived.Test.YtlkfpcajpdohiaaSb
import Derived.Deep.CutRange
namespace Go.Proofs.Ytlkfpcajpdohiaa
open Go.ChangeShapes Go.WideShapes Go.ChangeAt Go.RowKit
set_option linter.unusedVariables false
set_option linter.unusedSimpArgs false
set_option maxRecDepth 10000
open Classical

theorem small_rowR {w : World} {a : Option Addr} {n c : Nat} {zs : List Int} (h : IsRow .u8 w a n c zs) : n ≤ maxLen := by
  rcases h with ⟨_, rfl, _, _⟩ | ⟨_, _, hl, hm, _⟩
  · exact Nat.zero_le _
  · omega
theorem TO_capQ {w : World} {e : TypeId} {B : Nat} {A : Option Addr} {c : Nat} {L : List It} (h : TO w e B A c L) : A = none → c = 0 := fun e => by
  subst e
  rcases h.2 with ⟨h1, _⟩ | ⟨g, cap, cur, h1, _⟩
  · injection h1
  · cases h1
theorem tl_zero {u : World} {X : Option Addr} {n : Nat} {K : List It} (h : n = K.length) (h0 : n = 0) : TL u X n K := ⟨h, fun h1 => by omega⟩
/-- What is so when items were replaced. -/
theorem rpO_law {L K : List It} {f t : Int} (h : (rpO L K f t).2 = true) : ∃ fn tn : Nat, f = fn ∧ t = tn ∧ fn ≤ tn ∧ tn ≤ L.length ∧ K.length ≤ 60 ∧ isOk L = true ∧ isOk (rpL L K fn tn) = true ∧ (rpO L K f t).1 = rpL L K fn tn := by
  unfold rpO at h ⊢
  by_cases q : (rpV L K f t && isOk (rpL L K f.toNat t.toNat)) = true
  · rw [if_pos q]
    obtain ⟨q1, q2⟩ := (Bool.and_eq_true _ _).mp q
    simp only [rpV, Bool.and_eq_true, decide_eq_true_eq] at q1
    obtain ⟨⟨⟨a, b⟩, c⟩, d⟩ := q1
    have b := inB_iff.1 b
    have c := inB_iff.1 c
    exact ⟨f.toNat, t.toNat, by omega, by omega, by omega, by omega, d, a, q2, rfl⟩
  · rw [if_neg q] at h; cases h
/-- Replacing can be undone. -/
theorem rpO_back {L K : List It} {f t : Nat} (h1 : f ≤ t) (h2 : t ≤ L.length) (h3 : isOk L = true) (h4 : isOk (rpL L K f t) = true) : rpO (rpL L K f t) ((L.drop f).take (t - f)) f ((f + K.length : Nat) : Int) = (L, true) := by
  have hl := rpL_len (L := L) (K := K) h1 h2
  have lf : (L.take f).length = f := by simp; omega
  have e : rpL (rpL L K f t) ((L.drop f).take (t - f)) f (f + K.length) = L := by
    show (rpL L K f t).take f ++ (L.drop f).take (t - f) ++ (rpL L K f t).drop (f + K.length) = L
    have e1 : (rpL L K f t).take f = L.take f := by
      unfold rpL
      rw [List.append_assoc, List.take_append_of_le_length (by omega), List.take_take, Nat.min_self]
    have e2 : (rpL L K f t).drop (f + K.length) = L.drop t := by
      unfold rpL
      have : (L.take f ++ K).length = f + K.length := by rw [List.length_append, lf]
      rw [← this, List.drop_left]
    rw [e1, e2]
    have e3 : (L.drop f).take (t - f) ++ L.drop t = L.drop f := by
      have := List.take_append_drop (t - f) (L.drop f)
      rwa [List.drop_drop, show f + (t - f) = t by omega] at this
    rw [List.append_assoc, e3, List.take_append_drop]
  have v : rpV (rpL L K f t) ((L.drop f).take (t - f)) f ((f + K.length : Nat) : Int) = true := by
    unfold rpV
    have := (isOk_iff.1 h3).2.1.2
    have l1 : ((L.drop f).take (t - f)).length ≤ 60 := by simp; omega
    rw [h4, inB_yes (by omega) (by omega), inB_yes (by omega) (by rw [hl]; omega), decide_eq_true l1]
    rfl
  have := rpO_yes (L := rpL L K f t) (K := (L.drop f).take (t - f)) (f := f) (t := f + K.length) v (by rw [e]; exact h3)
  rw [e] at this
  exact this
set_option maxHeartbeats 2000000 in
theorem DrawReplaceItems_any (w : World) (a : Option Addr) (n c : Nat) (zs : List Int) (h : IsRow .u8 w a n c zs) :
    Calls Try.prog 27 #[.slice a n c] w fun e w' => ∃ (A : Option Addr) (c : Nat) (L : List It) (f t : Int) (A2 : Option Addr) (c2 : Nat) (M : List It), e = .returned (.tuple #[.slice A L.length c, .int .i64 f, .int .i64 t, .slice A2 M.length c2]) ∧ TO w' 67 w.heap.size A c L ∧ TO w' 67 w.heap.size A2 c2 M ∧ L.length ≤ 23 ∧ M.length ≤ 23 ∧ Below w.heap.size w w' := by
  go_enter Try.func27, Try.ntmps27
  go_wp2_with fail
  (with_reducible refine (newReader_any _ _ _ _ _ h).mono ?_)
  rintro e u0 ⟨rfl, hrd, hb⟩
  have hgl : w.heap.size < u0.heap.size := hrd.lt
  go_wp2_with fail
  (with_reducible refine (anyItems_any _ _ _ _ hrd (by omega) (by omega)).mono ?_)
  rintro e u1 ⟨A, c1, L, rfl, hol, hll, hrd1, hon1⟩
  have hz1 := hon1.size
  go_wp2_with fail
  (with_reducible refine (randomItems_any _ _ _ _ hrd1 (by omega) (by omega)).mono ?_)
  rintro e u2 ⟨A2, c2, M, rfl, hol2, ⟨hl1, hl2⟩, hrd2, hon2⟩
  have hz2 := hon2.size
  have hg1 : w.heap.size < u1.heap.size := by omega
  have hol := hol.readI hon2 (by omega)
  go_wp2_with fail
  (with_reducible refine (pick_any _ _ _ _ _ hrd2 (by omega) (by omega) (by omega)).mono ?_)
  rintro e u3 ⟨r, hr0, hr1, rfl, hrd3, hon3⟩
  have hz3 := hon3.size
  have hol := hol.readI hon3 (by omega)
  have hol2 := hol2.readI hon3 (by omega)
  have HB3 := hide (on_call hon3 (on_call hon2 (on_call hon1 (on_below hb (on_refl w (some w.heap.size))))))
  obtain ⟨k, rfl⟩ := Int.eq_ofNat_of_zero_le hr0
  have hk : k < M.length := by omega
  obtain ⟨g2, rfl, _, _, hcap2, _⟩ := own_form hol2 (by omega)
  have HM := hide (hol2.take (k := k) (by omega) (by omega))
  have lk := hide (show (M.take k).length = k by simp; omega)
  have HL := hide hol
  have q1 : k ≤ c2 := by omega
  have q2 : (k : Int) ≤ (c2 : Int) := by omega
  have q3 : ¬ c2 = 0 := by omega
  clear hol hol2 hon1 hon2 hon3 hb h hrd hrd1 hrd2 hcap2
  go_wp2_with fail
  (with_reducible refine (pick_any _ _ _ _ _ hrd3 (by omega) (by omega) (by omega)).mono ?_)
  rintro e u4 ⟨s, hs0, hs1, rfl, hrd4, hon4⟩
  have hz4 := hon4.size
  have HL := hide (HL.out.readI hon4 (by omega))
  have HM := hide (HM.out.readI hon4 (by omega))
  have HB4 := hide (on_call hon4 HB3.out)
  clear hon4 hrd3
  go_wp2_with fail
  (with_reducible refine (pick_any _ _ _ _ _ hrd4 (by omega) (by omega) (by omega)).mono ?_)
  rintro e u5 ⟨x, hx0, hx1, rfl, hrd5, hon5⟩
  have hz5 := hon5.size
  have HL := hide (HL.out.readI hon5 (by omega))
  have HM := hide (HM.out.readI hon5 (by omega))
  have HB5 := hide (on_call hon5 HB4.out)
  clear hon5 hrd4
  go_wp2_with fail
  (with_reducible refine (pick_any _ _ _ _ _ hrd5 (by omega) (by omega) (by omega)).mono ?_)
  rintro e u6 ⟨y, hy0, hy1, rfl, hrd6, hon6⟩
  have hz6 := hon6.size
  have HL := hide (HL.out.readI hon6 (by omega))
  have HM := hide (HM.out.readI hon6 (by omega))
  have HB6 := hide (on_call hon6 HB5.out)
  clear hon6 hrd5
  go_wp2_with fail
  (with_reducible refine (pick_any _ _ _ _ _ hrd6 (by omega) (by omega) (by omega)).mono ?_)
  rintro e u7 ⟨v, hv0, hv1, rfl, hrd7, hon7⟩
  have hz7 := hon7.size
  have HL := hide (HL.out.readI hon7 (by omega))
  have HM := hide (HM.out.readI hon7 (by omega))
  have HB7 := hide (on_call hon7 HB6.out)
  clear hon7 hrd6
  go_wp2
  refine bodyPost_ret (v := .tuple #[.slice A L.length c1, .int .i64 (s - x), .int .i64 (s - x + y - v), .slice (some ⟨g2, 0, none⟩) k c2]) (by simp [results, Try.results27, go_sem]) rfl ?_
  exact ⟨A, c1, L, _, _, some ⟨g2, 0, none⟩, c2, M.take k, by rw [lk.out], HL.out.more (by omega), HM.out.more (by omega), hll, by rw [lk.out]; omega, on_new HB7.out (Nat.le_refl _)⟩
set_option maxHeartbeats 4000000 in
theorem walk_FnReplaceBack (a : Option Addr) (n c : Nat) (zs : List Int) (w : World) (hr : IsRow .u8 w a n c zs) :
    Calls Try.prog 8 #[.slice a n c] w fun e w' => e = .returned (.bool true) ∧ Below w.heap.size w w' := by
  have hm := small_rowR hr; unfold maxLen at hm; (rcases (by omega : 1048576 < n ∨ n ≤ 1048576) with hn | hn); (next => (go_enter Try.func8, Try.ntmps8; go_wp2; go_ret; exact ⟨rfl, bl_refl _⟩)); go_enter Try.func8, Try.ntmps8; go_wp2_with fail; (with_reducible refine (DrawReplaceItems_any _ _ _ _ _ hr).mono ?_); rintro e u0 ⟨A, c1, L, f, t, A2, c2, M, rfl, hol, hol2, hll, hll2, hb⟩; clear hr; have hc1 := TO_capi hol; have hc2 := TO_capi hol2; have hn2 := hide (TO_capQ hol2); have R1 := hide hol.reads; have R2 := hide hol2.reads; have HB := hide hb; clear hol hol2 hb; have CI := fun (V : World) (h1 : TL V A L.length L) (h2 : TL V A2 M.length M) => ReplaceItems_i V A A2 L.length c1 M.length c2 L M f t h1 (by omega) hc1 h2 (by omega) hn2.out; have CS := fun (V : World) (h1 : TL V A L.length L) (h2 : TL V A2 M.length M) => ReplaceItems_s V A A2 L.length c1 M.length c2 L M f t h1 (by omega) hc1 h2 (by omega) hn2.out; have LAW := hide (fun h => rpO_law (L := L) (K := M) (f := f) (t := t) h); unfold RetI at CI CS
  obtain ⟨V, hV⟩ : ∃ V, V = rpO L M f t := ⟨_, rfl⟩
  rw [← hV] at CI CS LAW
  obtain ⟨R, y⟩ := V
  simp only at CI CS LAW
  have rl : R.length ≤ 60 := by
    have h9 : R = (rpO L M f t).1 := by rw [← hV]
    rw [h9]
    unfold rpO
    split
    · rename_i h
      exact (isOk_iff.1 ((Bool.and_eq_true _ _).mp h).2).2.1.2
    · simp
  have HCI := hide CI
  have HCS := hide CS
  clear CI CS hV
  cases y
  · clear LAW
    go_wp2_with fail; (with_reducible refine (HCI.out _ R1.out R2.out).mono ?_); rintro e u1 ⟨A3, c3, rfl, ho3, hb1⟩; have B1 := hide (bl_call hb1 HB.out); have S1 := hide (R1.out.below hb1); have S2 := hide (R2.out.below hb1); have HO3 := hide ho3; clear hb1 ho3; go_wp2_with fail; (with_reducible refine (HCS.out _ S1.out S2.out).mono ?_); rintro e u2 ⟨A4, c4, rfl, ho4, hb2⟩; have B2 := hide (bl_call hb2 B1.out); have T1 := hide (S1.out.below hb2); have T2 := hide (S2.out.below hb2); have HO3 := hide (HO3.out.below hb2); have HR4 := hide ho4.reads; clear hb2 ho4 B1 S1 S2; go_wp2_with fail; (with_reducible refine (eqItems_l _ _ _ _ _ _ _ R R HO3.out.reads HR4.out (by omega) (by omega)).mono ?_); rintro e u3 ⟨rfl, j3, rfl⟩; simp only [decide_true]
    go_wp2_with fail
    (with_reducible refine (eqItems_l _ _ _ _ _ _ _ R R (HO3.out.drewN _).reads (HR4.out.drewN _) (by omega) (by omega)).mono ?_)
    rintro e u4 ⟨rfl, j4, rfl⟩
    simp only [decide_true]
    go_wp2
    go_ret
    exact ⟨rfl, bl_drewN B2.out _⟩
  · obtain ⟨fn, tn, rfl, rfl, hft, htl, hk, ok1, ok2, hR⟩ := LAW.out rfl
    have BK := rpO_back (L := L) (K := M) hft htl ok1 ok2
    rw [← hR] at BK
    have hl := (isOk_iff.1 ok1).2.1
    have hl2 := (isOk_iff.1 ok2).2.1
    rw [← hR] at hl2
    obtain ⟨bb, oo, rfl, _, _⟩ := R1.out.2 (by omega)
    rw [show ((fn + M.length : Nat) : Int) = (fn : Int) + (M.length : Int) by omega] at BK
    have e1 : (tn : Int) - (fn : Int) = ((tn - fn : Nat) : Int) := by omega
    have d1 : (fn : Int) ≤ (tn : Int) := by omega
    have d2 : (tn : Int) ≤ (c1 : Int) := by omega
    have d3 : tn ≤ c1 := by omega
    clear hR LAW
    by_cases hct : c1 = fn
    · obtain rfl : tn = fn := by omega
      subst hct
      rw [Nat.sub_self, List.take_zero] at BK
      clear e1
      go_wp2_with fail; (with_reducible refine (HCI.out _ R1.out R2.out).mono ?_); rintro e u1 ⟨A3, c3, rfl, ho3, hb1⟩; have B1 := hide (bl_call hb1 HB.out); have S1 := hide (R1.out.below hb1); have S2 := hide (R2.out.below hb1); have HO3 := hide ho3; clear hb1 ho3; go_wp2_with fail; (with_reducible refine (HCS.out _ S1.out S2.out).mono ?_); rintro e u2 ⟨A4, c4, rfl, ho4, hb2⟩; have B2 := hide (bl_call hb2 B1.out); have T1 := hide (S1.out.below hb2); have T2 := hide (S2.out.below hb2); have HO3 := hide (HO3.out.below hb2); have HR4 := hide ho4.reads; clear hb2 ho4 B1 S1 S2; go_wp2_with fail; (with_reducible refine (eqItems_l _ _ _ _ _ _ _ R R HO3.out.reads HR4.out (by omega) (by omega)).mono ?_); rintro e u3 ⟨rfl, j3, rfl⟩; simp only [decide_true]
      have HO5 := hide (HO3.out.drewN j3)
      have HT5 := hide (T1.out.drewN j3)
      have HB5 := hide (bl_drewN B2.out j3)
      obtain ⟨U, hU⟩ : ∃ U, U = u2.drewN j3 := ⟨_, rfl⟩
      rw [← hU] at HO5 HT5 HB5 ⊢
      clear hU HO3 HR4 T1 T2 B2 HCI HCS R1 R2 HB
      have TX := hide (show TL U (some ⟨bb, oo, none⟩) 0 ([] : List It) from ⟨rfl, fun h => by omega⟩)
      have CB := hide (ReplaceItems_i U A3 (some ⟨bb, oo, none⟩) R.length c3 0 0 R ([] : List It) c1 ((c1 : Int) + (M.length : Int)) HO5.out.reads (by omega) (TO_capi HO5.out) TX.out (by omega) (fun e => by cases e))
      unfold RetI at CB
      rw [BK] at CB
      clear BK
      go_wp2_with fail
      (with_reducible refine CB.out.mono ?_)
      rintro e u6 ⟨A6, c6, rfl, ho6, hb6⟩
      have HR6 := hide ho6.reads
      have HT6 := hide (HT5.out.below hb6)
      have HB6 := hide (bl_call hb6 HB5.out)
      clear hb6 ho6
      go_wp2_with fail
      (with_reducible refine (eqItems_l _ _ _ _ _ _ _ L L HR6.out HT6.out (by omega) (by omega)).mono ?_)
      rintro e u7 ⟨rfl, j7, rfl⟩
      simp only [decide_true]
      go_wp2
      go_ret
      exact ⟨rfl, bl_drewN HB6.out _⟩
    · skip
      go_wp2_with fail; (with_reducible refine (HCI.out _ R1.out R2.out).mono ?_); rintro e u1 ⟨A3, c3, rfl, ho3, hb1⟩; have B1 := hide (bl_call hb1 HB.out); have S1 := hide (R1.out.below hb1); have S2 := hide (R2.out.below hb1); have HO3 := hide ho3; clear hb1 ho3; go_wp2_with fail; (with_reducible refine (HCS.out _ S1.out S2.out).mono ?_); rintro e u2 ⟨A4, c4, rfl, ho4, hb2⟩; have B2 := hide (bl_call hb2 B1.out); have T1 := hide (S1.out.below hb2); have T2 := hide (S2.out.below hb2); have HO3 := hide (HO3.out.below hb2); have HR4 := hide ho4.reads; clear hb2 ho4 B1 S1 S2; go_wp2_with fail; (with_reducible refine (eqItems_l _ _ _ _ _ _ _ R R HO3.out.reads HR4.out (by omega) (by omega)).mono ?_); rintro e u3 ⟨rfl, j3, rfl⟩; simp only [decide_true]
      have HO5 := hide (HO3.out.drewN j3)
      have HT5 := hide (T1.out.drewN j3)
      have HB5 := hide (bl_drewN B2.out j3)
      obtain ⟨U, hU⟩ : ∃ U, U = u2.drewN j3 := ⟨_, rfl⟩
      rw [← hU] at HO5 HT5 HB5 ⊢
      clear hU HO3 HR4 T1 T2 B2 HCI HCS R1 R2 HB
      have TX := hide (show TL U (some ⟨bb, oo + fn * 6, none⟩) (tn - fn) ((L.drop fn).take (tn - fn)) from HT5.out.sub hft htl)
      have CB := hide (ReplaceItems_i U A3 (some ⟨bb, oo + fn * 6, none⟩) R.length c3 (tn - fn) (c1 - fn) R ((L.drop fn).take (tn - fn)) fn ((fn : Int) + (M.length : Int)) HO5.out.reads (by omega) (TO_capi HO5.out) TX.out (by omega) (fun e => by cases e))
      unfold RetI at CB
      rw [BK] at CB
      clear BK
      go_wp2_with fail
      (with_reducible refine CB.out.mono ?_)
      rintro e u6 ⟨A6, c6, rfl, ho6, hb6⟩
      have HR6 := hide ho6.reads
      have HT6 := hide (HT5.out.below hb6)
      have HB6 := hide (bl_call hb6 HB5.out)
      clear hb6 ho6
      go_wp2_with fail
      (with_reducible refine (eqItems_l _ _ _ _ _ _ _ L L HR6.out HT6.out (by omega) (by omega)).mono ?_)
      rintro e u7 ⟨rfl, j7, rfl⟩
      simp only [decide_true]
      go_wp2
      go_ret
      exact ⟨rfl, bl_drewN HB6.out _⟩
set_option maxRecDepth 100000 in
theorem lifted_FnReplaceBack (os : Os) (started : os.Started) (H : Type) (enc : TypeId × Value → H) :
    ReturnsInHanded {} Try.checked os 8 .any (Rows.fnReplaceBackSpec.pre6 enc Try.prog Try.f8 Rows.fnReplaceBackRow.domain false) (Rows.fnReplaceBackSpec.post enc Try.prog Try.f8 false true false false) := by
  refine returnsInHanded_of_change (C := Try.checked) own_knob started (by kernel_rfl) Try.func8
    (ChangeSpec.witness6 (enc := enc) (C := Try.checked) false ⟨#[], #[.slice none 0 0], []⟩ 8 (by kernel_rfl) (by kernel_rfl) (by kernel_rfl) (by kernel_rfl)) ?_
  intro W base args ds gs before hval0 hW hcnd _
  have hval : ∀ (j : Nat) t v, Try.f8.params[j]? = some t → args[j]? = some v → Value.okWide Try.prog W .any base t v := hval0
  have hW' := hW
  obtain ⟨p, q, hA0, hV, rfl, hfz, hnd⟩ := hW
  have hA : DataW.TrodAll enc Try.prog W 0 (fun _ => true) true Try.f8.params.toList args.toList ds p := hA0
  rw [Try.params8] at hA hval
  obtain ⟨v0, vs0, d0, ds0, p0, q0, hargs, rfl, rfl, zh0, r0⟩ := trodAll_cons hA
  obtain ⟨rfl, rfl, rfl⟩ := trodAll_nil r0
  obtain rfl : args = #[v0] := by cases args; simp_all
  obtain ⟨rfl, rfl⟩ := trodVars_none hV
  have zk0 := zh0
  have zl0 : ∀ x ∈ p0, x.block < W.heap.size := by obtain ⟨m, hm⟩ := zk0; exact DataW.trod_lt m _ _ _ hm
  clear hA0 hval0
  obtain ⟨a_code, n_code, c_code, rfl⟩ := okWide_slice Try.underlying29 (hval 0 29 v0 rfl rfl)
  obtain ⟨code, w_code⟩ := isRow_of Try.underlying29 Try.underlying5 (by kernel_rfl) zh0
  refine (walk_FnReplaceBack a_code n_code c_code code W w_code).mono fun e W' ⟨he, bel⟩ => ?_
  subst he
  exact ⟨_, rfl, _, _, _, [], _, [], hW', trodAll_mk1 (shut_bool Try.underlying4 _), (trodAll_cons_mk (Below.trod laid_out (by kernel_rfl) (of_decide_eq_true (by kernel_rfl)) zk0 bel zl0) trodAll_mk0), rfl, bel.frame _, fun h => by cases h⟩

/-- The statement. -/
theorem FnReplaceBack_holds : Rows.FnReplaceBackSaid :=
  OpenClaim.holds_of_wide 8 Try.f8 rfl rfl rfl rfl rfl rfl rfl ⟨rfl, rfl, rfl, rfl, rfl⟩ rfl rfl rfl rfl rfl (by kernel_rfl) Try.func8 (by unfold joinedFacts; rw [may_enter, lifts_final, make_cut]; kernel_rfl)
    (of_decide_eq_true (by kernel_rfl)) (by unfold Func.isWrapper; first | (rw [if_pos (by decide +kernel)]; kernel_rfl) | (rw [if_neg (by decide +kernel)]; exact ⟨rfl, rfl⟩))
    (fun os started H enc _ => lifted_FnReplaceBack os started H enc)
set_option maxHeartbeats 8000000 in
theorem walk_FnReplaceItems (a : Option Addr) (n c : Nat) (zs : List Int) (w : World) (hr : IsRow .u8 w a n c zs) :
    Calls Try.prog 7 #[.slice a n c] w fun e w' => e = .returned (.bool true) ∧ Below w.heap.size w w' := by
  have hm := small_rowR hr; unfold maxLen at hm; (rcases (by omega : 1048576 < n ∨ n ≤ 1048576) with hn | hn); (next => (go_enter Try.func7, Try.ntmps7; go_wp2; go_ret; exact ⟨rfl, bl_refl _⟩)); go_enter Try.func7, Try.ntmps7; go_wp2_with fail; (with_reducible refine (DrawReplaceItems_any _ _ _ _ _ hr).mono ?_); rintro e u0 ⟨A, c1, L, f, t, A2, c2, M, rfl, hol, hol2, hll, hll2, hb⟩; clear hr; have hc1 := TO_capi hol; have hc2 := TO_capi hol2; have hn2 := hide (TO_capQ hol2); have R1 := hide hol.reads; have R2 := hide hol2.reads; have HB := hide hb; clear hol hol2 hb; have CI := fun (V : World) (h1 : TL V A L.length L) (h2 : TL V A2 M.length M) => ReplaceItems_i V A A2 L.length c1 M.length c2 L M f t h1 (by omega) hc1 h2 (by omega) hn2.out; have CS := fun (V : World) (h1 : TL V A L.length L) (h2 : TL V A2 M.length M) => ReplaceItems_s V A A2 L.length c1 M.length c2 L M f t h1 (by omega) hc1 h2 (by omega) hn2.out; have LAW := hide (fun h => rpO_law (L := L) (K := M) (f := f) (t := t) h); unfold RetI at CI CS
  obtain ⟨V, hV⟩ : ∃ V, V = rpO L M f t := ⟨_, rfl⟩
  rw [← hV] at CI CS LAW
  obtain ⟨R, y⟩ := V
  simp only at CI CS LAW
  have rl : R.length ≤ 60 := by
    have h9 : R = (rpO L M f t).1 := by rw [← hV]
    rw [h9]
    unfold rpO
    split
    · rename_i h
      exact (isOk_iff.1 ((Bool.and_eq_true _ _).mp h).2).2.1.2
    · simp
  have HCI := hide CI
  have HCS := hide CS
  clear CI CS hV
  cases y
  · clear LAW
    go_wp2_with fail; (with_reducible refine (HCI.out _ R1.out R2.out).mono ?_); rintro e u1 ⟨A3, c3, rfl, ho3, hb1⟩; have B1 := hide (bl_call hb1 HB.out); have S1 := hide (R1.out.below hb1); have S2 := hide (R2.out.below hb1); have HO3 := hide ho3; clear hb1 ho3; go_wp2_with fail; (with_reducible refine (HCS.out _ S1.out S2.out).mono ?_); rintro e u2 ⟨A4, c4, rfl, ho4, hb2⟩; have B2 := hide (bl_call hb2 B1.out); have T1 := hide (S1.out.below hb2); have T2 := hide (S2.out.below hb2); have HO3 := hide (HO3.out.below hb2); have HR4 := hide ho4.reads; clear hb2 ho4 B1 S1 S2; go_wp2_with fail; (with_reducible refine (eqItems_l _ _ _ _ _ _ _ R R HO3.out.reads HR4.out (by omega) (by omega)).mono ?_); rintro e u3 ⟨rfl, j3, rfl⟩; simp only [decide_true]
    go_wp2_with fail
    (with_reducible refine (eqItems_l _ _ _ _ _ _ _ R R (HO3.out.drewN _).reads (HR4.out.drewN _) (by omega) (by omega)).mono ?_)
    rintro e u4 ⟨rfl, j4, rfl⟩
    simp only [decide_true]
    go_wp2
    go_ret
    exact ⟨rfl, bl_drewN B2.out _⟩
  · obtain ⟨fn, tn, rfl, rfl, hft, htl, hk, ok1, ok2, hR⟩ := LAW.out rfl
    have hl := (isOk_iff.1 ok1).2.1
    have hl2 := (isOk_iff.1 ok2).2.1
    rw [← hR] at hl2
    have RL := rpL_len (L := L) (K := M) hft htl
    rw [← hR] at RL
    have lf : (L.take fn).length = fn := by simp; omega
    have E1 := hide (show R.take fn = L.take fn by
      rw [hR]; unfold rpL
      rw [List.append_assoc, List.take_append_of_le_length (by omega), List.take_take, Nat.min_self])
    have E2 := hide (show R.drop (fn + M.length) = L.drop tn by
      rw [hR]; unfold rpL
      have : (L.take fn ++ M).length = fn + M.length := by rw [List.length_append, lf]
      rw [← this, List.drop_left])
    have E3 := hide (show (R.drop fn).take (fn + M.length - fn) = M by
      rw [hR]; unfold rpL
      rw [List.append_assoc, List.drop_append_of_le_length (by omega), List.drop_take, Nat.sub_self, List.take_zero, List.nil_append, show fn + M.length - fn = M.length by omega, List.take_left])
    obtain ⟨bb, oo, rfl, _, _⟩ := R1.out.2 (by omega)
    clear hR LAW lf ok1 ok2
    have en : (L.length : Int) - ((tn : Int) - (fn : Int)) + (M.length : Int) = (R.length : Int) := by omega
    obtain ⟨fk, hfk⟩ : ∃ fk, fk = fn + M.length := ⟨_, rfl⟩
    have es : (R.length : Int) - (L.length : Int) + (tn : Int) = (fk : Int) := by omega
    have es2 : (fn : Int) + (M.length : Int) = (fk : Int) := by omega
    have x5 : fk ≤ R.length := by omega
    have x6 : (fk : Int) ≤ (R.length : Int) := by omega
    have x7 : (tn : Int) ≤ (L.length : Int) := by omega
    have x8 : (fn : Int) ≤ (fk : Int) := by omega
    have y1 : (fk : Int) - (fn : Int) = ((fk - fn : Nat) : Int) := by omega
    have y2 : (R.length : Int) - (fk : Int) = ((R.length - fk : Nat) : Int) := by omega
    have y3 : (L.length : Int) - (tn : Int) = ((L.length - tn : Nat) : Int) := by omega
    have fkn : fk - fn ≤ 60 := by omega
    have HZF := hide (show fk - fn = M.length by omega)
    rw [← hfk] at E2 E3
    have HFK := hide hfk
    have hfn : fn ≤ R.length := by omega
    have fkn2 : fn ≤ fk := by omega
    clear hfk RL
    go_wp2_with fail; (with_reducible refine (HCI.out _ R1.out R2.out).mono ?_); rintro e u1 ⟨A3, c3, rfl, ho3, hb1⟩; have B1 := hide (bl_call hb1 HB.out); have S1 := hide (R1.out.below hb1); have S2 := hide (R2.out.below hb1); have HO3 := hide ho3; clear hb1 ho3; go_wp2_with fail; (with_reducible refine (HCS.out _ S1.out S2.out).mono ?_); rintro e u2 ⟨A4, c4, rfl, ho4, hb2⟩; have B2 := hide (bl_call hb2 B1.out); have T1 := hide (S1.out.below hb2); have T2 := hide (S2.out.below hb2); have HO3 := hide (HO3.out.below hb2); have HR4 := hide ho4.reads; clear hb2 ho4 B1 S1 S2; go_wp2_with fail; (with_reducible refine (eqItems_l _ _ _ _ _ _ _ R R HO3.out.reads HR4.out (by omega) (by omega)).mono ?_); rintro e u3 ⟨rfl, j3, rfl⟩; simp only [decide_true]
    have HO5 := hide (HO3.out.drewN j3)
    have HT5 := hide (T1.out.drewN j3)
    have HM5 := hide (T2.out.drewN j3)
    have HB5 := hide (bl_drewN B2.out j3)
    obtain ⟨U, hU⟩ : ∃ U, U = u2.drewN j3 := ⟨_, rfl⟩
    rw [← hU] at HO5 HT5 HM5 HB5 ⊢
    clear hU HO3 HR4 T1 T2 B2 HCI HCS R1 R2 HB
    obtain ⟨g3, rfl, _, _, hcap3, _⟩ := own_form HO5.out (by omega)
    have I1 := hide (show TL U (some ⟨g3, 0, none⟩) fn (L.take fn) by rw [← E1.out]; exact HO5.out.reads.takei (by omega))
    have J1 := hide (show TL U (some ⟨bb, oo, none⟩) fn (L.take fn) from HT5.out.takei (by omega))
    have I2 := hide (show TL U (some ⟨g3, fk * 6, none⟩) (R.length - fk) (L.drop tn) by rw [← E2.out]; have h9 := HO5.out.reads.from_ (t := fk) (by omega); rwa [Nat.zero_add] at h9)
    have J2 := hide (show TL U (some ⟨bb, oo + tn * 6, none⟩) (L.length - tn) (L.drop tn) from HT5.out.from_ htl)
    have I3 := hide (show TL U (some ⟨g3, fn * 6, none⟩) (fk - fn) M by
      have h9 := HO5.out.reads.sub (f := fn) (t := fk) (by omega) (by omega)
      rw [E3.out, Nat.zero_add] at h9
      exact h9)
    have EQ := hide (fun (u : World) (X Y : Option Addr) (n m cx cy : Nat) (K : List It) (h1 : TL u X n K) (h2 : TL u Y m K) (hn : n ≤ 1000) (hm : m ≤ 1000) => show Calls Try.prog 28 #[.slice X n cx, .slice Y m cy] u fun e w' => e = .returned (.bool true) ∧ ∃ j, u.drewN j = w' from by
      have h9 := eqItems_l u X Y n m cx cy K K h1 h2 (by omega) (by omega)
      rwa [decide_eq_true rfl] at h9)
    have x1 : fn ≤ c3 := by omega
    have x2 : (fn : Int) ≤ (c3 : Int) := by omega
    have x3 : fn ≤ c1 := by omega
    have x4 : (fn : Int) ≤ (c1 : Int) := by omega
    have x9 : fk ≤ c3 := by omega
    have x10 : (fk : Int) ≤ (c3 : Int) := by omega
    clear E1 E2 E3
    go_upto_region 9 with fail
    clear en
    have w1 : IntKind.i64.wrap ((R.length : Int) - (L.length : Int)) = (R.length : Int) - (L.length : Int) := IntWalk.i64_in _ (by omega)
    have w2 : IntKind.i64.wrap (fk : Int) = (fk : Int) := IntWalk.i64_in _ (by omega)
    have S0 := bl_drew (bl_refl U)
    by_cases hA : c3 = fk <;> by_cases hB : c1 = tn <;> by_cases hC : c3 = fn
    all_goals (try (exfalso; omega))
    all_goals
      (try (have hD : ¬ fk = fn := (by omega)))
      refine wp_region_held_drew (S := fun u : World => Below U.heap.size U u) (by kernel_rfl) (S0) (fun hHeld => ?_)
      (first | refine tky 0 (h := ?_) | refine tkn 0 (h := ?_)); (try simp only [Act.put, tkd, tke, tkf])
      (first | refine tky 1 (h := ?_) | refine tkn 1 (h := ?_)); (try simp only [Act.put, tkd, tke, tkf])
      (first | refine tky 2 (h := ?_) | refine tkn 2 (h := ?_)); (try simp only [Act.put, tkd, tke, tkf])
      (first | refine tky 3 (h := ?_) | refine tkn 3 (h := ?_)); (try simp only [Act.put, tkd, tke, tkf])
      (first | refine tky 4 (h := ?_) | refine tkn 4 (h := ?_)); (try simp only [Act.put, tkd, tke, tkf])
      (first | refine tky 5 (h := ?_) | refine tkn 5 (h := ?_)); (try simp only [Act.put, tkd, tke, tkf])
      (first | refine tky 6 (h := ?_) | refine tkn 6 (h := ?_)); (try simp only [Act.put, tkd, tke, tkf])
      (first | refine tky 7 (h := ?_) | refine tkn 7 (h := ?_)); (try simp only [Act.put, tkd, tke, tkf])
      (first | refine tky 8 (h := ?_) | refine tkn 8 (h := ?_)); (try simp only [Act.put, tkd, tke, tkf])
      (first | refine tky 9 (h := ?_) | refine tkn 9 (h := ?_)); (try simp only [Act.put, tkd, tke, tkf])
      (first | refine tky 10 (h := ?_) | refine tkn 10 (h := ?_)); (try simp only [Act.put, tkd, tke, tkf])
      refine wpAnyH_ready (rs := [11]) (by kernel_rfl) (by simp) ?_; refine AllReadyH.cons (o := ?_) ?_ (fun K hK => ?_) AllReadyH.nil; rotate_left 1; (next => simp only [List.getElem?_toArray, List.getElem?_cons_succ, List.getElem?_cons_zero]; rfl); go_simp
      go_at_call 28; (with_reducible refine (EQ.out _ _ _ _ _ _ _ (L.take fn) ?_ ?_ (by omega) (by omega)).mono ?_); (next => first | exact (I1.out).below (by repeat' (first | exact bl_refl _ | refine bl_drew ?_ | refine bl_drewN ?_ _)) | exact tl_zero (by first | omega | (have := HZF.out; omega) | (simp; done) | (simp; omega)) (by first | rfl | omega | (have := HZF.out; omega))); (next => first | exact (J1.out).below (by repeat' (first | exact bl_refl _ | refine bl_drew ?_ | refine bl_drewN ?_ _)) | exact tl_zero (by first | omega | (have := HZF.out; omega) | (simp; done) | (simp; omega)) (by first | rfl | omega | (have := HZF.out; omega))); rintro e w' ⟨rfl, jj, rfl⟩
      (try go_wp2_with fail); refine hK.out _ _ ((by repeat' (first | exact bl_refl _ | refine bl_drew ?_ | refine bl_drewN ?_ _))) (fun hHeld => ?_); clear hK K; (try simp only [Act.put, List.setIfInBounds_toArray, List.set_cons_zero, List.set_cons_succ])
      (first | refine tky 12 (h := ?_) | refine tkn 12 (h := ?_)); (try simp only [Act.put, tkd, tke, tkf])
      (first | refine tky 13 (h := ?_) | refine tkn 13 (h := ?_)); (try simp only [Act.put, tkd, tke, tkf])
      (first | refine tky 14 (h := ?_) | refine tkn 14 (h := ?_)); (try simp only [Act.put, tkd, tke, tkf])
      (first | refine tky 15 (h := ?_) | refine tkn 15 (h := ?_)); (try simp only [Act.put, tkd, tke, tkf])
      (first | refine tky 16 (h := ?_) | refine tkn 16 (h := ?_)); (try simp only [Act.put, tkd, tke, tkf])
      (first | refine tky 17 (h := ?_) | refine tkn 17 (h := ?_)); (try simp only [Act.put, tkd, tke, tkf])
      (first | refine tky 18 (h := ?_) | refine tkn 18 (h := ?_)); (try simp only [Act.put, tkd, tke, tkf])
      (first | refine tky 19 (h := ?_) | refine tkn 19 (h := ?_)); (try simp only [Act.put, tkd, tke, tkf])
      (first | refine tky 20 (h := ?_) | refine tkn 20 (h := ?_)); (try simp only [Act.put, tkd, tke, tkf])
      (first | refine tky 21 (h := ?_) | refine tkn 21 (h := ?_)); (try simp only [Act.put, tkd, tke, tkf])
      (first | refine tky 22 (h := ?_) | refine tkn 22 (h := ?_)); (try simp only [Act.put, tkd, tke, tkf])
      (first | refine tky 23 (h := ?_) | refine tkn 23 (h := ?_)); (try simp only [Act.put, tkd, tke, tkf])
      (first | refine tky 24 (h := ?_) | refine tkn 24 (h := ?_)); (try simp only [Act.put, tkd, tke, tkf])
      refine wpAnyH_ready (rs := [25]) (by kernel_rfl) (by simp) ?_; refine AllReadyH.cons (o := ?_) ?_ (fun K hK => ?_) AllReadyH.nil; rotate_left 1; (next => simp only [List.getElem?_toArray, List.getElem?_cons_succ, List.getElem?_cons_zero]; rfl); go_simp
      go_at_call 28; (with_reducible refine (EQ.out _ _ _ _ _ _ _ (L.drop tn) ?_ ?_ (by omega) (by omega)).mono ?_); (next => first | exact (I2.out).below (by repeat' (first | exact bl_refl _ | refine bl_drew ?_ | refine bl_drewN ?_ _)) | exact tl_zero (by first | omega | (have := HZF.out; omega) | (simp; done) | (simp; omega)) (by first | rfl | omega | (have := HZF.out; omega))); (next => first | exact (J2.out).below (by repeat' (first | exact bl_refl _ | refine bl_drew ?_ | refine bl_drewN ?_ _)) | exact tl_zero (by first | omega | (have := HZF.out; omega) | (simp; done) | (simp; omega)) (by first | rfl | omega | (have := HZF.out; omega))); rintro e w' ⟨rfl, jj, rfl⟩
      (try go_wp2_with fail); refine hK.out _ _ ((by repeat' (first | exact bl_refl _ | refine bl_drew ?_ | refine bl_drewN ?_ _))) (fun hHeld => ?_); clear hK K; (try simp only [Act.put, List.setIfInBounds_toArray, List.set_cons_zero, List.set_cons_succ])
      (first | refine tky 26 (h := ?_) | refine tkn 26 (h := ?_)); (try simp only [Act.put, tkd, tke, tkf])
      (first | refine tky 27 (h := ?_) | refine tkn 27 (h := ?_)); (try simp only [Act.put, tkd, tke, tkf])
      (first | refine tky 28 (h := ?_) | refine tkn 28 (h := ?_)); (try simp only [Act.put, tkd, tke, tkf])
      (first | refine tky 29 (h := ?_) | refine tkn 29 (h := ?_)); (try simp only [Act.put, tkd, tke, tkf])
      (first | refine tky 30 (h := ?_) | refine tkn 30 (h := ?_)); (try simp only [Act.put, tkd, tke, tkf])
      (first | refine tky 31 (h := ?_) | refine tkn 31 (h := ?_)); (try simp only [Act.put, tkd, tke, tkf])
      (first | refine tky 32 (h := ?_) | refine tkn 32 (h := ?_)); (try simp only [Act.put, tkd, tke, tkf])
      (first | refine tky 33 (h := ?_) | refine tkn 33 (h := ?_)); (try simp only [Act.put, tkd, tke, tkf])
      (first | refine tky 34 (h := ?_) | refine tkn 34 (h := ?_)); (try simp only [Act.put, tkd, tke, tkf])
      (first | refine tky 35 (h := ?_) | refine tkn 35 (h := ?_)); (try simp only [Act.put, tkd, tke, tkf])
      refine wpAnyH_ready (rs := [36]) (by kernel_rfl) (by simp) ?_; refine AllReadyH.cons (o := ?_) ?_ (fun K hK => ?_) AllReadyH.nil; rotate_left 1; (next => simp only [List.getElem?_toArray, List.getElem?_cons_succ, List.getElem?_cons_zero]; rfl); go_simp
      go_at_call 28; (with_reducible refine (EQ.out _ _ _ _ _ _ _ (M) ?_ ?_ (by omega) (by omega)).mono ?_); (next => first | exact (I3.out).below (by repeat' (first | exact bl_refl _ | refine bl_drew ?_ | refine bl_drewN ?_ _)) | exact tl_zero (by first | omega | (have := HZF.out; omega) | (simp; done) | (simp; omega)) (by first | rfl | omega | (have := HZF.out; omega))); (next => first | exact (HM5.out).below (by repeat' (first | exact bl_refl _ | refine bl_drew ?_ | refine bl_drewN ?_ _)) | exact tl_zero (by first | omega | (have := HZF.out; omega) | (simp; done) | (simp; omega)) (by first | rfl | omega | (have := HZF.out; omega))); rintro e w' ⟨rfl, jj, rfl⟩
      (try go_wp2_with fail); refine hK.out _ _ ((by repeat' (first | exact bl_refl _ | refine bl_drew ?_ | refine bl_drewN ?_ _))) (fun hHeld => ?_); clear hK K; (try simp only [Act.put, List.setIfInBounds_toArray, List.set_cons_zero, List.set_cons_succ])
      (first | refine tky 37 (h := ?_) | refine tkn 37 (h := ?_)); (try simp only [Act.put, tkd, tke, tkf])
      (first | refine tky 38 (h := ?_) | refine tkn 38 (h := ?_)); (try simp only [Act.put, tkd, tke, tkf])
      refine wpAnyH_done (by kernel_rfl) ?_ _
      go_wp2
      go_ret
      exact ⟨rfl, bl_call (show Below U.heap.size U _ from (by repeat' (first | exact bl_refl _ | refine bl_drew ?_ | refine bl_drewN ?_ _))) HB5.out⟩
set_option maxRecDepth 100000 in
theorem lifted_FnReplaceItems (os : Os) (started : os.Started) (H : Type) (enc : TypeId × Value → H) :
    ReturnsInHanded {} Try.checked os 7 .any (Rows.fnReplaceItemsSpec.pre6 enc Try.prog Try.f7 Rows.fnReplaceItemsRow.domain false) (Rows.fnReplaceItemsSpec.post enc Try.prog Try.f7 false true false false) := by
  refine returnsInHanded_of_change (C := Try.checked) own_knob started (by kernel_rfl) Try.func7
    (ChangeSpec.witness6 (enc := enc) (C := Try.checked) false ⟨#[], #[.slice none 0 0], []⟩ 8 (by kernel_rfl) (by kernel_rfl) (by kernel_rfl) (by kernel_rfl)) ?_
  intro W base args ds gs before hval0 hW hcnd _
  have hval : ∀ (j : Nat) t v, Try.f7.params[j]? = some t → args[j]? = some v → Value.okWide Try.prog W .any base t v := hval0
  have hW' := hW
  obtain ⟨p, q, hA0, hV, rfl, hfz, hnd⟩ := hW
  have hA : DataW.TrodAll enc Try.prog W 0 (fun _ => true) true Try.f7.params.toList args.toList ds p := hA0
  rw [Try.params7] at hA hval
  obtain ⟨v0, vs0, d0, ds0, p0, q0, hargs, rfl, rfl, zh0, r0⟩ := trodAll_cons hA
  obtain ⟨rfl, rfl, rfl⟩ := trodAll_nil r0
  obtain rfl : args = #[v0] := by cases args; simp_all
  obtain ⟨rfl, rfl⟩ := trodVars_none hV
  have zk0 := zh0
  have zl0 : ∀ x ∈ p0, x.block < W.heap.size := by obtain ⟨m, hm⟩ := zk0; exact DataW.trod_lt m _ _ _ hm
  clear hA0 hval0
  obtain ⟨a_code, n_code, c_code, rfl⟩ := okWide_slice Try.underlying29 (hval 0 29 v0 rfl rfl)
  obtain ⟨code, w_code⟩ := isRow_of Try.underlying29 Try.underlying5 (by kernel_rfl) zh0
  refine (walk_FnReplaceItems a_code n_code c_code code W w_code).mono fun e W' ⟨he, bel⟩ => ?_
  subst he
  exact ⟨_, rfl, _, _, _, [], _, [], hW', trodAll_mk1 (shut_bool Try.underlying4 _), (trodAll_cons_mk (Below.trod laid_out (by kernel_rfl) (of_decide_eq_true (by kernel_rfl)) zk0 bel zl0) trodAll_mk0), rfl, bel.frame _, fun h => by cases h⟩

/-- The statement. -/
theorem FnReplaceItems_holds : Rows.FnReplaceItemsSaid :=
  OpenClaim.holds_of_wide 7 Try.f7 rfl rfl rfl rfl rfl rfl rfl ⟨rfl, rfl, rfl, rfl, rfl⟩ rfl rfl rfl rfl rfl (by kernel_rfl) Try.func7 (by unfold joinedFacts; rw [may_enter, lifts_final, make_cut]; kernel_rfl)
    (of_decide_eq_true (by kernel_rfl)) (by unfold Func.isWrapper; first | (rw [if_pos (by decide +kernel)]; kernel_rfl) | (rw [if_neg (by decide +kernel)]; exact ⟨rfl, rfl⟩))
    (fun os started H enc _ => lifted_FnReplaceItems os started H enc)
end Go.Proofs.Ytlkfpcajpdohiaa
