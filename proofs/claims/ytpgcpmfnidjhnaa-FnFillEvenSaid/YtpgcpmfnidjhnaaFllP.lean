/- The law on filled lines holds at every input. No condition. -/
import Derived.Test.YtpgcpmfnidjhnaaJn
import Derived.Test.YtpgcpmfnidjhnaaFll
import Derived.Test.YtpgcpmfnidjhnaaDrawW
import Derived.BigQuiet
namespace Go.Proofs.Ytpgcpmfnidjhnaa
open Go.ChangeShapes Go.WideShapes Go.ChangeAt Go.RowKit
set_option linter.unusedVariables false
open Classical

theorem small_rowf {w : World} {a : Option Addr} {n c : Nat} {zs : List Int} (h : IsRow .u8 w a n c zs) : n ≤ maxLen := by
  rcases h with ⟨_, rfl, _, _⟩ | ⟨_, _, hl, hm, _⟩
  · exact Nat.zero_le _
  · omega
theorem fb_len_eq {l : List ByteArray} {r k : Nat} (hk : k ≤ l.length - 1) : (fb l r (k + 1)).length = sm l (k + 1) + k + r * k / (l.length - 1) := by
  induction k with
  | zero => simp [fb, sm]
  | succ k ih =>
    have a := ih (by omega)
    have e : fb l r (k + 1 + 1) = fb l r (k + 1) ++ (if k + 1 = 0 then [] else List.replicate (1 + gp r (l.length - 1) (k + 1)) 32) ++ (sg l (k + 1)).data.toList := rfl
    have b : sm l (k + 1 + 1) = sm l (k + 1) + (sg l (k + 1)).size := rfl
    have d : (sg l (k + 1)).data.toList.length = (sg l (k + 1)).size := by simp
    have m : r * k / (l.length - 1) ≤ r * (k + 1) / (l.length - 1) := Nat.div_le_div_right (Nat.mul_le_mul_left _ (by omega))
    have g : gp r (l.length - 1) (k + 1) = r * (k + 1) / (l.length - 1) - r * k / (l.length - 1) := by simp [gp]
    rw [e, if_neg (by omega), List.length_append, List.length_append, List.length_replicate, a, b, d, g]
    omega
theorem fb_head (l : List ByteArray) (r k : Nat) : ∃ t, fb l r (k + 1) = (sg l 0).data.toList ++ t := by
  induction k with
  | zero => exact ⟨[], by simp [fb]⟩
  | succ k ih =>
    obtain ⟨t, ht⟩ := ih
    have e : fb l r (k + 1 + 1) = fb l r (k + 1) ++ (if k + 1 = 0 then [] else List.replicate (1 + gp r (l.length - 1) (k + 1)) 32) ++ (sg l (k + 1)).data.toList := rfl
    rw [e, ht, List.append_assoc, List.append_assoc]
    exact ⟨_, rfl⟩
theorem fb_tail (l : List ByteArray) (r k : Nat) : ∃ t, fb l r (k + 1) = t ++ (sg l k).data.toList := ⟨_, rfl⟩
theorem cut_head (a : ByteArray) (t : List UInt8) : ((mkb (a.data.toList ++ t)).extract 0 a.size).toList = a.toList := by
  have d : a.data.toList.length = a.size := by simp
  rw [Lib.toList_data, Lib.toList_data, Lib.extract_data]
  simp only [mkb, List.toList_toArray, List.drop_zero, Nat.sub_zero]
  rw [← d, List.take_left]
theorem cut_tail (a : ByteArray) (t : List UInt8) (d : Nat) (hd : (mkb (t ++ a.data.toList)).size = d + a.size) : ((mkb (t ++ a.data.toList)).extract d (mkb (t ++ a.data.toList)).size).toList = a.toList := by
  have e : a.data.toList.length = a.size := by simp
  have s : (mkb (t ++ a.data.toList)).size = t.length + a.size := by rw [mkb_size, List.length_append, e]
  have h : d = t.length := by omega
  subst h
  rw [Lib.toList_data, Lib.toList_data, Lib.extract_data, s]
  simp only [mkb, List.toList_toArray]
  rw [List.drop_left, List.take_of_length_le (by omega)]
/-- What is known of a line that was filled. -/
structure FlOk (l : List ByteArray) (wd : Int) (t : ByteArray) : Prop where
  len0 : 1 ≤ l.length
  head : ((t.extract 0 (sg l 0).size).toList) = (sg l 0).toList
  headle : (sg l 0).size ≤ t.size
  tail : ∀ d, t.size = d + (sg l (l.length - 1)).size → ((t.extract d t.size).toList) = (sg l (l.length - 1)).toList
  taille : (sg l (l.length - 1)).size ≤ t.size
  one : l.length = 1 → t = sg l 0
  more : 1 < l.length → (t.size : Int) = wd
theorem fl_ok {l : List ByteArray} {wd : Int} (h : ¬ (fll l wd).size = 0) : FlOk l wd (fll l wd) := by
  by_cases c : flO l wd
  · obtain ⟨h1, h2, h3, h4⟩ := c
    obtain ⟨r, hr⟩ : ∃ r : Nat, r = (wd - ((l.length - 1 + sm l l.length : Nat) : Int)).toNat := ⟨_, rfl⟩
    have e := fll_yes ⟨h1, h2, h3, h4⟩
    rw [← hr] at e
    obtain ⟨g, hg⟩ : ∃ g, l.length = g + 1 := ⟨l.length - 1, by omega⟩
    have g1 : l.length - 1 = g := by omega
    rw [hg] at e
    obtain ⟨t, ht⟩ := fb_head l r g
    obtain ⟨s, hs⟩ := fb_tail l r g
    have z1 : (sg l 0).data.toList.length = (sg l 0).size := by simp
    have z2 : (sg l g).data.toList.length = (sg l g).size := by simp
    refine ⟨h3, ?_, ?_, ?_, ?_, ?_, ?_⟩
    · rw [e, ht]; exact cut_head _ _
    · rw [e, ht, mkb_size, List.length_append, z1]; omega
    · rw [g1, e, hs]; exact fun d hd => cut_tail _ _ d hd
    · rw [g1, e, hs, mkb_size, List.length_append, z2]; omega
    · intro h5
      have : g = 0 := by omega
      subst this
      rw [e]
      simp only [fb, if_true]
      rw [List.nil_append, List.nil_append, mkb_data]
    · intro h5
      have k := fb_len_eq (l := l) (r := r) (k := g) (by omega)
      rw [g1, Nat.mul_div_cancel _ (by omega)] at k
      rw [e, mkb_size, k]
      rw [g1, hg] at hr h4
      omega
  · rw [fll_no c] at h
    exact absurd rfl h
set_option maxRecDepth 8000 in
set_option maxHeartbeats 4000000 in
theorem walk_FnFillLine (a : Option Addr) (n c : Nat) (zs : List Int) (w : World) (hr : IsRow .u8 w a n c zs) :
    Calls Try.prog 14 #[.slice a n c] w fun e w' => e = .returned (.bool true) ∧ Below w.heap.size w w' := by
  have hm := small_rowf hr
  unfold maxLen at hm
  rcases (by omega : 1048576 < n ∨ n ≤ 1048576) with hn | hn
  · go_enter Try.func14, Try.ntmps14
    go_wp2
    go_ret
    exact ⟨rfl, bl_refl _⟩
  go_enter Try.func14, Try.ntmps14
  go_wp2_with fail
  (with_reducible refine (DrawFillLine_any _ _ _ _ _ hr).mono ?_)
  rintro e u0 ⟨A, cc, l, wd, rfl, hol, hll, hwq, ⟨wd0, wd1⟩, hb⟩
  clear hr
  have R := hide hol.reads
  have HSZ := hide (fun k (hk : k < l.length) => show (sg l k).size ≤ 1048576 by have := hwq k hk; omega)
  have HWQ := hide hwq
  have HB := hide hb
  clear hol hb hwq
  have CI := hide (fun (V : World) (h : SL V A l.length l) => FillLine_i V A l.length cc wd l h HSZ.out (by omega))
  have CS := hide (fun (V : World) (h : SL V A l.length l) => FillLine_s V A l.length cc wd l h HSZ.out (by omega))
  have OK := hide (fun h => fl_ok (l := l) (wd := wd) h)
  obtain ⟨t, ht⟩ : ∃ t, t = fll l wd := ⟨_, rfl⟩
  rw [← ht] at CI CS OK
  clear ht
  have tt := teq_yes t
  have tt' : (t.toList != t.toList) = false := by simp
  rcases Nat.eq_zero_or_pos t.size with h0 | h0
  · have q1 : t.toList = [] := by rw [Lib.toList_data]; exact List.eq_nil_of_length_eq_zero (by rw [← Lib.size_eq]; exact h0)
    have q1' : t.toList.isEmpty = true := by rw [q1]; rfl
    clear h0 OK
    go_wp2_with fail
    (with_reducible refine (CI.out _ R.out).mono ?_)
    rintro e u1 ⟨rfl, hb1⟩
    have R1 := hide (R.out.below hb1)
    have HB1 := hide (bl_call hb1 HB.out)
    clear hb1
    go_wp2_with fail
    (with_reducible refine (CS.out _ R1.out).mono ?_)
    rintro e u2 ⟨rfl, j2, rfl⟩
    go_wp2_with fail
    (with_reducible refine (CS.out _ (R1.out.drewN j2)).mono ?_)
    rintro e u3 ⟨rfl, j3, rfl⟩
    go_wp2
    go_ret
    exact ⟨bool_ret (by first | rfl | simp), bl_drewN HB1.out _⟩
  · have q1 : ¬ t.toList = [] := fun q => by
      rw [Lib.toList_data] at q
      have : t.size = 0 := by rw [Lib.size_eq, q]; rfl
      omega
    have q1' : t.toList.isEmpty = false := by rw [Bool.eq_false_iff]; intro h; exact q1 (by simpa using h)
    have K := OK.out (by omega)
    obtain ⟨k1, k2, k3, k4, k5, k6, k7⟩ := K
    obtain ⟨g, hg⟩ : ∃ g, g = l.length - 1 := ⟨_, rfl⟩
    have eg : (l.length : Int) - 1 = (g : Int) := by omega
    have hgl : g < l.length := by omega
    have i0 : (0 : Int) < (l.length : Int) := by omega
    rw [← hg] at k4 k5
    obtain ⟨b, o, rfl, hb0, c0⟩ := R.out.at_ (i := 0) (by omega)
    obtain ⟨b', o', he, hb', c1⟩ := R.out.at_ (i := g) hgl
    injection he with he
    cases he
    rw [Nat.add_zero] at c0
    obtain ⟨x, hx⟩ : ∃ x, x = sg l 0 := ⟨_, rfl⟩
    obtain ⟨y, hy⟩ : ∃ y, y = sg l g := ⟨_, rfl⟩
    have hx27 : x.size ≤ 27 := by rw [hx]; exact HWQ.out 0 (by omega)
    have hy27 : y.size ≤ 27 := by rw [hy]; exact HWQ.out g hgl
    rw [← hx] at c0 k2 k3 k6
    rw [← hy] at c1 k4 k5
    obtain ⟨d, hd⟩ : ∃ d, t.size = d + y.size := ⟨t.size - y.size, by omega⟩
    have ed : (t.size : Int) - (y.size : Int) = (d : Int) := by omega
    have k4' := k4 d hd
    have hdt : d ≤ t.size := by omega
    have s1 : ((t.extract 0 x.size).toList == x.toList) = true := by rw [k2]; simp
    have s2 : ((t.extract d t.size).toList == y.toList) = true := by rw [k4']; simp
    have g3 : decide ((x.size : Int) ≤ (t.size : Int)) = true := decide_eq_true (by omega)
    have g4 : decide ((y.size : Int) ≤ (t.size : Int)) = true := decide_eq_true (by omega)
    have g3' : decide (x.size ≤ t.size) = true := decide_eq_true (by omega)
    have g4' : decide (y.size ≤ t.size) = true := decide_eq_true (by omega)
    have ts : t.size ≤ 1000000 := by
      rcases (by omega : l.length = 1 ∨ 1 < l.length) with q | q
      · rw [k6 q]; omega
      · have := k7 q; omega
    have K6 := hide k6
    have K7 := hide k7
    clear OK hg hx hy k4 k6 k7 h0 hd
    go_wp2_with fail
    (with_reducible refine (CI.out _ R.out).mono ?_)
    rintro e u1 ⟨rfl, hb1⟩
    have c0 := keep_cell hb1 c0
    have c1 := keep_cell hb1 c1
    have R1 := hide (R.out.below hb1)
    have HB1 := hide (bl_call hb1 HB.out)
    clear hb1
    go_wp2_with fail
    (with_reducible refine (CS.out _ R1.out).mono ?_)
    rintro e u2 ⟨rfl, j2, rfl⟩
    obtain ⟨V, hV⟩ : ∃ V, V = u1.drewN j2 := ⟨_, rfl⟩
    have d0 : V.cell? ⟨b, o, none⟩ = some (.string x) := by rw [hV]; exact c0
    have d1 : V.cell? ⟨b, o + g, none⟩ = some (.string y) := by rw [hV]; exact c1
    have HB2 := hide (show Below w.heap.size w V by rw [hV]; exact bl_drewN HB1.out j2)
    rw [← hV]
    clear hV c0 c1
    rcases (by omega : l.length = 1 ∨ 1 < l.length) with hl1 | hl1
    · have e1 : ((l.length : Int) == 1) = true := by simp [hl1]
      have tx : (t.toList == x.toList) = true := by rw [K6.out hl1]; simp
      clear hl1 k1 k2 k4'
      go_wp2_with fail
      go_quiet (fail)
      go_wp2
      go_ret
      exact ⟨rfl, bl_drewN HB2.out _⟩
    · have e1 : ((l.length : Int) == 1) = false := beq_eq_false_iff_ne.2 (by omega)
      have e2 : decide ((1 : Int) < (l.length : Int)) = true := decide_eq_true (by omega)
      have e2' : decide (1 < l.length) = true := decide_eq_true hl1
      have e3 : ((t.size : Int) == wd) = true := by rw [K7.out hl1]; simp
      clear k1 k2 k4'
      go_wp2_with fail
      go_quiet (fail)
      go_wp2
      go_ret
      exact ⟨rfl, bl_drewN HB2.out _⟩
set_option maxRecDepth 100000 in
theorem lifted_FnFillLine (os : Os) (started : os.Started) (H : Type) (enc : TypeId × Value → H) :
    ReturnsInHanded {} Try.checked os 14 .any (Rows.fnFillLineSpec.pre6 enc Try.prog Try.f14 Rows.fnFillLineRow.domain false) (Rows.fnFillLineSpec.post enc Try.prog Try.f14 false true false false) := by
  refine returnsInHanded_of_change (C := Try.checked) own_knob started (by kernel_rfl) Try.func14
    (ChangeSpec.witness6 (enc := enc) (C := Try.checked) false ⟨#[], #[.slice none 0 0], []⟩ 8 (by kernel_rfl) (by kernel_rfl) (by kernel_rfl) (by kernel_rfl)) ?_
  intro W base args ds gs before hval0 hW hcnd _
  have hval : ∀ (j : Nat) t v, Try.f14.params[j]? = some t → args[j]? = some v → Value.okWide Try.prog W .any base t v := hval0
  have hW' := hW
  obtain ⟨p, q, hA0, hV, rfl, hfz, hnd⟩ := hW
  have hA : DataW.TrodAll enc Try.prog W 0 (fun _ => true) true Try.f14.params.toList args.toList ds p := hA0
  rw [Try.params14] at hA hval
  obtain ⟨v0, vs0, d0, ds0, p0, q0, hargs, rfl, rfl, zh0, r0⟩ := trodAll_cons hA
  obtain ⟨rfl, rfl, rfl⟩ := trodAll_nil r0
  obtain rfl : args = #[v0] := by cases args; simp_all
  obtain ⟨rfl, rfl⟩ := trodVars_none hV
  have zk0 := zh0
  have zl0 : ∀ x ∈ p0, x.block < W.heap.size := by obtain ⟨m, hm⟩ := zk0; exact DataW.trod_lt m _ _ _ hm
  clear hA0 hval0
  obtain ⟨a_code, n_code, c_code, rfl⟩ := okWide_slice Try.underlying26 (hval 0 26 v0 rfl rfl)
  obtain ⟨code, w_code⟩ := isRow_of Try.underlying26 Try.underlying5 (by kernel_rfl) zh0
  refine (walk_FnFillLine a_code n_code c_code code W w_code).mono fun e W' ⟨he, bel⟩ => ?_
  subst he
  exact ⟨_, rfl, _, _, _, [], _, [], hW', trodAll_mk1 (shut_bool Try.underlying4 _), (trodAll_cons_mk (Below.trod laid_out (by kernel_rfl) (of_decide_eq_true (by kernel_rfl)) zk0 bel zl0) trodAll_mk0), rfl, bel.frame _, fun h => by cases h⟩

/-- The statement. -/
theorem FnFillLine_holds : Rows.FnFillLineSaid :=
  OpenClaim.holds_of_wide 14 Try.f14 rfl rfl rfl rfl rfl rfl rfl ⟨rfl, rfl, rfl, rfl, rfl⟩ rfl rfl rfl rfl rfl (by kernel_rfl) Try.func14 (by unfold joinedFacts; rw [may_enter, lifts_final, make_cut]; kernel_rfl)
    (of_decide_eq_true (by kernel_rfl)) (by unfold Func.isWrapper; first | (rw [if_pos (by decide +kernel)]; kernel_rfl) | (rw [if_neg (by decide +kernel)]; exact ⟨rfl, rfl⟩))
    (fun os started H enc _ => lifted_FnFillLine os started H enc)
end Go.Proofs.Ytpgcpmfnidjhnaa
