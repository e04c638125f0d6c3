/- The promises on letters hold for every code: they can be read, they are canonical, and ordered by length, then by alphabet. No condition. -/
import Derived.Test.YtonkbakoifdmiaaDrawN
import Derived.Test.YtonkbakoifdmiaaNumL
namespace Go.Proofs.Ytonkbakoifdmiaa
open Go.ChangeShapes Go.WideShapes Go.ChangeAt Go.RowKit
set_option linter.unusedVariables false

theorem small_row' {w : World} {a : Option Addr} {n c : Nat} {zs : List Int} (h : IsRow .u8 w a n c zs) : n ≤ maxLen := small_row h
theorem bs_zero {t : ByteArray} (h : t.size = 0) : t = ⟨#[]⟩ := by
  apply ByteArray.ext
  exact Array.eq_empty_of_size_eq_zero h
theorem empty_no {t : ByteArray} (h : 0 < t.size) : t.toList.isEmpty = false := by
  rw [Lib.toList_data]
  cases hl : t.data.toList with
  | nil => have h2 := Lib.size_eq t; rw [hl] at h2; rw [h2] at h; cases h
  | cons a l => rfl
theorem alpN_pos {m : Nat} (h : 1 ≤ m) (h' : m ≤ 3999) : 0 < (bs (alpN (m : Int))).size := by
  rw [bs_size, alpN_yes ⟨h, h'⟩, alp_step (by omega)]
  simp

set_option maxHeartbeats 1000000 in
theorem walk_FnAlphabeticRoundTrip (a : Option Addr) (n c : Nat) (zs : List Int) (w : World) (hr : IsRow .u8 w a n c zs) :
    Calls Try.prog 5 #[.slice a n c] w fun e w' => e = .returned (.bool true) ∧ Below w.heap.size w w' := by
  have hm := small_row hr
  unfold maxLen at hm
  rcases (by omega : 1048576 < n ∨ n ≤ 1048576) with hn | hn
  · go_enter Try.func5, Try.ntmps5
    go_wp2
    go_ret
    exact ⟨rfl, bl_refl _⟩
  · go_enter Try.func5, Try.ntmps5
    go_wp2_with fail
    refine (DrawAlphabetic_any _ _ _ _ _ hr).mono ?_
    rintro e u0 ⟨z, ⟨z0, z1⟩, rfl, hb⟩
    clear hr
    have CS := fun (u : World) => Alphabetic_s z u
    have CI := fun (u : World) => Alphabetic_i z u
    rcases (by omega : (1 ≤ z ∧ z ≤ 3999) ∨ ¬ (1 ≤ z ∧ z ≤ 3999)) with hz | hz
    · obtain ⟨m, rfl⟩ := Int.eq_ofNat_of_zero_le (show 0 ≤ z by omega)
      have hp := alpN_pos (m := m) (by omega) (by omega)
      have hl := alpN_len (m : Int)
      have CF := fun (u : World) => FromAlphabetic_i (bs (alpN (m : Int))) u (by omega)
      have ef : fa (bs (alpN (m : Int))).data.toList = ((m : Int), true) := by rw [bs_data, alpN_yes (by omega)]; exact fa_alp (by omega) (by omega)
      rw [ef] at CF
      obtain ⟨t, ht⟩ : ∃ t, t = bs (alpN (m : Int)) := ⟨_, rfl⟩
      rw [← ht] at CS CI CF hp hl
      have HCS := hide CS
      have HCI := hide CI
      have HCF := hide CF
      have ty := teq_yes t
      have d0 : ((t.size : Int) == 0) = false := beq_eq_false_iff_ne.2 (by omega)
      have te := empty_no hp
      clear CS CI CF ht ef
      go_wp2_with fail
      refine (HCI.out _).mono ?_
      rintro e u1 ⟨rfl, hb1⟩
      go_wp2_with fail
      refine (HCS.out _).mono ?_
      rintro e u2 ⟨rfl, hb2⟩
      go_wp2_with fail
      refine (HCF.out _).mono ?_
      rintro e u3 ⟨rfl, rfl⟩
      go_wp2
      go_ret
      exact ⟨rfl, bl_call hb2 (bl_call hb1 hb)⟩
    · have e0 : bs (alpN z) = ⟨#[]⟩ := by unfold alpN; rw [if_neg hz]; rfl
      rw [e0] at CS CI
      have HCS := hide CS
      have HCI := hide CI
      clear CS CI e0
      have ty := teq_yes ⟨#[]⟩
      go_wp2_with fail
      refine (HCI.out _).mono ?_
      rintro e u1 ⟨rfl, hb1⟩
      go_wp2_with fail
      refine (HCS.out _).mono ?_
      rintro e u2 ⟨rfl, hb2⟩
      go_wp2_with fail
      refine (HCS.out _).mono ?_
      rintro e u3 ⟨rfl, hb3⟩
      go_wp2
      go_ret
      exact ⟨rfl, bl_call hb3 (bl_call hb2 (bl_call hb1 hb))⟩
set_option maxRecDepth 100000 in
theorem lifted_FnAlphabeticRoundTrip (os : Os) (started : os.Started) (H : Type) (enc : TypeId × Value → H) :
    ReturnsInHanded {} Try.checked os 5 .any (Rows.fnAlphabeticRoundTripSpec.pre6 enc Try.prog Try.f5 Rows.fnAlphabeticRoundTripRow.domain false) (Rows.fnAlphabeticRoundTripSpec.post enc Try.prog Try.f5 false true false false) := by
  refine returnsInHanded_of_change (C := Try.checked) own_knob started (by kernel_rfl) Try.func5
    (ChangeSpec.witness6 (enc := enc) (C := Try.checked) false ⟨#[], #[.slice none 0 0], []⟩ 8 (by kernel_rfl) (by kernel_rfl) (by kernel_rfl) (by kernel_rfl)) ?_
  intro W base args ds gs before hval0 hW hcnd _
  have hval : ∀ (j : Nat) t v, Try.f5.params[j]? = some t → args[j]? = some v → Value.okWide Try.prog W .any base t v := hval0
  have hW' := hW
  obtain ⟨p, q, hA0, hV, rfl, hfz, hnd⟩ := hW
  have hA : DataW.TrodAll enc Try.prog W 0 (fun _ => true) true Try.f5.params.toList args.toList ds p := hA0
  rw [Try.params5] at hA hval
  obtain ⟨v0, vs0, d0, ds0, p0, q0, hargs, rfl, rfl, zh0, r0⟩ := trodAll_cons hA
  obtain ⟨rfl, rfl, rfl⟩ := trodAll_nil r0
  obtain rfl : args = #[v0] := by cases args; simp_all
  obtain ⟨rfl, rfl⟩ := trodVars_none hV
  have zk0 := zh0
  have zl0 : ∀ x ∈ p0, x.block < W.heap.size := by obtain ⟨m, hm⟩ := zk0; exact DataW.trod_lt m _ _ _ hm
  clear hA0 hval0
  obtain ⟨a_code, n_code, c_code, rfl⟩ := okWide_slice Try.underlying27 (hval 0 27 v0 rfl rfl)
  obtain ⟨code, w_code⟩ := isRow_of Try.underlying27 Try.underlying5 (by kernel_rfl) zh0
  refine (walk_FnAlphabeticRoundTrip a_code n_code c_code code W w_code).mono fun e W' ⟨he, bel⟩ => ?_
  subst he
  exact ⟨_, rfl, _, _, _, [], _, [], hW', trodAll_mk1 (shut_bool Try.underlying4 _), (trodAll_cons_mk (Below.trod laid_out (by kernel_rfl) (of_decide_eq_true (by kernel_rfl)) zk0 bel zl0) trodAll_mk0), rfl, bel.frame _, fun h => by cases h⟩

/-- The statement. -/
theorem FnAlphabeticRoundTrip_holds : Rows.FnAlphabeticRoundTripSaid :=
  OpenClaim.holds_of_wide 5 Try.f5 rfl rfl rfl rfl rfl rfl rfl ⟨rfl, rfl, rfl, rfl, rfl⟩ rfl rfl rfl rfl rfl (by kernel_rfl) Try.func5 (by kernel_rfl)
    (of_decide_eq_true (by kernel_rfl)) (by unfold Func.isWrapper; first | (rw [if_pos (by decide +kernel)]; kernel_rfl) | (rw [if_neg (by decide +kernel)]; exact ⟨rfl, rfl⟩))
    (fun os started H enc _ => lifted_FnAlphabeticRoundTrip os started H enc)

set_option maxHeartbeats 1000000 in
theorem walk_FnAlphabeticCanonical (a : Option Addr) (n c : Nat) (zs : List Int) (w : World) (hr : IsRow .u8 w a n c zs) :
    Calls Try.prog 6 #[.slice a n c] w fun e w' => e = .returned (.bool true) ∧ Below w.heap.size w w' := by
  have hm := small_row hr
  unfold maxLen at hm
  rcases (by omega : 1048576 < n ∨ n ≤ 1048576) with hn | hn
  · go_enter Try.func6, Try.ntmps6
    go_wp2
    go_ret
    exact ⟨rfl, bl_refl _⟩
  · go_enter Try.func6, Try.ntmps6
    go_wp2_with fail
    refine (DrawFromAlphabetic_any _ _ _ _ _ hr).mono ?_
    rintro e u0 ⟨s, hs, rfl, hb⟩
    clear hr
    have CS := fun (u : World) => FromAlphabetic_s s u (by omega)
    have CI := fun (u : World) => FromAlphabetic_i s u (by omega)
    by_cases q : okA s.data.toList = true
    · have ef : fa s.data.toList = (fav s.data.toList, true) := by unfold fa; rw [if_pos q]
      obtain ⟨k0, ⟨k1, k2⟩, k3⟩ := okA_iff.1 q
      obtain ⟨m, hm1⟩ := Int.eq_ofNat_of_zero_le (show 0 ≤ fav s.data.toList by omega)
      rw [ef, hm1] at CS CI
      have e1 : bs (alpN (m : Int)) = s := by rw [alpN_yes (by omega), show alp m = s.data.toList by rw [← k3, hm1, Int.toNat_natCast]]; exact (bs_eq rfl).symm
      have CA := fun (u : World) => Alphabetic_i (m : Int) u
      rw [e1] at CA
      have HCS := hide CS
      have HCI := hide CI
      have HCA := hide CA
      have ty := teq_yes s
      have ez : ((m : Int) == (m : Int)) = true := by simp
      clear CS CI CA ef k1 k2 k3 e1 q hm1
      go_wp2_with fail
      refine (HCI.out _).mono ?_
      rintro e u1 ⟨rfl, rfl⟩
      go_wp2_with fail
      refine (HCS.out _).mono ?_
      rintro e u2 ⟨rfl, hb2⟩
      go_wp2_with fail
      refine (HCA.out _).mono ?_
      rintro e u3 ⟨rfl, hb3⟩
      go_wp2
      go_ret
      exact ⟨rfl, bl_call hb3 (bl_call hb2 hb)⟩
    · have ef : fa s.data.toList = (0, false) := by unfold fa; rw [if_neg q]
      rw [ef] at CS CI
      have HCS := hide CS
      have HCI := hide CI
      clear CS CI ef q
      go_wp2_with fail
      refine (HCI.out _).mono ?_
      rintro e u1 ⟨rfl, rfl⟩
      go_wp2_with fail
      refine (HCS.out _).mono ?_
      rintro e u2 ⟨rfl, hb2⟩
      go_wp2
      go_ret
      exact ⟨rfl, bl_call hb2 hb⟩
set_option maxRecDepth 100000 in
theorem lifted_FnAlphabeticCanonical (os : Os) (started : os.Started) (H : Type) (enc : TypeId × Value → H) :
    ReturnsInHanded {} Try.checked os 6 .any (Rows.fnAlphabeticCanonicalSpec.pre6 enc Try.prog Try.f6 Rows.fnAlphabeticCanonicalRow.domain false) (Rows.fnAlphabeticCanonicalSpec.post enc Try.prog Try.f6 false true false false) := by
  refine returnsInHanded_of_change (C := Try.checked) own_knob started (by kernel_rfl) Try.func6
    (ChangeSpec.witness6 (enc := enc) (C := Try.checked) false ⟨#[], #[.slice none 0 0], []⟩ 8 (by kernel_rfl) (by kernel_rfl) (by kernel_rfl) (by kernel_rfl)) ?_
  intro W base args ds gs before hval0 hW hcnd _
  have hval : ∀ (j : Nat) t v, Try.f6.params[j]? = some t → args[j]? = some v → Value.okWide Try.prog W .any base t v := hval0
  have hW' := hW
  obtain ⟨p, q, hA0, hV, rfl, hfz, hnd⟩ := hW
  have hA : DataW.TrodAll enc Try.prog W 0 (fun _ => true) true Try.f6.params.toList args.toList ds p := hA0
  rw [Try.params6] at hA hval
  obtain ⟨v0, vs0, d0, ds0, p0, q0, hargs, rfl, rfl, zh0, r0⟩ := trodAll_cons hA
  obtain ⟨rfl, rfl, rfl⟩ := trodAll_nil r0
  obtain rfl : args = #[v0] := by cases args; simp_all
  obtain ⟨rfl, rfl⟩ := trodVars_none hV
  have zk0 := zh0
  have zl0 : ∀ x ∈ p0, x.block < W.heap.size := by obtain ⟨m, hm⟩ := zk0; exact DataW.trod_lt m _ _ _ hm
  clear hA0 hval0
  obtain ⟨a_code, n_code, c_code, rfl⟩ := okWide_slice Try.underlying27 (hval 0 27 v0 rfl rfl)
  obtain ⟨code, w_code⟩ := isRow_of Try.underlying27 Try.underlying5 (by kernel_rfl) zh0
  refine (walk_FnAlphabeticCanonical a_code n_code c_code code W w_code).mono fun e W' ⟨he, bel⟩ => ?_
  subst he
  exact ⟨_, rfl, _, _, _, [], _, [], hW', trodAll_mk1 (shut_bool Try.underlying4 _), (trodAll_cons_mk (Below.trod laid_out (by kernel_rfl) (of_decide_eq_true (by kernel_rfl)) zk0 bel zl0) trodAll_mk0), rfl, bel.frame _, fun h => by cases h⟩

/-- The statement. -/
theorem FnAlphabeticCanonical_holds : Rows.FnAlphabeticCanonicalSaid :=
  OpenClaim.holds_of_wide 6 Try.f6 rfl rfl rfl rfl rfl rfl rfl ⟨rfl, rfl, rfl, rfl, rfl⟩ rfl rfl rfl rfl rfl (by kernel_rfl) Try.func6 (by kernel_rfl)
    (of_decide_eq_true (by kernel_rfl)) (by unfold Func.isWrapper; first | (rw [if_pos (by decide +kernel)]; kernel_rfl) | (rw [if_neg (by decide +kernel)]; exact ⟨rfl, rfl⟩))
    (fun os started H enc _ => lifted_FnAlphabeticCanonical os started H enc)

theorem al_all : (List.range 3999).all (fun n => n == 0 || decide ((alp n).length < (alp (n + 1)).length) || (decide ((alp n).length = (alp (n + 1)).length) && Op.bytesLess (alp n) (alp (n + 1)) && !(Op.bytesLess (alp (n + 1)) (alp n)) && !(alp n == alp (n + 1)))) = true := by decide +kernel
theorem al_next {m : Nat} (h0 : 1 ≤ m) (h1 : m < 3999) : (alp m).length < (alp (m + 1)).length ∨ ((alp m).length = (alp (m + 1)).length ∧ Op.bytesLess (alp (m + 1)) (alp m) = false ∧ alp m ≠ alp (m + 1)) := by
  have := List.all_eq_true.1 al_all m (by simp; omega)
  simp at this
  rcases this with (h | h) | ⟨⟨⟨h, _⟩, h2⟩, h3⟩
  · omega
  · exact .inl h
  · exact .inr ⟨h, h2, h3⟩
theorem gtr_run {v t : ByteArray} (h2 : Op.bytesLess v.toList t.toList = false) (h3 : (v.toList == t.toList) = false) (W : World) : (binOp .gtr 9 (.string v) (.string t)).run Try.prog W = .ok (.bool true) W := by
  unfold binOp
  simp [Op.stringOp, h2, h3]
set_option maxHeartbeats 1000000 in
theorem walk_FnAlphabeticOrder (a : Option Addr) (n c : Nat) (zs : List Int) (w : World) (hr : IsRow .u8 w a n c zs) :
    Calls Try.prog 7 #[.slice a n c] w fun e w' => e = .returned (.bool true) ∧ Below w.heap.size w w' := by
  have hm := small_row hr
  unfold maxLen at hm
  rcases (by omega : 1048576 < n ∨ n ≤ 1048576) with hn | hn
  · go_enter Try.func7, Try.ntmps7
    go_wp2
    go_ret
    exact ⟨rfl, bl_refl _⟩
  · go_enter Try.func7, Try.ntmps7
    go_wp2_with fail
    refine (DrawAlphabetic_any _ _ _ _ _ hr).mono ?_
    rintro e u0 ⟨z, ⟨z0, z1⟩, rfl, hb⟩
    clear hr
    have CS := fun (u : World) => Alphabetic_s z u
    have CI := fun (u : World) => Alphabetic_i z u
    rcases (by omega : (1 ≤ z ∧ z < 3999) ∨ z = 3999 ∨ ¬ (1 ≤ z ∧ z ≤ 3999)) with hz | rfl | hz
    · obtain ⟨m, rfl⟩ := Int.eq_ofNat_of_zero_le (show 0 ≤ z by omega)
      have hp := alpN_pos (m := m) (by omega) (by omega)
      have hl := alpN_len (m : Int)
      have CN := fun (u : World) => Alphabetic_i ((m : Int) + 1) u
      have hl2 := alpN_len ((m : Int) + 1)
      have hN := al_next (m := m) (by omega) (by omega)
      have e2 : alpN ((m : Int) + 1) = alp (m + 1) := by have := alpN_yes (m := m + 1) (by omega); exact_mod_cast this
      rw [← alpN_yes (m := m) (by omega), ← e2] at hN
      obtain ⟨t, ht⟩ : ∃ t, t = bs (alpN (m : Int)) := ⟨_, rfl⟩
      obtain ⟨v, hv⟩ : ∃ v, v = bs (alpN ((m : Int) + 1)) := ⟨_, rfl⟩
      have hN2 : t.size < v.size ∨ ((t.size : Int) = v.size ∧ Op.bytesLess v.toList t.toList = false ∧ (v.toList == t.toList) = false) := by
        rw [ht, hv, bs_size, bs_size, Lib.toList_data, Lib.toList_data, bs_data, bs_data]
        rcases hN with h | ⟨h, h2, h3⟩
        · exact .inl h
        · exact .inr ⟨by omega, h2, by simp; exact fun e => h3 e.symm⟩
      rw [← ht] at CS CI hp hl
      rw [← hv] at CN hl2
      have HCS := hide CS
      have HCI := hide CI
      have HCN := hide CN
      have ty := teq_yes t
      have te := empty_no hp
      have d0 : ((m : Int) == 3999) = false := beq_eq_false_iff_ne.2 (by omega)
      clear CS CI CN ht hv hN e2
      rcases hN2 with h | ⟨h, h2, h3⟩
      · go_wp2_with fail
        refine (HCI.out _).mono ?_
        rintro e u1 ⟨rfl, hb1⟩
        go_wp2_with fail
        refine (HCS.out _).mono ?_
        rintro e u2 ⟨rfl, hb2⟩
        go_wp2_with fail
        refine (HCN.out _).mono ?_
        rintro e u3 ⟨rfl, hb3⟩
        go_wp2
        go_ret
        exact ⟨rfl, bl_call hb3 (bl_call hb2 (bl_call hb1 hb))⟩
      · have d1 : ((t.size : Int) == (v.size : Int)) = true := by simp; omega
        have d2 : ((v.size : Int) == (t.size : Int)) = true := by simp; omega
        have d3 : ¬ ((t.size : Int) < v.size) := by omega
        have d4 := gtr_run h2 h3
        clear h
        go_wp2_with fail
        refine (HCI.out _).mono ?_
        rintro e u1 ⟨rfl, hb1⟩
        go_wp2_with fail
        refine (HCS.out _).mono ?_
        rintro e u2 ⟨rfl, hb2⟩
        go_wp2_with fail
        refine (HCN.out _).mono ?_
        rintro e u3 ⟨rfl, hb3⟩
        go_wp2
        go_ret
        exact ⟨rfl, bl_call hb3 (bl_call hb2 (bl_call hb1 hb))⟩
    · have hp := alpN_pos (m := 3999) (by omega) (by omega)
      have hl := alpN_len (3999 : Int)
      obtain ⟨t, ht⟩ : ∃ t, t = bs (alpN (3999 : Int)) := ⟨_, rfl⟩
      rw [← ht] at CS CI hl
      have hp : 0 < t.size := by rw [ht]; exact hp
      have HCS := hide CS
      have HCI := hide CI
      have ty := teq_yes t
      have te := empty_no hp
      clear CS CI ht
      go_wp2_with fail
      refine (HCI.out _).mono ?_
      rintro e u1 ⟨rfl, hb1⟩
      go_wp2_with fail
      refine (HCS.out _).mono ?_
      rintro e u2 ⟨rfl, hb2⟩
      go_wp2_with fail
      refine (HCS.out _).mono ?_
      rintro e u3 ⟨rfl, hb3⟩
      go_wp2
      go_ret
      exact ⟨rfl, bl_call hb3 (bl_call hb2 (bl_call hb1 hb))⟩
    · have e0 : bs (alpN z) = ⟨#[]⟩ := by unfold alpN; rw [if_neg hz]; rfl
      rw [e0] at CS CI
      have HCS := hide CS
      have HCI := hide CI
      clear CS CI e0
      have ty := teq_yes ⟨#[]⟩
      go_wp2_with fail
      refine (HCI.out _).mono ?_
      rintro e u1 ⟨rfl, hb1⟩
      go_wp2_with fail
      refine (HCS.out _).mono ?_
      rintro e u2 ⟨rfl, hb2⟩
      go_wp2_with fail
      refine (HCS.out _).mono ?_
      rintro e u3 ⟨rfl, hb3⟩
      go_wp2
      go_ret
      exact ⟨rfl, bl_call hb3 (bl_call hb2 (bl_call hb1 hb))⟩
set_option maxRecDepth 100000 in
theorem lifted_FnAlphabeticOrder (os : Os) (started : os.Started) (H : Type) (enc : TypeId × Value → H) :
    ReturnsInHanded {} Try.checked os 7 .any (Rows.fnAlphabeticOrderSpec.pre6 enc Try.prog Try.f7 Rows.fnAlphabeticOrderRow.domain false) (Rows.fnAlphabeticOrderSpec.post enc Try.prog Try.f7 false true false false) := by
  refine returnsInHanded_of_change (C := Try.checked) own_knob started (by kernel_rfl) Try.func7
    (ChangeSpec.witness6 (enc := enc) (C := Try.checked) false ⟨#[], #[.slice none 0 0], []⟩ 8 (by kernel_rfl) (by kernel_rfl) (by kernel_rfl) (by kernel_rfl)) ?_
  intro W base args ds gs before hval0 hW hcnd _
  have hval : ∀ (j : Nat) t v, Try.f7.params[j]? = some t → args[j]? = some v → Value.okWide Try.prog W .any base t v := hval0
  have hW' := hW
  obtain ⟨p, q, hA0, hV, rfl, hfz, hnd⟩ := hW
  have hA : DataW.TrodAll enc Try.prog W 0 (fun _ => true) true Try.f7.params.toList args.toList ds p := hA0
  rw [Try.params7] at hA hval
  obtain ⟨v0, vs0, d0, ds0, p0, q0, hargs, rfl, rfl, zh0, r0⟩ := trodAll_cons hA
  obtain ⟨rfl, rfl, rfl⟩ := trodAll_nil r0
  obtain rfl : args = #[v0] := by cases args; simp_all
  obtain ⟨rfl, rfl⟩ := trodVars_none hV
  have zk0 := zh0
  have zl0 : ∀ x ∈ p0, x.block < W.heap.size := by obtain ⟨m, hm⟩ := zk0; exact DataW.trod_lt m _ _ _ hm
  clear hA0 hval0
  obtain ⟨a_code, n_code, c_code, rfl⟩ := okWide_slice Try.underlying27 (hval 0 27 v0 rfl rfl)
  obtain ⟨code, w_code⟩ := isRow_of Try.underlying27 Try.underlying5 (by kernel_rfl) zh0
  refine (walk_FnAlphabeticOrder a_code n_code c_code code W w_code).mono fun e W' ⟨he, bel⟩ => ?_
  subst he
  exact ⟨_, rfl, _, _, _, [], _, [], hW', trodAll_mk1 (shut_bool Try.underlying4 _), (trodAll_cons_mk (Below.trod laid_out (by kernel_rfl) (of_decide_eq_true (by kernel_rfl)) zk0 bel zl0) trodAll_mk0), rfl, bel.frame _, fun h => by cases h⟩

/-- The statement. -/
theorem FnAlphabeticOrder_holds : Rows.FnAlphabeticOrderSaid :=
  OpenClaim.holds_of_wide 7 Try.f7 rfl rfl rfl rfl rfl rfl rfl ⟨rfl, rfl, rfl, rfl, rfl⟩ rfl rfl rfl rfl rfl (by kernel_rfl) Try.func7 (by kernel_rfl)
    (of_decide_eq_true (by kernel_rfl)) (by unfold Func.isWrapper; first | (rw [if_pos (by decide +kernel)]; kernel_rfl) | (rw [if_neg (by decide +kernel)]; exact ⟨rfl, rfl⟩))
    (fun os started H enc _ => lifted_FnAlphabeticOrder os started H enc)
end Go.Proofs.Ytonkbakoifdmiaa
