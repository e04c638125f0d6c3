/- The law that stretched columns have the total width holds for every code. No condition. -/
import Derived.Test.YtlkfpcajpdohiaaSa
import Derived.Test.YtlkfpcajpdohiaaDrawSc
import Derived.Test.YtlkfpcajpdohiaaStrS
import Derived.BigQuiet
namespace Go.Proofs.Ytlkfpcajpdohiaa
open Go.ChangeShapes Go.WideShapes Go.ChangeAt Go.RowKit
set_option linter.unusedVariables false
set_option linter.unusedSimpArgs false
set_option maxRecDepth 4000

theorem small_rowS {w : World} {a : Option Addr} {n c : Nat} {zs : List Int} (h : IsRow .u8 w a n c zs) : n ≤ maxLen := by
  rcases h with ⟨_, rfl, _, _⟩ | ⟨_, _, hl, hm, _⟩
  · exact Nat.zero_le _
  · omega
/-- What the law asks. -/
theorem scV_law {l : List Int} {m : Int} (h : 0 < (scV l m).length) : (1 ≤ l.length ∧ l.length ≤ 8) ∧ (0 ≤ m ∧ m ≤ 10000) ∧ (∀ j, j < l.length → 0 ≤ ng l j ∧ ng l j ≤ 10000) ∧ scV l m = stl l m ∧ (∀ j, j < l.length → ng l j ≤ ng (scV l m) j) ∧ sl (scV l m) = m ∧ (scV l m).length = l.length ∧ scV (scV l m) m = scV l m ∧ (∀ j, j < l.length → 0 ≤ ng (scV l m) j ∧ ng (scV l m) j ≤ 10000) := by
  cases q : okLen l 1 8 0 10000
  · rw [scV_bad q] at h; simp at h
  cases q2 : inB m (sl l) 10000
  · rw [scV_off q2] at h; simp at h
  obtain ⟨⟨k1, k2⟩, hel⟩ := okLen_iff.1 q
  obtain ⟨m0, m1⟩ := inB_iff.1 q2
  have hb := sl_bd hel (by omega)
  have hp : ∀ j, j < l.length → 0 ≤ ng l j := fun j hj => (hel j hj).1
  have e := scV_yes q q2
  rw [e]
  have hs := stl_sum (t := m) hp (by omega)
  have hge := fun j (hj : j < l.length) => stl_ge (t := m) hp (by omega) m0 (by omega) hj
  have hg0 : ∀ j, j < l.length → 0 ≤ ng (stl l m) j := fun j hj => by have := hge j hj; have := hp j hj; omega
  have hle : ∀ j, j < l.length → ng (stl l m) j ≤ 10000 := fun j hj => by
    have h0 : ∀ j, j < (stl l m).length → 0 ≤ ng (stl l m) j := fun j hj => hg0 j (by rw [stl_len] at hj; exact hj)
    have a1 := pfx_le h0 (show j + 1 ≤ (stl l m).length by rw [stl_len]; omega)
    rw [pfx_all, hs] at a1
    have a2 : pfx (stl l m) (j + 1) = pfx (stl l m) j + ng (stl l m) j := rfl
    have a3 : 0 ≤ pfx (stl l m) j := by
      have : ∀ k, k ≤ (stl l m).length → 0 ≤ pfx (stl l m) k := fun k => by
        induction k with
        | zero => intro _; exact Int.le_refl _
        | succ k ih =>
          intro hk
          have b1 := ih (by omega)
          have b2 := h0 k (by omega)
          show 0 ≤ pfx (stl l m) k + ng (stl l m) k
          omega
      exact this j (by rw [stl_len]; omega)
    omega
  have hok2 : okLen (stl l m) 1 8 0 10000 = true := okLen_iff.2 ⟨by rw [stl_len]; omega, fun j hj => by rw [stl_len] at hj; exact ⟨hg0 j hj, hle j hj⟩⟩
  have e2 : scV (stl l m) m = stl l m := by
    rw [scV_yes hok2 (by rw [hs]; exact inB_yes (Int.le_refl _) m1)]
    exact stl_twice hp (by omega) (by omega) hg0 m0
  exact ⟨by omega, by omega, hel, rfl, hge, hs, stl_len l m, e2, fun j hj => ⟨hg0 j hj, hle j hj⟩⟩
set_option maxHeartbeats 2000000 in
theorem walk_FnStretchColumns (a : Option Addr) (n c : Nat) (zs : List Int) (w : World) (hr : IsRow .u8 w a n c zs) :
    Calls Try.prog 13 #[.slice a n c] w fun e w' => e = .returned (.bool true) ∧ Below w.heap.size w w' := by
  have hm := small_rowS hr
  unfold maxLen at hm
  rcases (by omega : 1048576 < n ∨ n ≤ 1048576) with hn | hn
  · go_enter Try.func13, Try.ntmps13
    go_wp2
    go_ret
    exact ⟨rfl, bl_refl _⟩
  go_enter Try.func13, Try.ntmps13
  go_wp2_with fail
  (with_reducible refine (DrawStretchColumns_any _ _ _ _ _ hr).mono ?_)
  rintro e u0 ⟨A, c0, l, m, rfl, hol, hll, ⟨m0, m1⟩, hb⟩
  clear hr
  have HR := hide hol.reads
  have HB := hide hb
  clear hol hb
  have CI := fun (u : World) (h : IL u A l.length l) => StretchColumns_i u A l.length c0 l m h (by omega)
  have CS := fun (u : World) (h : IL u A l.length l) => StretchColumns_s u A l.length c0 l m h (by omega) (by omega)
  have vl := scV_len l m
  have LAW := hide (fun h => scV_law (l := l) (m := m) h)
  unfold RetL at CI CS
  obtain ⟨R, hR⟩ : ∃ R, R = scV l m := ⟨_, rfl⟩
  rw [← hR] at CI CS vl LAW
  have HCI := hide CI
  have HCS := hide CS
  clear CI CS hR
  go_wp2_with fail
  (with_reducible refine (HCI.out _ HR.out).mono ?_)
  rintro e u1 ⟨A1, c1, rfl, ho1, hb1⟩
  have HR1 := hide (HR.out.below hb1)
  have HB1 := hide (bl_call hb1 HB.out)
  have HO1 := hide ho1
  clear hb1 ho1
  go_wp2_with fail
  (with_reducible refine (HCS.out _ HR1.out).mono ?_)
  rintro e u2 ⟨A2, c2, rfl, ho2, hb2⟩
  have HI1 := hide (HO1.out.below hb2).reads
  have HI2 := hide ho2.reads
  have HR2 := hide (HR1.out.below hb2)
  have HB2 := hide (bl_call hb2 HB1.out)
  clear hb2 ho2 HO1 HR1 HB1
  go_wp2_with fail
  (with_reducible refine (eqInts_l _ _ _ _ _ _ _ R R HI1.out HI2.out (by omega) (by omega)).mono ?_)
  rintro e u3 ⟨rfl, j3, rfl⟩
  simp only [decide_true]
  have HI3 := hide (HI1.out.drewN j3)
  have HR3 := hide (HR2.out.drewN j3)
  have HB3 := hide (bl_drewN HB2.out j3)
  obtain ⟨V, hV⟩ : ∃ V, V = u2.drewN j3 := ⟨_, rfl⟩
  rw [← hV] at HI3 HR3 HB3 ⊢
  clear hV HI1 HI2 HR2 HB2
  rcases Nat.eq_zero_or_pos R.length with h0 | h0
  · have z0 : ((R.length : Int) == 0) = true := beq_iff_eq.2 (by omega)
    clear LAW h0
    go_wp2_with fail
    (with_reducible refine (HCS.out _ HR3.out).mono ?_)
    rintro e u4 ⟨A4, c4, rfl, ho4, hb4⟩
    go_wp2_with fail
    (with_reducible refine (eqInts_l _ _ _ _ _ _ _ R R (HI3.out.below hb4) ho4.reads (by omega) (by omega)).mono ?_)
    rintro e u5 ⟨rfl, j5, rfl⟩
    simp only [decide_true]
    go_wp2
    go_ret
    exact ⟨rfl, bl_drewN (bl_call hb4 HB3.out) _⟩
  · obtain ⟨⟨l1, l8⟩, ⟨m2, m3⟩, hel, -, hge, hs, hlen, htw, hrb⟩ := LAW.out h0
    have z0 : ((R.length : Int) == 0) = false := beq_eq_false_iff_ne.2 (by omega)
    have z1 : ¬ R.length = 0 := by omega
    have z2 : ¬ R = [] := fun h => by rw [h] at h0; simp at h0
    have z3 : ¬ (R.length : Int) = 0 := by omega
    have HGE := hide hge
    have SU := hide (fun (u : World) (h : IL u A1 R.length R) => sum_l u A1 R.length c1 R h (by omega) (fun j hj => by have := hrb j (by omega); omega))
    rw [hs] at SU
    have CT := fun (u : World) (h : IL u A1 R.length R) => StretchColumns_i u A1 R.length c1 R m h (by omega)
    unfold RetL at CT
    rw [htw] at CT
    have HCT := hide CT
    have HLN := hide hlen
    have el : ((R.length : Int) == (l.length : Int)) = true := beq_iff_eq.2 (by omega)
    clear LAW CT hel hge hs htw hrb hlen h0
    go_wp2
    go_loopw [6] (fun i u => ∃ k q : Nat, k ≤ R.length ∧ i = .int .i64 k ∧ u = V.drewN q) (fun i _ => R.length - (intOf i).toNat)
    case atStart => exact ⟨0, 0, Nat.zero_le _, rfl, rfl⟩
    case round =>
      obtain ⟨k, q, hk, rfl, rfl⟩ := hrel
      by_cases hlt : k < R.length
      · have hlt2 : k < l.length := by have := HLN.out; omega
        have hlt3 : (k : Int) < (R.length : Int) := by omega
        have hlt4 : (k : Int) < (l.length : Int) := by omega
        obtain ⟨b, o, rfl, hb0, hc⟩ := HI3.out.at_ hlt
        obtain ⟨b', o', rfl, hb0', hc'⟩ := HR3.out.at_ hlt2
        have g := HGE.out k hlt2
        obtain ⟨x, hx⟩ : ∃ x, x = ng R k := ⟨_, rfl⟩
        obtain ⟨y, hy⟩ : ∃ y, y = ng l k := ⟨_, rfl⟩
        rw [← hx] at hc g
        rw [← hy] at hc' g
        have g1 : decide (x < y) = false := decide_eq_false (by omega)
        have g2 : ¬ x < y := by omega
        clear hx hy g
        go_wp2
        go_quiet (fail)
        go_wp2
        go_roundw
        case rel => exact ⟨k + 1, _, by omega, by go_num, rfl⟩
        case measure => simp [intOf]; omega
      · go_wp2_with fail
        (with_reducible refine (SU.out _ (HI3.out.drewN q)).mono ?_)
        rintro e w' ⟨rfl, hw⟩
        have hw2 := hw.symm
        clear hw
        subst hw2
        go_wp2_with fail
        (with_reducible refine (HCT.out _ (HI3.out.drewN q)).mono ?_)
        rintro e u5 ⟨A5, c5, rfl, ho5, hb5⟩
        go_wp2_with fail
        (with_reducible refine (eqInts_l _ _ _ _ _ _ _ R R ho5.reads ((HI3.out.drewN q).below hb5) (by omega) (by omega)).mono ?_)
        rintro e u6 ⟨rfl, j6, rfl⟩
        simp only [decide_true]
        go_wp2
        go_ret
        exact ⟨rfl, bl_drewN (bl_call hb5 (bl_drewN HB3.out q)) _⟩
set_option maxRecDepth 100000 in
theorem lifted_FnStretchColumns (os : Os) (started : os.Started) (H : Type) (enc : TypeId × Value → H) :
    ReturnsInHanded {} Try.checked os 13 .any (Rows.fnStretchColumnsSpec.pre6 enc Try.prog Try.f13 Rows.fnStretchColumnsRow.domain false) (Rows.fnStretchColumnsSpec.post enc Try.prog Try.f13 false true false false) := by
  refine returnsInHanded_of_change (C := Try.checked) own_knob started (by kernel_rfl) Try.func13
    (ChangeSpec.witness6 (enc := enc) (C := Try.checked) false ⟨#[], #[.slice none 0 0], []⟩ 8 (by kernel_rfl) (by kernel_rfl) (by kernel_rfl) (by kernel_rfl)) ?_
  intro W base args ds gs before hval0 hW hcnd _
  have hval : ∀ (j : Nat) t v, Try.f13.params[j]? = some t → args[j]? = some v → Value.okWide Try.prog W .any base t v := hval0
  have hW' := hW
  obtain ⟨p, q, hA0, hV, rfl, hfz, hnd⟩ := hW
  have hA : DataW.TrodAll enc Try.prog W 0 (fun _ => true) true Try.f13.params.toList args.toList ds p := hA0
  rw [Try.params13] at hA hval
  obtain ⟨v0, vs0, d0, ds0, p0, q0, hargs, rfl, rfl, zh0, r0⟩ := trodAll_cons hA
  obtain ⟨rfl, rfl, rfl⟩ := trodAll_nil r0
  obtain rfl : args = #[v0] := by cases args; simp_all
  obtain ⟨rfl, rfl⟩ := trodVars_none hV
  have zk0 := zh0
  have zl0 : ∀ x ∈ p0, x.block < W.heap.size := by obtain ⟨m, hm⟩ := zk0; exact DataW.trod_lt m _ _ _ hm
  clear hA0 hval0
  obtain ⟨a_code, n_code, c_code, rfl⟩ := okWide_slice Try.underlying29 (hval 0 29 v0 rfl rfl)
  obtain ⟨code, w_code⟩ := isRow_of Try.underlying29 Try.underlying5 (by kernel_rfl) zh0
  refine (walk_FnStretchColumns a_code n_code c_code code W w_code).mono fun e W' ⟨he, bel⟩ => ?_
  subst he
  exact ⟨_, rfl, _, _, _, [], _, [], hW', trodAll_mk1 (shut_bool Try.underlying4 _), (trodAll_cons_mk (Below.trod laid_out (by kernel_rfl) (of_decide_eq_true (by kernel_rfl)) zk0 bel zl0) trodAll_mk0), rfl, bel.frame _, fun h => by cases h⟩

/-- The statement. -/
theorem FnStretchColumns_holds : Rows.FnStretchColumnsSaid :=
  OpenClaim.holds_of_wide 13 Try.f13 rfl rfl rfl rfl rfl rfl rfl ⟨rfl, rfl, rfl, rfl, rfl⟩ rfl rfl rfl rfl rfl (by kernel_rfl) Try.func13 (by unfold joinedFacts; rw [may_enter, lifts_final, make_cut]; kernel_rfl)
    (of_decide_eq_true (by kernel_rfl)) (by unfold Func.isWrapper; first | (rw [if_pos (by decide +kernel)]; kernel_rfl) | (rw [if_neg (by decide +kernel)]; exact ⟨rfl, rfl⟩))
    (fun os started H enc _ => lifted_FnStretchColumns os started H enc)
end Go.Proofs.Ytlkfpcajpdohiaa
