/- The promise on digits, and those on shown texts, hold for every code. No condition. -/
import Derived.Test.YteoiphjkkcjddaaDrawT
import Derived.Test.YteoiphjkkcjddaaLvT
import Derived.Test.YteoiphjkkcjddaaLvP
namespace Go.Proofs.Yteoiphjkkcjddaa
open Go.ChangeShapes Go.WideShapes Go.ChangeAt Go.RowKit
set_option linter.unusedVariables false
theorem lv_digs {s : ByteArray} {b : Int} (h : lvO s.data.toList b ≠ []) : ∀ j (hj : j + 1 < s.size), cls s[j] = 3 → cls s[j + 1] = 3 → ng (lvO s.data.toList b) (j + 1) = ng (lvO s.data.toList b) j := fun j hj h0 h1 => by
  have e := (lv_cases h).2.1
  rw [e]
  exact lvL_digs (by rwa [txt_len]) (by rw [bg_at (by omega)]; exact h0) (by rw [bg_at hj]; exact h1)
set_option maxHeartbeats 2000000 in
theorem walk_FnLevelsDigits (a : Option Addr) (n c : Nat) (zs : List Int) (w : World) (hr : IsRow .u8 w a n c zs) :
    Calls Try.prog 9 #[.slice a n c] w fun e w' => e = .returned (.bool true) ∧ Below w.heap.size w w' := by
  have hm := small_row hr
  unfold maxLen at hm
  rcases (by omega : 1048576 < n ∨ n ≤ 1048576) with hn | hn
  · go_enter Try.func9, Try.ntmps9
    go_wp2
    go_ret
    exact ⟨rfl, bl_refl _⟩
  · go_enter Try.func9, Try.ntmps9
    go_wp2_with fail
    (refine (DrawLevelsOf_any _ _ _ _ _ hr).mono ?_; rintro e u0 ⟨s, z, hs, ⟨z0, z1⟩, rfl, hb⟩)
    clear hr
    have hlen := lvO_len s.data.toList z
    have hcs := lv_cases (s := s) (b := z)
    have hdg := lv_digs (s := s) (b := z)
    have CS := fun (u : World) => LevelsOf_s s z u (by omega)
    have CI := fun (u : World) => LevelsOf_i s z u (by omega)
    obtain ⟨L, hL⟩ : ∃ L, L = lvO s.data.toList z := ⟨_, rfl⟩
    rw [← hL] at hlen hcs hdg
    simp only [← hL] at CS CI
    have HCS := hide CS
    have HCI := hide CI
    have HC := hide hcs
    have HD := hide hdg
    clear CS CI hL hcs hdg
    go_wp2_with fail
    (with_reducible refine (HCI.out _).mono ?_)
    rintro e u1 ⟨A1, c1, rfl, ho1, hb1⟩
    go_wp2_with fail
    (with_reducible refine (HCS.out _).mono ?_)
    rintro e u2 ⟨A2, c2, rfl, ho2, hb2⟩
    have ho1 := ho1.below hb2
    go_wp2_with fail
    (with_reducible refine (eqInts_l _ _ _ _ _ _ _ _ _ ho1.reads ho2.reads (by omega) (by omega)).mono ?_)
    rintro e u3 ⟨rfl, j, rfl⟩
    simp only [decide_true]
    have hr1 := ho1.reads.drewN j
    have hr0 := ho1.reads
    have HB0 := hide (bl_call hb2 (bl_call hb1 hb))
    have HB := hide (bl_drewN (bl_call hb2 (bl_call hb1 hb)) j)
    clear ho1 ho2
    by_cases h0 : L.length = s.size
    · have d0 : ((L.length : Int) != (s.size : Int)) = false := by simp [h0]
      have HLS := hide h0
      clear h0
      go_wp2
      go_loopw [6] (fun i u => ∃ p k : Nat, p ≤ L.length ∧ i = .int .i64 p ∧ u = u2.drewN k) (fun i _ => L.length - (intOf i).toNat)
      case atStart => exact ⟨0, j, by omega, rfl, rfl⟩
      case round =>
        obtain ⟨p, kk, hp, rfl, rfl⟩ := hrel
        by_cases hltL : p < L.length
        · have hlt : p < s.size := by rw [← HLS.out]; exact hltL
          have hne : L ≠ [] := by intro h; rw [h] at hltL; simp at hltL
          have HOK := hide (HC.out hne).2.2.2
          have HDG := hide (HD.out hne)
          have hr2 := hr0
          clear hne
          obtain ⟨b, o, rfl, hbv, hc⟩ := hr2.at_ hltL
          obtain ⟨x0, x2, xc, xl, xd⟩ := HOK.out p hlt
          obtain ⟨x, hx⟩ : ∃ x, x = ng L p := ⟨_, rfl⟩
          have HX := hide hx
          rw [← hx] at hc x0 x2 xc xl xd
          have hc8 : s[p].toNat < 256 := UInt8.toNat_lt _
          clear hx xc xl
          rcases (by omega : s[p].toNat < 48 ∨ 57 < s[p].toNat ∨ (48 ≤ s[p].toNat ∧ s[p].toNat ≤ 57)) with h | h | ⟨h, h'⟩
          · have q1 : decide ((48 : Int) ≤ (s[p].toNat : Int)) = false := decide_eq_false (by omega)
            clear xd
            go_wp2
            go_quiet (fail)
            go_wp2
            go_roundw
            case rel => exact ⟨p + 1, _, by omega, by go_num, rfl⟩
            case measure => simp [intOf]; omega
          · have q1 : decide ((48 : Int) ≤ (s[p].toNat : Int)) = true := decide_eq_true (by omega)
            have q2 : decide ((s[p].toNat : Int) ≤ 57) = false := decide_eq_false (by omega)
            clear xd
            go_wp2
            go_quiet (fail)
            go_wp2
            go_roundw
            case rel => exact ⟨p + 1, _, by omega, by go_num, rfl⟩
            case measure => simp [intOf]; omega
          · have q1 : decide ((48 : Int) ≤ (s[p].toNat : Int)) = true := decide_eq_true (by omega)
            have q2 : decide ((s[p].toNat : Int) ≤ 57) = true := decide_eq_true (by omega)
            have hcd := cls_dig ⟨h, h'⟩
            have e0 : x.tmod 2 = 0 := by rcases xd hcd with h | h <;> rw [h] <;> rfl
            obtain ⟨x1, hx1⟩ : ∃ x1, x1 = x.tmod 2 := ⟨_, rfl⟩
            have e1 : x.tmod 2 = x1 := hx1.symm
            have w1 : IntKind.i64.wrap x1 = x1 := IntWalk.i64_in _ (by omega)
            have q4 : (x1 != 0) = false := by rw [hx1, e0]; rfl
            clear xd e0 hx1
            rcases Nat.eq_zero_or_pos p with hp0 | hp0
            · have q3 : decide ((0 : Int) < (p : Int)) = false := decide_eq_false (by omega)
              have q3' : decide (0 < p) = false := decide_eq_false (by omega)
              have q3'' : ¬ 0 < p := by omega
              clear hcd hp0
              go_wp2
              go_quiet (fail)
              go_wp2
              go_roundw
              case rel => exact ⟨p + 1, _, by omega, by go_num, rfl⟩
              case measure => simp [intOf]; omega
            · obtain ⟨m, hm⟩ : ∃ m, p = m + 1 := ⟨p - 1, by omega⟩
              have q3 : decide ((0 : Int) < (p : Int)) = true := decide_eq_true (by omega)
              have em : (p : Int) - 1 = (m : Int) := by omega
              have wm : IntKind.i64.wrap (m : Int) = (m : Int) := IntWalk.i64_in _ (by omega)
              have hms : m < s.size := by omega
              have hmL : m < L.length := by omega
              have hm8 : s[m].toNat < 256 := UInt8.toNat_lt _
              rcases (by omega : s[m].toNat < 48 ∨ 57 < s[m].toNat ∨ (48 ≤ s[m].toNat ∧ s[m].toNat ≤ 57)) with g | g | ⟨g, g'⟩
              · have r1 : decide ((48 : Int) ≤ (s[m].toNat : Int)) = false := decide_eq_false (by omega)
                clear hcd hm
                go_wp2
                go_quiet (fail)
                go_wp2
                go_roundw
                case rel => exact ⟨p + 1, _, by omega, by go_num, rfl⟩
                case measure => simp [intOf]; omega
              · have r1 : decide ((48 : Int) ≤ (s[m].toNat : Int)) = true := decide_eq_true (by omega)
                have r2 : decide ((s[m].toNat : Int) ≤ 57) = false := decide_eq_false (by omega)
                clear hcd hm
                go_wp2
                go_quiet (fail)
                go_wp2
                go_roundw
                case rel => exact ⟨p + 1, _, by omega, by go_num, rfl⟩
                case measure => simp [intOf]; omega
              · have r1 : decide ((48 : Int) ≤ (s[m].toNat : Int)) = true := decide_eq_true (by omega)
                have r2 : decide ((s[m].toNat : Int) ≤ 57) = true := decide_eq_true (by omega)
                have hdd : ng L p = ng L m := by
                  subst hm
                  exact HDG.out m hlt (cls_dig ⟨g, g'⟩) hcd
                obtain ⟨b2, o2, he, _, hc2⟩ := hr2.at_ hmL
                injection he with he
                cases he
                rw [← hdd, ← HX.out] at hc2
                have r3 : (x != x) = false := by simp
                clear hcd hm hdd
                go_wp2
                go_quiet (fail)
                go_wp2
                go_roundw
                case rel => exact ⟨p + 1, _, by omega, by go_num, rfl⟩
                case measure => simp [intOf]; omega
        · go_wp2
          go_ret
          exact ⟨rfl, bl_drewN HB0.out _⟩
    · have d0 : ((L.length : Int) != (s.size : Int)) = true := by simp; omega
      have H0 := hide h0
      clear h0
      go_wp2_with fail
      (with_reducible refine (HCS.out _).mono ?_)
      rintro e u4 ⟨A4, c4, rfl, ho4, hb4⟩
      have hr4 := hr1.below hb4
      go_wp2_with fail
      (with_reducible refine (eqInts_l _ _ _ _ _ _ _ _ _ hr4 ho4.reads (by omega) (by omega)).mono ?_)
      rintro e u5 ⟨rfl, j5, rfl⟩
      simp only [decide_true]
      go_wp2
      go_ret
      exact ⟨rfl, bl_drewN (bl_call hb4 HB.out) _⟩
set_option maxRecDepth 100000 in
theorem lifted_FnLevelsDigits (os : Os) (started : os.Started) (H : Type) (enc : TypeId × Value → H) :
    ReturnsInHanded {} Try.checked os 9 .any (Rows.fnLevelsDigitsSpec.pre6 enc Try.prog Try.f9 Rows.fnLevelsDigitsRow.domain false) (Rows.fnLevelsDigitsSpec.post enc Try.prog Try.f9 false true false false) := by
  refine returnsInHanded_of_change (C := Try.checked) own_knob started (by kernel_rfl) Try.func9
    (ChangeSpec.witness6 (enc := enc) (C := Try.checked) false ⟨#[], #[.slice none 0 0], []⟩ 8 (by kernel_rfl) (by kernel_rfl) (by kernel_rfl) (by kernel_rfl)) ?_
  intro W base args ds gs before hval0 hW hcnd _
  have hval : ∀ (j : Nat) t v, Try.f9.params[j]? = some t → args[j]? = some v → Value.okWide Try.prog W .any base t v := hval0
  have hW' := hW
  obtain ⟨p, q, hA0, hV, rfl, hfz, hnd⟩ := hW
  have hA : DataW.TrodAll enc Try.prog W 0 (fun _ => true) true Try.f9.params.toList args.toList ds p := hA0
  rw [Try.params9] at hA hval
  obtain ⟨v0, vs0, d0, ds0, p0, q0, hargs, rfl, rfl, zh0, r0⟩ := trodAll_cons hA
  obtain ⟨rfl, rfl, rfl⟩ := trodAll_nil r0
  obtain rfl : args = #[v0] := by cases args; simp_all
  obtain ⟨rfl, rfl⟩ := trodVars_none hV
  have zk0 := zh0
  have zl0 : ∀ x ∈ p0, x.block < W.heap.size := by obtain ⟨m, hm⟩ := zk0; exact DataW.trod_lt m _ _ _ hm
  clear hA0 hval0
  obtain ⟨a_code, n_code, c_code, rfl⟩ := okWide_slice Try.underlying30 (hval 0 30 v0 rfl rfl)
  obtain ⟨code, w_code⟩ := isRow_of Try.underlying30 Try.underlying5 (by kernel_rfl) zh0
  refine (walk_FnLevelsDigits a_code n_code c_code code W w_code).mono fun e W' ⟨he, bel⟩ => ?_
  subst he
  exact ⟨_, rfl, _, _, _, [], _, [], hW', trodAll_mk1 (shut_bool Try.underlying4 _), (trodAll_cons_mk (Below.trod laid_out (by kernel_rfl) (of_decide_eq_true (by kernel_rfl)) zk0 bel zl0) trodAll_mk0), rfl, bel.frame _, fun h => by cases h⟩

/-- The statement. -/
theorem FnLevelsDigits_holds : Rows.FnLevelsDigitsSaid :=
  OpenClaim.holds_of_wide 9 Try.f9 rfl rfl rfl rfl rfl rfl rfl ⟨rfl, rfl, rfl, rfl, rfl⟩ rfl rfl rfl rfl rfl (by kernel_rfl) Try.func9 (by kernel_rfl)
    (of_decide_eq_true (by kernel_rfl)) (by unfold Func.isWrapper; first | (rw [if_pos (by decide +kernel)]; kernel_rfl) | (rw [if_neg (by decide +kernel)]; exact ⟨rfl, rfl⟩))
    (fun os started H enc _ => lifted_FnLevelsDigits os started H enc)
end Go.Proofs.Yteoiphjkkcjddaa
