/- The promises on levels and shown texts hold for every code. No condition. -/
import Derived.Test.YteoiphjkkcjddaaDrawT
import Derived.Test.YteoiphjkkcjddaaLvT
namespace Go.Proofs.Yteoiphjkkcjddaa
open Go.ChangeShapes Go.WideShapes Go.ChangeAt Go.RowKit
set_option linter.unusedVariables false

theorem small_row' {w : World} {a : Option Addr} {n c : Nat} {zs : List Int} (h : IsRow .u8 w a n c zs) : n ≤ maxLen := small_row h
/-- A level as it stands at its character. -/
theorem lv_cases {s : ByteArray} {b : Int} (h : lvO s.data.toList b ≠ []) : (0 ≤ b ∧ b ≤ 1) ∧ lvO s.data.toList b = lvL s.data.toList b ∧ (lvO s.data.toList b).length = s.size ∧ ∀ j (hj : j < s.size), lvOk b s[j] (ng (lvO s.data.toList b) j) := by
  have hq : okT s.data.toList = true ∧ okB b = true := by
    apply Decidable.byContradiction
    intro hq
    exact h (by unfold lvO; rw [if_neg hq])
  have hb : 0 ≤ b ∧ b ≤ 1 := by simpa [okB] using hq.2
  have e := lvO_yes hq.1 hq.2
  refine ⟨hb, e, by rw [e, lvL_len, txt_len], fun j hj => ?_⟩
  have := lvL_ok (s := s.data.toList) (b := b) hb (j := j) (by rwa [txt_len])
  rw [bg_at hj] at this
  rw [e]; exact this

set_option maxHeartbeats 2000000 in
theorem walk_FnLevelsOf (a : Option Addr) (n c : Nat) (zs : List Int) (w : World) (hr : IsRow .u8 w a n c zs) :
    Calls Try.prog 8 #[.slice a n c] w fun e w' => e = .returned (.bool true) ∧ Below w.heap.size w w' := by
  have hm := small_row hr
  unfold maxLen at hm
  rcases (by omega : 1048576 < n ∨ n ≤ 1048576) with hn | hn
  · go_enter Try.func8, Try.ntmps8
    go_wp2
    go_ret
    exact ⟨rfl, bl_refl _⟩
  · go_enter Try.func8, Try.ntmps8
    go_wp2_with fail
    (refine (DrawLevelsOf_any _ _ _ _ _ hr).mono ?_; rintro e u0 ⟨s, z, hs, ⟨z0, z1⟩, rfl, hb⟩)
    clear hr
    have hlen := lvO_len s.data.toList z
    have hcs := lv_cases (s := s) (b := z)
    have CS := fun (u : World) => LevelsOf_s s z u (by omega)
    have CI := fun (u : World) => LevelsOf_i s z u (by omega)
    obtain ⟨L, hL⟩ : ∃ L, L = lvO s.data.toList z := ⟨_, rfl⟩
    rw [← hL] at hlen hcs
    simp only [← hL] at CS CI
    have HCS := hide CS
    have HCI := hide CI
    have HC := hide hcs
    clear CS CI hL hcs
    go_wp2_with fail
    (with_reducible refine (HCI.out _).mono ?_)
    rintro e u1 ⟨A1, c1, rfl, ho1, hb1⟩
    go_wp2_with fail
    (with_reducible refine (HCS.out _).mono ?_)
    rintro e u2 ⟨A2, c2, rfl, ho2, hb2⟩
    have ho1 := ho1.below hb2
    go_wp2_with fail
    (with_reducible refine (eqInts_l _ _ _ _ _ _ _ _ _ ho1.reads ho2.reads (by omega) (by omega)).mono ?_)
    rintro e u3 ⟨rfl, j, rfl⟩
    simp only [decide_true]
    have hr1 := ho1.reads.drewN j
    have HB := hide (bl_drewN (bl_call hb2 (bl_call hb1 hb)) j)
    clear ho1 ho2
    rcases Nat.eq_zero_or_pos L.length with h0 | h0
    · have d0 : ((L.length : Int) == 0) = true := by simp [h0]
      have H0 := hide h0
      clear h0
      go_wp2_with fail
      (with_reducible refine (HCS.out _).mono ?_)
      rintro e u4 ⟨A4, c4, rfl, ho4, hb4⟩
      have hr4 := hr1.below hb4
      go_wp2_with fail
      (with_reducible refine (eqInts_l _ _ _ _ _ _ _ _ _ hr4 ho4.reads (by omega) (by omega)).mono ?_)
      rintro e u5 ⟨rfl, j5, rfl⟩
      simp only [decide_true]
      go_wp2
      go_ret
      exact ⟨rfl, bl_drewN (bl_call hb4 HB.out) _⟩
    · have d0 : ((L.length : Int) == 0) = false := by simp; intro h; rw [h] at h0; simp at h0
      obtain ⟨hz, -, hl, hok⟩ := HC.out (by intro h; rw [h] at h0; simp at h0)
      have HOK := hide hok
      have HLS := hide hl
      clear hok hl
      have ez : ((L.length : Int) == (s.size : Int)) = true := by rw [HLS.out]; simp
      go_wp2
      go_loop [6] (fun i => ∃ p : Nat, p ≤ L.length ∧ i = .int .i64 p) (fun i => L.length - (intOf i).toNat)
      case atStart => exact ⟨0, by omega, rfl⟩
      case round =>
        obtain ⟨p, hp, rfl⟩ := hrel
        by_cases hltL : p < L.length
        · have hlt : p < s.size := by rw [← HLS.out]; exact hltL
          obtain ⟨b, o, rfl, hbv, hc⟩ := hr1.at_ hltL
          obtain ⟨x0, x2, xc, xl, xd⟩ := HOK.out p hlt
          obtain ⟨x, hx⟩ : ∃ x, x = ng L p := ⟨_, rfl⟩
          rw [← hx] at hc x0 x2 xc xl xd
          have hc8 : s[p].toNat < 256 := UInt8.toNat_lt _
          clear hx xd
          rcases cls_or s[p] with ⟨k, k1, k2⟩ | ⟨k, k1, k2⟩ | ⟨k, k1, k2⟩ | ⟨k, k1, k2, k3⟩
          · have hx2 := xl k
            rcases (by omega : x = 0 ∨ x = 2) with rfl | rfl
            all_goals
              clear xc xl k hx2
              go_wp2
              go_round
              case rel => exact ⟨p + 1, by omega, by go_num⟩
              case measure => simp [intOf]; omega
          · have hx2 := xc k
            subst hx2
            clear xc xl k
            go_wp2
            go_round
            case rel => exact ⟨p + 1, by omega, by go_num⟩
            case measure => simp [intOf]; omega
          · clear xc xl k
            go_wp2
            go_round
            case rel => exact ⟨p + 1, by omega, by go_num⟩
            case measure => simp [intOf]; omega
          · rcases (by omega : s[p].toNat < 65 ∨ (90 < s[p].toNat ∧ s[p].toNat < 97) ∨ 122 < s[p].toNat) with h | ⟨h, h'⟩ | h
            all_goals
              clear xc xl k k1 k2 k3
              go_wp2
              go_round
              case rel => exact ⟨p + 1, by omega, by go_num⟩
              case measure => simp [intOf]; omega
        · go_wp2
          go_ret
          exact ⟨rfl, HB.out⟩
set_option maxRecDepth 100000 in
theorem lifted_FnLevelsOf (os : Os) (started : os.Started) (H : Type) (enc : TypeId × Value → H) :
    ReturnsInHanded {} Try.checked os 8 .any (Rows.fnLevelsOfSpec.pre6 enc Try.prog Try.f8 Rows.fnLevelsOfRow.domain false) (Rows.fnLevelsOfSpec.post enc Try.prog Try.f8 false true false false) := by
  refine returnsInHanded_of_change (C := Try.checked) own_knob started (by kernel_rfl) Try.func8
    (ChangeSpec.witness6 (enc := enc) (C := Try.checked) false ⟨#[], #[.slice none 0 0], []⟩ 8 (by kernel_rfl) (by kernel_rfl) (by kernel_rfl) (by kernel_rfl)) ?_
  intro W base args ds gs before hval0 hW hcnd _
  have hval : ∀ (j : Nat) t v, Try.f8.params[j]? = some t → args[j]? = some v → Value.okWide Try.prog W .any base t v := hval0
  have hW' := hW
  obtain ⟨p, q, hA0, hV, rfl, hfz, hnd⟩ := hW
  have hA : DataW.TrodAll enc Try.prog W 0 (fun _ => true) true Try.f8.params.toList args.toList ds p := hA0
  rw [Try.params8] at hA hval
  obtain ⟨v0, vs0, d0, ds0, p0, q0, hargs, rfl, rfl, zh0, r0⟩ := trodAll_cons hA
  obtain ⟨rfl, rfl, rfl⟩ := trodAll_nil r0
  obtain rfl : args = #[v0] := by cases args; simp_all
  obtain ⟨rfl, rfl⟩ := trodVars_none hV
  have zk0 := zh0
  have zl0 : ∀ x ∈ p0, x.block < W.heap.size := by obtain ⟨m, hm⟩ := zk0; exact DataW.trod_lt m _ _ _ hm
  clear hA0 hval0
  obtain ⟨a_code, n_code, c_code, rfl⟩ := okWide_slice Try.underlying30 (hval 0 30 v0 rfl rfl)
  obtain ⟨code, w_code⟩ := isRow_of Try.underlying30 Try.underlying5 (by kernel_rfl) zh0
  refine (walk_FnLevelsOf a_code n_code c_code code W w_code).mono fun e W' ⟨he, bel⟩ => ?_
  subst he
  exact ⟨_, rfl, _, _, _, [], _, [], hW', trodAll_mk1 (shut_bool Try.underlying4 _), (trodAll_cons_mk (Below.trod laid_out (by kernel_rfl) (of_decide_eq_true (by kernel_rfl)) zk0 bel zl0) trodAll_mk0), rfl, bel.frame _, fun h => by cases h⟩

/-- The statement. -/
theorem FnLevelsOf_holds : Rows.FnLevelsOfSaid :=
  OpenClaim.holds_of_wide 8 Try.f8 rfl rfl rfl rfl rfl rfl rfl ⟨rfl, rfl, rfl, rfl, rfl⟩ rfl rfl rfl rfl rfl (by kernel_rfl) Try.func8 (by kernel_rfl)
    (of_decide_eq_true (by kernel_rfl)) (by unfold Func.isWrapper; first | (rw [if_pos (by decide +kernel)]; kernel_rfl) | (rw [if_neg (by decide +kernel)]; exact ⟨rfl, rfl⟩))
    (fun os started H enc _ => lifted_FnLevelsOf os started H enc)
end Go.Proofs.Yteoiphjkkcjddaa
