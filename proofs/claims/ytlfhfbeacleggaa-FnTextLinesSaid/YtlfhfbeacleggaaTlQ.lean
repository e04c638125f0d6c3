/- The law on lines of texts holds for every code: every line is there, the penalties add up. No condition. -/
import Derived.Test.YtlfhfbeacleggaaJn
import Derived.Test.YtlfhfbeacleggaaTlS
import Derived.Test.YtlfhfbeacleggaaTlP
import Derived.Test.YtlfhfbeacleggaaFillW
import Derived.Test.YtlfhfbeacleggaaLines
import Derived.Test.YtlfhfbeacleggaaCwP
import Derived.BigQuiet
import Derived.Deep.QuietTactic
namespace Go.Proofs.Ytlfhfbeacleggaa
open Go.ChangeShapes Go.WideShapes Go.ChangeAt Go.RowKit
set_option linter.unusedVariables false
set_option linter.unusedSimpArgs false
set_option maxRecDepth 4000
open Classical

theorem RetG.len {w w' : World} {L : List Gp} {e : Ending} (h : RetG w L e w') : ∃ A c, e = .returned (.slice A L.length c) ∧ TO w' 46 w.heap.size A c L ∧ Below w.heap.size w w' := h
theorem tlL_lok {l : List Int} {h : Int} {n : Nat} (ok : PosTo l l.length) (h1 : 1 ≤ h ∧ h ≤ 1000) (hn : 1 ≤ n ∧ n ≤ 40) : lok (tlL l h n) = true := by
  refine lok_iff.2 ⟨by rw [tlL_len]; exact hn, fun i hi => ?_⟩
  rw [tlL_len] at hi
  rw [tlL_at hi]
  have := pnT_250 ok (Nat.le_refl _) i
  exact lnk_iff.2 ⟨h1, ⟨by show (0 : Int) ≤ 0; omega, by show (0 : Int) ≤ 1000; omega⟩, ⟨by show 0 ≤ pnT l l.length i; omega, by show pnT l l.length i ≤ 1000; omega⟩⟩
theorem tw_true {l : List Int} (ok : PosTo l l.length) : tw (fun _ => true) (pnT l l.length) (fiL l l.length) = 250 * (lgN l l.length : Int) := by
  rw [tw_all ok _ (Nat.le_refl _), ← lgN_eq]
  simp
  omega
set_option maxHeartbeats 4000000 in
theorem walk_FnTextLines (a : Option Addr) (n c : Nat) (zs : List Int) (w : World) (hr : IsRow .u8 w a n c zs) :
    Calls Try.prog 7 #[.slice a n c] w fun e w' => e = .returned (.bool true) ∧ Below w.heap.size w w' := by
  have hm := small_row hr
  unfold maxLen at hm
  rcases (by omega : 1048576 < n ∨ n ≤ 1048576) with hn | hn
  · go_enter Try.func7, Try.ntmps7
    go_wp2
    go_ret
    exact ⟨rfl, bl_refl _⟩
  go_enter Try.func7, Try.ntmps7
  go_wp2_with fail
  (with_reducible refine (DrawTextLines_any _ _ _ _ _ hr).mono ?_)
  rintro e u0 ⟨A, c', l, z, rfl, hol, hll, hel, hb⟩
  clear hr
  have CI := hide (fun (u : World) (h1 : IL u A l.length l) => TextLines_i u A l.length c' l z h1 (by omega))
  have CS := hide (fun (u : World) (h1 : IL u A l.length l) => TextLines_s u A l.length c' l z h1 (by omega))
  have HO := hide hol
  have HB := hide hb
  have HEL := hide hel
  have NO := hide (fun (q : (okW l && inB z 1 1000) = false) => tlO_no (l := l) (h := z) q)
  have YES := hide (fun (q : (okW l && inB z 1 1000) = true) => tlO_yes (l := l) (h := z) q)
  have LGE := hide (fun k => lgN_le (l := l) (k := k))
  obtain ⟨L, hL⟩ : ∃ L, L = tlO l z := ⟨_, rfl⟩
  rw [← hL] at CI CS NO YES
  clear hol hb hel hL
  go_wp2_with fail
  (with_reducible refine (CI.out _ HO.out.reads).mono ?_)
  rintro e u1 ⟨A1, c1, rfl, ho1, hb1⟩
  have HO1 := hide (HO.out.below hb1)
  have HB1 := hide (bl_call hb1 HB.out)
  clear hb1 HB
  go_wp2_with fail
  (with_reducible refine (CS.out _ HO1.out.reads).mono ?_)
  rintro e wl ⟨A2, c2, rfl, ho2, hb2⟩
  have T1 := hide (TO.below ho1 hb2).reads
  have T2 := hide ho2.reads
  have R1 := hide (HO1.out.below hb2).reads
  have HB2 := hide (bl_call hb2 HB1.out)
  clear ho1 ho2 hb2 CI CS HO HO1
  have LG1 := hide (fun (k : Nat) (h : 1 < ng l k) => show lgN l (k + 1) = lgN l k + 1 from by simp only [lgN]; rw [if_pos h])
  have LG0 := hide (fun (k : Nat) (h : ¬ 1 < ng l k) => show lgN l (k + 1) = lgN l k from by simp only [lgN]; rw [if_neg h, Nat.add_zero])
  cases q : (okW l && inB z 1 1000)
  · have L0 := NO.out q
    subst L0
    clear NO YES T1 T2
    have LZ := hide (show ([] : List Gp).length = 0 from rfl)
    go_wp2
    go_loop [7, 8] (fun v i => v = .int .i64 0 ∧ i = .int .i64 0) (fun _ _ => 0)
    case atStart => exact ⟨rfl, rfl⟩
    case round =>
      obtain ⟨rfl, rfl⟩ := hrel
      go_wp2
      go_loop [9, 10] (fun v i => ∃ (k g : Nat), k ≤ l.length ∧ i = .int .i64 k ∧ g = lgN l k ∧ v = .int .i64 (250 * (g : Int))) (fun _ i => l.length - (intOf i).toNat)
      case atStart => exact ⟨0, 0, by omega, rfl, rfl, rfl⟩
      case round =>
        obtain ⟨k, g, hk, rfl, hg, rfl⟩ := hrel
        have lge := LGE.out k
        rw [← hg] at lge
        have HG := hide hg
        clear hg
        by_cases hlt : k < l.length
        · obtain ⟨b, o, rfl, _, hc⟩ := R1.out.at_ hlt
          have zb := HEL.out k hlt
          have G1 := hide (LG1.out k)
          have G0 := hide (LG0.out k)
          obtain ⟨y, hy⟩ : ∃ y, y = ng l k := ⟨_, rfl⟩
          rw [← hy] at hc zb G1 G0
          clear hy
          rcases (by omega : 1 < y ∨ ¬ 1 < y) with q1 | q1
          · have d0 : decide (1 < y) = true := decide_eq_true q1
            have G2 := hide (show g + 1 = lgN l (k + 1) by rw [G1.out q1, ← HG.out])
            go_wp2
            go_round
            case rel => exact ⟨k + 1, g + 1, by omega, by go_num, G2.out, by go_num⟩
            case measure => simp [intOf]; omega
          · have d0 : decide (1 < y) = false := decide_eq_false q1
            have G2 := hide (show g = lgN l (k + 1) by rw [G0.out (by omega), ← HG.out])
            go_wp2
            go_round
            case rel => exact ⟨k + 1, g, by omega, by go_num, G2.out, rfl⟩
            case measure => simp [intOf]; omega
        · have hkl : k = l.length := by omega
          clear hkl
          go_wp2
          go_ret
          exact ⟨rfl, HB2.out⟩
  · obtain ⟨ok', hz'⟩ : okW l = true ∧ inB z 1 1000 = true := by simpa only [Bool.and_eq_true] using q
    have ok := okW_iff.1 ok'
    have hN40 := fiL_le ok (Nat.le_refl _)
    have hN1 := Nat.le_trans ok.2.2 (len_fiL ok.1)
    have LK := hide (tlL_lok (h := z) (n := fiL l l.length) ok.1 (inB_iff.1 hz') ⟨hN1, hN40⟩)
    have TWT := hide (tw_true ok.1)
    have TG := hide (fun (j : Nat) (hj : j < fiL l l.length) => tlL_at (l := l) (h := z) hj)
    have TB := hide (fun (k : Nat) => tw_bd (g := fun _ => true) (pnT_250 ok.1 (Nat.le_refl _)) k)
    have SM := hide (show sl l = (fiL l l.length : Int) by rw [← pfx_all, fiL_pfx ok.1 (Nat.le_refl _)])
    have SB := hide (fun (j : Nat) (hj : j < l.length) => show 0 ≤ ng l j ∧ ng l j ≤ 100000 from ⟨by have := ok.1 j hj; omega, by have := HEL.out j hj; omega⟩)
    have L0 := YES.out q
    have TWS := hide (fun (k : Nat) => show tw (fun _ => true) (pnT l l.length) (k + 1) = tw (fun _ => true) (pnT l l.length) k + pnT l l.length k from by simp [tw])
    have P250 := hide (pnT_250 ok.1 (Nat.le_refl _))
    obtain ⟨N, hN⟩ : ∃ N, N = fiL l l.length := ⟨_, rfl⟩
    rw [← hN] at hN40 hN1 LK TWT TG SM L0
    have hLl : L.length = N := by rw [L0, tlL_len]
    rw [← L0] at LK TG
    obtain ⟨p, hp⟩ : ∃ p, p = pnT l l.length := ⟨_, rfl⟩
    rw [← hp] at TWT TG TB TWS P250
    clear hp L0 NO YES hN ok ok' hz' q
    subst hLl
    have SMI := hide (fun (u : World) (h : IL u A l.length l) (hb : ∀ j, j < l.length → 0 ≤ ng l j ∧ ng l j ≤ 100000) => sum_l u A l.length c' l h (by omega) hb)
    have VL := hide (fun (u : World) (h : TL u A1 L.length L) => ValidLines_i u A1 L.length c1 L h (by omega))
    rw [SM.out] at SMI
    rw [LK.out] at VL
    clear LK SM
    go_wp2
    go_loopw [7, 8] (fun v i u => ∃ (k : Nat) (t : Int) (j : Nat), k ≤ L.length ∧ i = .int .i64 k ∧ t = tw (fun _ => true) p k ∧ v = .int .i64 t ∧ u = wl.drewN j) (fun _ i _ => L.length - (intOf i).toNat)
    case atStart => exact ⟨0, 0, 0, by omega, rfl, rfl, rfl, rfl⟩
    case round =>
      obtain ⟨k, t, jd, hk, rfl, ht, rfl, rfl⟩ := hrel
      have tb := TB.out k
      rw [← ht] at tb
      have HT := hide ht
      clear ht
      by_cases hlt : k < L.length
      · obtain ⟨b, o, rfl, _, c0, c1', c2'⟩ := T1.out.at3 hlt
        obtain ⟨b', o', rfl, _, d0, d1, d2⟩ := T2.out.at3 hlt
        have yb := P250.out k
        have T3 := hide (show t + p k = tw (fun _ => true) p (k + 1) by rw [TWS.out, HT.out])
        rw [TG.out k hlt] at c0 c1' c2' d0 d1 d2
        obtain ⟨y, hy⟩ : ∃ y, y = p k := ⟨_, rfl⟩
        rw [← hy] at c2' d2 yb T3
        clear hy
        simp only at c0 c1' c2' d0 d1 d2
        go_wp2_with fail
        go_quiet (fail)
        go_wp2
        go_roundw
        case rel => exact ⟨k + 1, t + y, _, by omega, by go_num, T3.out, rfl, rfl⟩
        case measure => simp [intOf]; omega
      · have hkL : k = L.length := by omega
        have T4 : Hid (t = 250 * (lgN l l.length : Int)) := hide (by rw [HT.out, hkL]; exact TWT.out)
        clear HT tb hkL hk
        go_wp2
        go_loop [9, 10] (fun v i => ∃ (k g : Nat), k ≤ l.length ∧ i = .int .i64 k ∧ g = lgN l k ∧ v = .int .i64 (250 * (g : Int))) (fun _ i => l.length - (intOf i).toNat)
        case atStart => exact ⟨0, 0, by omega, rfl, rfl, rfl⟩
        case round =>
          obtain ⟨k, g, hk, rfl, hg, rfl⟩ := hrel
          have lge := LGE.out k
          rw [← hg] at lge
          have HG := hide hg
          clear hg
          by_cases hlt : k < l.length
          · obtain ⟨b, o, rfl, _, hc⟩ := R1.out.at_ hlt
            have zb := HEL.out k hlt
            have G1 := hide (LG1.out k)
            have G0 := hide (LG0.out k)
            obtain ⟨y, hy⟩ : ∃ y, y = ng l k := ⟨_, rfl⟩
            rw [← hy] at hc zb G1 G0
            clear hy
            rcases (by omega : 1 < y ∨ ¬ 1 < y) with q1 | q1
            · have d0 : decide (1 < y) = true := decide_eq_true q1
              have G2 := hide (show g + 1 = lgN l (k + 1) by rw [G1.out q1, ← HG.out])
              go_wp2
              go_round
              case rel => exact ⟨k + 1, g + 1, by omega, by go_num, G2.out, by go_num⟩
              case measure => simp [intOf]; omega
            · have d0 : decide (1 < y) = false := decide_eq_false q1
              have G2 := hide (show g = lgN l (k + 1) by rw [G0.out (by omega), ← HG.out])
              go_wp2
              go_round
              case rel => exact ⟨k + 1, g, by omega, by go_num, G2.out, rfl⟩
              case measure => simp [intOf]; omega
          · have hkl : k = l.length := by omega
            have E := hide (show t = 250 * (g : Int) by rw [T4.out, HG.out, hkl])
            have e1 : (t == 250 * (g : Int)) = true := beq_iff_eq.2 E.out
            have e2 : ((L.length : Int) == 0) = false := beq_eq_false_iff_ne.2 (by omega)
            have VL1 := hide (VL.out (wl.drewN jd) T1.out)
            clear hkl E
            go_wp2_with fail
            (with_reducible refine VL1.out.mono ?_)
            rintro e u3 ⟨rfl, hb3⟩
            have SM1 := hide (SMI.out _ ((R1.out.drewN jd).below hb3) SB.out)
            have HB3 := hide (bl_call hb3 (bl_drewN HB2.out jd))
            clear hb3
            go_wp2_with fail
            (with_reducible refine SM1.out.mono ?_)
            rintro e u4 ⟨rfl, rfl⟩
            go_wp2
            go_ret
            exact ⟨rfl, HB3.out⟩
set_option maxRecDepth 100000 in
theorem lifted_FnTextLines (os : Os) (started : os.Started) (H : Type) (enc : TypeId × Value → H) :
    ReturnsInHanded {} Try.checked os 7 .any (Rows.fnTextLinesSpec.pre6 enc Try.prog Try.f7 Rows.fnTextLinesRow.domain false) (Rows.fnTextLinesSpec.post enc Try.prog Try.f7 false true false false) := by
  refine returnsInHanded_of_change (C := Try.checked) own_knob started (by kernel_rfl) Try.func7
    (ChangeSpec.witness6 (enc := enc) (C := Try.checked) false ⟨#[], #[.slice none 0 0], []⟩ 8 (by kernel_rfl) (by kernel_rfl) (by kernel_rfl) (by kernel_rfl)) ?_
  intro W base args ds gs before hval0 hW hcnd _
  have hval : ∀ (j : Nat) t v, Try.f7.params[j]? = some t → args[j]? = some v → Value.okWide Try.prog W .any base t v := hval0
  have hW' := hW
  obtain ⟨p, q, hA0, hV, rfl, hfz, hnd⟩ := hW
  have hA : DataW.TrodAll enc Try.prog W 0 (fun _ => true) true Try.f7.params.toList args.toList ds p := hA0
  rw [Try.params7] at hA hval
  obtain ⟨v0, vs0, d0, ds0, p0, q0, hargs, rfl, rfl, zh0, r0⟩ := trodAll_cons hA
  obtain ⟨rfl, rfl, rfl⟩ := trodAll_nil r0
  obtain rfl : args = #[v0] := by cases args; simp_all
  obtain ⟨rfl, rfl⟩ := trodVars_none hV
  have zk0 := zh0
  have zl0 : ∀ x ∈ p0, x.block < W.heap.size := by obtain ⟨m, hm⟩ := zk0; exact DataW.trod_lt m _ _ _ hm
  clear hA0 hval0
  obtain ⟨a_code, n_code, c_code, rfl⟩ := okWide_slice Try.underlying28 (hval 0 28 v0 rfl rfl)
  obtain ⟨code, w_code⟩ := isRow_of Try.underlying28 Try.underlying5 (by kernel_rfl) zh0
  refine (walk_FnTextLines a_code n_code c_code code W w_code).mono fun e W' ⟨he, bel⟩ => ?_
  subst he
  exact ⟨_, rfl, _, _, _, [], _, [], hW', trodAll_mk1 (shut_bool Try.underlying4 _), (trodAll_cons_mk (Below.trod laid_out (by kernel_rfl) (of_decide_eq_true (by kernel_rfl)) zk0 bel zl0) trodAll_mk0), rfl, bel.frame _, fun h => by cases h⟩

/-- The statement. -/
theorem FnTextLines_holds : Rows.FnTextLinesSaid :=
  OpenClaim.holds_of_wide 7 Try.f7 rfl rfl rfl rfl rfl rfl rfl ⟨rfl, rfl, rfl, rfl, rfl⟩ rfl rfl rfl rfl rfl (by kernel_rfl) Try.func7 (by unfold joinedFacts; rw [may_enter, lifts_final, make_cut]; kernel_rfl)
    (of_decide_eq_true (by kernel_rfl)) (by unfold Func.isWrapper; first | (rw [if_pos (by decide +kernel)]; kernel_rfl) | (rw [if_neg (by decide +kernel)]; exact ⟨rfl, rfl⟩))
    (fun os started H enc _ => lifted_FnTextLines os started H enc)
end Go.Proofs.Ytlfhfbeacleggaa
