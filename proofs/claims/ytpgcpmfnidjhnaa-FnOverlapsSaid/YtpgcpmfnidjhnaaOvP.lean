/- The law on overlaps holds at every input. No condition. -/
import Derived.Test.YtpgcpmfnidjhnaaJn
import Derived.Test.YtpgcpmfnidjhnaaDrawQ
import Derived.Test.YtpgcpmfnidjhnaaOvI
import Derived.BigQuiet
namespace Go.Proofs.Ytpgcpmfnidjhnaa
open Go.ChangeShapes Go.WideShapes Go.ChangeAt Go.RowKit
set_option linter.unusedVariables false
open Classical

theorem small_rowv {w : World} {a : Option Addr} {n c : Nat} {zs : List Int} (h : IsRow .u8 w a n c zs) : n ≤ maxLen := by
  rcases h with ⟨_, rfl, _, _⟩ | ⟨_, _, hl, hm, _⟩
  · exact Nat.zero_le _
  · omega
theorem wf_smallv (x : Int) (h0 : -1000 ≤ x) (h1 : x ≤ 1000) : (Lit.int .i64 x).wf = true := by
  have a : IntKind.i64.min = -9223372036854775808 := rfl
  have b : IntKind.i64.max = 9223372036854775807 := rfl
  simp only [Lit.wf, a, b, Bool.and_eq_true, decide_eq_true_eq]
  omega
theorem pair_ov {p q : Pl} {w h : Int} (hw : 1 ≤ w ∧ w ≤ 60) (hh : 1 ≤ h ∧ h ≤ 60) (a : PlOk p w h) (b : PlOk q w h) (o : Ov p q) : ov [p, q] w h = (0, 1, true) := by
  have hp : pls [p, q] w h = true := pls_iff.2 ⟨hw, hh, by simp, fun j hj => by
    rcases (by simp at hj; omega : j = 0 ∨ j = 1) with rfl | rfl
    · exact a
    · exact b⟩
  exact ov_yes (i := 0) (k := 1) hp ⟨NoP.zero _, by omega, by simp, o⟩
theorem pair_tl (u : World) (p q : Pl) (t : TypeId) : TL (u.alloc (.cells #[.int .i64 p.x, .int .i64 p.y, .string p.t, .int .i64 q.x, .int .i64 q.y, .string q.t] t)) (some ⟨u.heap.size, 0, none⟩) 2 [p, q] := by
  refine ⟨rfl, fun _ => ⟨u.heap.size, 0, rfl, by simp, fun i hi j hj => ?_⟩⟩
  have hj' : j < 3 := hj
  rcases (by omega : i = 0 ∨ i = 1) with rfl | rfl <;> rcases (by omega : j = 0 ∨ j = 1 ∨ j = 2) with rfl | rfl | rfl <;> simp [go_sem, Rec.cells, Rec.size, tg]
set_option maxRecDepth 4000 in
set_option maxHeartbeats 4000000 in
theorem walk_FnOverlaps (a : Option Addr) (n c : Nat) (zs : List Int) (w : World) (hr : IsRow .u8 w a n c zs) :
    Calls Try.prog 12 #[.slice a n c] w fun e w' => e = .returned (.bool true) ∧ Below w.heap.size w w' := by
  have hm := small_rowv hr
  unfold maxLen at hm
  rcases (by omega : 1048576 < n ∨ n ≤ 1048576) with hn | hn
  · go_enter Try.func12, Try.ntmps12
    go_wp2
    go_ret
    exact ⟨rfl, bl_refl _⟩
  go_enter Try.func12, Try.ntmps12
  go_wp2_with fail
  (with_reducible refine (DrawOverlaps_any _ _ _ _ _ hr).mono ?_)
  rintro e u0 ⟨A, cc, L, x, y, rfl, hol, hll, hpq, ⟨⟨x0, x1⟩, y0, y1⟩, hb⟩
  clear hr
  have R := hide hol.reads
  have SM := hide hpq.sm
  have HB := hide hb
  clear hol hpq hb
  have CI := hide (fun (V : World) (hV : TL V A L.length L) => Overlaps_i V A L.length cc x y L hV SM.out (by omega))
  have CS := hide (fun (V : World) (hV : TL V A L.length L) => Overlaps_s V A L.length cc x y L hV SM.out (by omega) (wf_smallv _ (by omega) (by omega)) (wf_smallv _ (by omega) (by omega)))
  rcases ov_cases L x y with ⟨i, k, hp, hf, ho⟩ | ho
  · rw [ho] at CI CS
    have P := pls_iff.1 hp
    obtain ⟨_, hik, hkl, hov⟩ := hf
    have hil : i < L.length := by omega
    have E := hide (pair_ov P.1 P.2.1 (P.2.2.2 i hil) (P.2.2.2 k hkl) hov)
    have SM2 := hide (show PSm [tg L i, tg L k] from fun j hj => by
      rcases (by simp at hj; omega : j = 0 ∨ j = 1) with rfl | rfl
      · exact SM.out i hil
      · exact SM.out k hkl)
    have CP := hide (fun (V : World) (t : TypeId) => Overlaps_i (V.alloc (.cells #[.int .i64 (tg L i).x, .int .i64 (tg L i).y, .string (tg L i).t, .int .i64 (tg L k).x, .int .i64 (tg L k).y, .string (tg L k).t] t)).drew (some ⟨V.heap.size, 0, none⟩) 2 2 x y [tg L i, tg L k] (pair_tl V _ _ t).drew SM2.out (by omega))
    rw [E.out] at CP
    have hyy : (tg L i).y = (tg L k).y := hov.1
    have HYY := hide hyy
    clear P hp hov ho hyy E SM2
    go_wp2_with fail
    (with_reducible refine (CI.out _ R.out).mono ?_)
    rintro e u1 ⟨rfl, hb1⟩
    have R1 := hide (R.out.below hb1)
    have HB1 := hide (bl_call hb1 HB.out)
    clear hb1
    go_wp2_with fail
    (with_reducible refine (CS.out _ R1.out).mono ?_)
    rintro e u2 ⟨rfl, hb2⟩
    have R2 := hide (R1.out.below hb2)
    have HB2 := hide (bl_call hb2 HB1.out)
    clear hb2
    obtain ⟨b, o, rfl, hb0, c0, c1, c2⟩ := R2.out.atp hil
    obtain ⟨b', o', hA, hb', d0, d1, d2⟩ := R2.out.atp hkl
    injection hA with hA
    cases hA
    have e1 : (u2.alloc (.cells #[.int .i64 (tg L i).x, .int .i64 (tg L i).y, .string (tg L i).t, .int .i64 (tg L k).x, .int .i64 (tg L k).y, .string (tg L k).t] 58)).cell? ⟨b, o + i * 3 + 1, none⟩ = _ := keep_alloc c1 _
    have e2 : (u2.alloc (.cells #[.int .i64 (tg L i).x, .int .i64 (tg L i).y, .string (tg L i).t, .int .i64 (tg L k).x, .int .i64 (tg L k).y, .string (tg L k).t] 58)).cell? ⟨b, o + k * 3 + 1, none⟩ = _ := keep_alloc d1 _
    have HA2 := hide (bl_alloc HB2.out (.cells #[.int .i64 (tg L i).x, .int .i64 (tg L i).y, .string (tg L i).t, .int .i64 (tg L k).x, .int .i64 (tg L k).y, .string (tg L k).t] 58))
    have E1 := hide e1
    have E2 := hide e2
    clear e1 e2
    go_wp2_with fail
    go_region_with (go_at_call 44; (with_reducible refine (CP.out _ _).mono ?_); rintro e u3 ⟨rfl, hb3⟩; (try (with_reducible have hb3 := bl_undrew hb3)); have g1 := keep_cell hb3 E1.out; have g2 := keep_cell hb3 E2.out; have HB3 := hide (bl_call hb3 HA2.out))
    all_goals
      have hyy := HYY.out
      obtain ⟨Y, hY⟩ : ∃ Y, Y = (tg L k).y := ⟨_, rfl⟩
      rw [hyy, ← hY] at g1
      rw [← hY] at g2
      clear hyy hY c0 c1 c2 d0 d1 d2
      have yy : (Y == Y) = true := by simp
      go_wp2_with fail
      go_quiet (fail)
      go_wp2
      go_ret
      exact ⟨rfl, bl_drewN HB3.out _⟩
  · rw [ho] at CI CS
    clear ho
    go_wp2_with fail
    (with_reducible refine (CI.out _ R.out).mono ?_)
    rintro e u1 ⟨rfl, hb1⟩
    have R1 := hide (R.out.below hb1)
    have HB1 := hide (bl_call hb1 HB.out)
    clear hb1
    go_wp2_with fail
    (with_reducible refine (CS.out _ R1.out).mono ?_)
    rintro e u2 ⟨rfl, hb2⟩
    go_wp2
    go_ret
    exact ⟨rfl, bl_call hb2 HB1.out⟩
set_option maxRecDepth 100000 in
theorem lifted_FnOverlaps (os : Os) (started : os.Started) (H : Type) (enc : TypeId × Value → H) :
    ReturnsInHanded {} Try.checked os 12 .any (Rows.fnOverlapsSpec.pre6 enc Try.prog Try.f12 Rows.fnOverlapsRow.domain false) (Rows.fnOverlapsSpec.post enc Try.prog Try.f12 false true false false) := by
  refine returnsInHanded_of_change (C := Try.checked) own_knob started (by kernel_rfl) Try.func12
    (ChangeSpec.witness6 (enc := enc) (C := Try.checked) false ⟨#[], #[.slice none 0 0], []⟩ 8 (by kernel_rfl) (by kernel_rfl) (by kernel_rfl) (by kernel_rfl)) ?_
  intro W base args ds gs before hval0 hW hcnd _
  have hval : ∀ (j : Nat) t v, Try.f12.params[j]? = some t → args[j]? = some v → Value.okWide Try.prog W .any base t v := hval0
  have hW' := hW
  obtain ⟨p, q, hA0, hV, rfl, hfz, hnd⟩ := hW
  have hA : DataW.TrodAll enc Try.prog W 0 (fun _ => true) true Try.f12.params.toList args.toList ds p := hA0
  rw [Try.params12] at hA hval
  obtain ⟨v0, vs0, d0, ds0, p0, q0, hargs, rfl, rfl, zh0, r0⟩ := trodAll_cons hA
  obtain ⟨rfl, rfl, rfl⟩ := trodAll_nil r0
  obtain rfl : args = #[v0] := by cases args; simp_all
  obtain ⟨rfl, rfl⟩ := trodVars_none hV
  have zk0 := zh0
  have zl0 : ∀ x ∈ p0, x.block < W.heap.size := by obtain ⟨m, hm⟩ := zk0; exact DataW.trod_lt m _ _ _ hm
  clear hA0 hval0
  obtain ⟨a_code, n_code, c_code, rfl⟩ := okWide_slice Try.underlying26 (hval 0 26 v0 rfl rfl)
  obtain ⟨code, w_code⟩ := isRow_of Try.underlying26 Try.underlying5 (by kernel_rfl) zh0
  refine (walk_FnOverlaps a_code n_code c_code code W w_code).mono fun e W' ⟨he, bel⟩ => ?_
  subst he
  exact ⟨_, rfl, _, _, _, [], _, [], hW', trodAll_mk1 (shut_bool Try.underlying4 _), (trodAll_cons_mk (Below.trod laid_out (by kernel_rfl) (of_decide_eq_true (by kernel_rfl)) zk0 bel zl0) trodAll_mk0), rfl, bel.frame _, fun h => by cases h⟩

/-- The statement. -/
theorem FnOverlaps_holds : Rows.FnOverlapsSaid :=
  OpenClaim.holds_of_wide 12 Try.f12 rfl rfl rfl rfl rfl rfl rfl ⟨rfl, rfl, rfl, rfl, rfl⟩ rfl rfl rfl rfl rfl (by kernel_rfl) Try.func12 (by unfold joinedFacts; rw [may_enter, lifts_final, make_cut]; kernel_rfl)
    (of_decide_eq_true (by kernel_rfl)) (by unfold Func.isWrapper; first | (rw [if_pos (by decide +kernel)]; kernel_rfl) | (rw [if_neg (by decide +kernel)]; exact ⟨rfl, rfl⟩))
    (fun os started H enc _ => lifted_FnOverlaps os started H enc)
end Go.Proofs.Ytpgcpmfnidjhnaa
