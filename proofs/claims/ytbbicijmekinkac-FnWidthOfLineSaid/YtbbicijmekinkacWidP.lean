/- The promise on WidthOfLine holds for every code: the last width is repeated, and that of line 0 is the first one. No condition. -/
import Derived.Test.YtbbicijmekinkacDrawI
import Derived.Test.YtbbicijmekinkacShapeI
import Derived.Deep.RegionWith
namespace Go.Proofs.Ytbbicijmekinkac
open Go.ChangeShapes Go.WideShapes Go.ChangeAt Go.RowKit
set_option linter.unusedVariables false

set_option maxHeartbeats 1000000 in
theorem walk_FnWidthOfLine (a : Option Addr) (n c : Nat) (zs : List Int) (w : World) (hr : IsRow .u8 w a n c zs) :
    Calls Try.prog 7 #[.slice a n c] w fun e w' => e = .returned (.bool true) ∧ Below w.heap.size w w' := by
  have hm := small_row hr
  unfold maxLen at hm
  rcases (by omega : 1048576 < n ∨ n ≤ 1048576) with hn | hn
  · go_enter Try.func7, Try.ntmps7
    go_wp2
    go_ret
    exact ⟨rfl, bl_refl _⟩
  · go_enter Try.func7, Try.ntmps7
    go_wp2_with fail
    refine (DrawWidthOfLine_any _ _ _ _ _ hr).mono ?_
    rintro e u0 ⟨A, c, l, m, rfl, hol, hll, hel, ⟨hm0, hm1⟩, hb⟩
    clear hr
    have hil := hol.reads
    have hl2 : l.length ≤ 4611686018427387904 := by omega
    by_cases hz : wol l m = 0
    · have E := hide hz
      clear hz
      go_wp2_with fail
      refine (WidthOfLine_i _ _ _ _ _ _ hil hl2).mono ?_
      rintro e u1 ⟨rfl, hb1⟩
      rw [E.out]
      go_wp2_with fail
      refine (WidthOfLine_s _ _ _ _ _ _ (hil.below hb1) hl2).mono ?_
      rintro e w' ⟨rfl, rfl⟩
      rw [E.out]
      go_wp2_with fail
      refine (WidthOfLine_s _ _ _ _ _ _ (hil.below hb1) hl2).mono ?_
      rintro e w' ⟨rfl, rfl⟩
      rw [E.out]
      go_wp2
      go_ret
      exact ⟨rfl, bl_call hb1 hb⟩
    · have ok : okShape l = true := by
        cases q : okShape l
        · exact absurd (wol_no q) hz
        · rfl
      have h0 : 0 ≤ m := by
        rcases (by omega : m < 0 ∨ 0 ≤ m) with h | h
        · exact absurd (wol_neg h) hz
        · exact h
      obtain ⟨m, rfl⟩ := Int.eq_ofNat_of_zero_le h0
      have hlen := (okShape_iff.1 ok).1
      obtain ⟨x, hx⟩ : ∃ x, x = wol l m := ⟨_, rfl⟩
      have E1 : decide (x ∈ l) = true := by
        rw [hx, wol_yes ok]
        simp only [decide_eq_true_eq]
        exact ng_mem (by omega)
      have E2 : wol l (1000 + (m : Int)) = ng l (l.length - 1) := by
        rw [show (1000 + (m : Int)) = ((1000 + m : Nat) : Int) from by omega, wol_yes ok, show min (1000 + m) (l.length - 1) = l.length - 1 from by omega]
      have E3 : wol l 0 = ng l 0 := by
        have := wol_yes (n := 0) ok
        simpa using this
      obtain ⟨b, o, hA, hbl, hc⟩ := hil.at_ (i := 0) (by omega)
      subst hA
      have CL := fun (u : World) (h : IL u (some ⟨b, o, none⟩) l.length l) => last_l u _ _ c l h hl2
      rw [if_neg (by intro h; rw [h] at hlen; simp at hlen)] at CL
      obtain ⟨y, hy⟩ : ∃ y, y = ng l (l.length - 1) := ⟨_, rfl⟩
      obtain ⟨t, ht⟩ : ∃ t, t = ng l 0 := ⟨_, rfl⟩
      rw [← hy] at E2
      rw [← ht] at E3
      rw [← hy] at CL
      rw [← ht, Nat.add_zero] at hc
      have hxz : (x == 0) = false := by rw [hx]; simpa using hz
      have C0 : Hid (∀ u, IL u (some ⟨b, o, none⟩) l.length l → u.cell? ⟨b, o, none⟩ = some (.int .i64 t)) := hide (fun u h => by
        obtain ⟨b', o', e, _, hc'⟩ := h.at_ (i := 0) (by omega)
        injection e with e
        cases e
        rw [ht]
        simpa using hc')
      have HX := hide hx.symm
      have HW := hide E2
      have HZ := hide E3
      have HLa := hide CL
      have HE1 := hide E1
      have hlp : 0 < l.length := by omega
      have HIL := hide hil
      clear CL E1 E2 E3 hx hy ht hz hlen hol hel ok
      go_wp2_with fail
      refine (WidthOfLine_i _ _ _ _ _ _ hil hl2).mono ?_
      rintro e u1 ⟨rfl, hb1⟩
      rw [HX.out]
      have hil1 := hil.below hb1
      have hc1 := keep_cell hb1 hc
      have hbl1 : b < u1.heap.size := Nat.lt_of_lt_of_le hbl hb1.size
      clear hil hc hbl
      go_wp2_with fail
      refine (WidthOfLine_s _ _ _ _ _ _ hil1 hl2).mono ?_
      rintro e w' ⟨rfl, rfl⟩
      rw [HX.out]
      go_wp2_with fail
      have wr1 : IntKind.i64.wrap (1000 + (m : Int)) = 1000 + (m : Int) := IntWalk.i64_in _ (by omega)
      go_region_with (first | (go_at_call 34; (with_reducible refine (isIn_l _ _ _ _ l _ (by repeat' (first | with_reducible assumption | with_reducible refine IL.drewN ?_ _ | with_reducible refine IL.drew ?_ | with_reducible refine IL.alloc ?_ _ | with_reducible refine IL.below ?_ (by assumption))) hl2).mono ?_); rintro e w' ⟨rfl, rfl⟩; rw [HE1.out]) | (go_at_call 32; (with_reducible refine (WidthOfLine_i _ _ _ _ l _ (by repeat' (first | with_reducible assumption | with_reducible refine IL.drewN ?_ _ | with_reducible refine IL.drew ?_ | with_reducible refine IL.alloc ?_ _ | with_reducible refine IL.below ?_ (by assumption))) hl2).mono ?_); rintro e w' ⟨rfl, hbq⟩; (first | rw [HW.out] | rw [HZ.out]); (have hiq : IL w' (some ⟨b, o, none⟩) l.length l := IL.below (by repeat' (first | with_reducible assumption | with_reducible refine IL.drewN ?_ _ | with_reducible refine IL.drew ?_ | with_reducible refine IL.alloc ?_ _ | with_reducible refine IL.below ?_ (by assumption))) hbq; have hcq := C0.out _ hiq; clear hiq; have hiq : IL w' (some ⟨b, o, none⟩) l.length l := IL.below (by repeat' (first | with_reducible assumption | with_reducible refine IL.drewN ?_ _ | with_reducible refine IL.drew ?_ | with_reducible refine IL.alloc ?_ _ | with_reducible refine IL.below ?_ (by assumption))) hbq)) | (go_at_call 35; (with_reducible refine (HLa.out _ (by repeat' (first | with_reducible assumption | with_reducible refine IL.drewN ?_ _ | with_reducible refine IL.drew ?_ | with_reducible refine IL.alloc ?_ _ | with_reducible refine IL.below ?_ (by assumption)))).mono ?_); rintro e w' ⟨rfl, rfl⟩))
      all_goals (try go_wp2)
      all_goals go_ret
      all_goals (refine ⟨rfl, ?_⟩)
      all_goals repeat' (first | with_reducible exact bl_refl _ | with_reducible assumption | with_reducible refine bl_alloc ?_ _ | with_reducible refine bl_set ?_ ?_ _ | with_reducible refine bl_drewN ?_ _ | with_reducible refine bl_drew ?_ | with_reducible refine bl_call (by assumption) ?_)
set_option maxRecDepth 100000 in
theorem lifted_FnWidthOfLine (os : Os) (started : os.Started) (H : Type) (enc : TypeId × Value → H) :
    ReturnsInHanded {} Try.checked os 7 .any (Rows.fnWidthOfLineSpec.pre6 enc Try.prog Try.f7 Rows.fnWidthOfLineRow.domain false) (Rows.fnWidthOfLineSpec.post enc Try.prog Try.f7 false true false false) := by
  refine returnsInHanded_of_change (C := Try.checked) own_knob started (by kernel_rfl) Try.func7
    (ChangeSpec.witness6 (enc := enc) (C := Try.checked) false ⟨#[], #[.slice none 0 0], []⟩ 8 (by kernel_rfl) (by kernel_rfl) (by kernel_rfl) (by kernel_rfl)) ?_
  intro W base args ds gs before hval0 hW hcnd _
  have hval : ∀ (j : Nat) t v, Try.f7.params[j]? = some t → args[j]? = some v → Value.okWide Try.prog W .any base t v := hval0
  have hW' := hW
  obtain ⟨p, q, hA0, hV, rfl, hfz, hnd⟩ := hW
  have hA : DataW.TrodAll enc Try.prog W 0 (fun _ => true) true Try.f7.params.toList args.toList ds p := hA0
  rw [Try.params7] at hA hval
  obtain ⟨v0, vs0, d0, ds0, p0, q0, hargs, rfl, rfl, zh0, r0⟩ := trodAll_cons hA
  obtain ⟨rfl, rfl, rfl⟩ := trodAll_nil r0
  obtain rfl : args = #[v0] := by cases args; simp_all
  obtain ⟨rfl, rfl⟩ := trodVars_none hV
  have zk0 := zh0
  have zl0 : ∀ x ∈ p0, x.block < W.heap.size := by obtain ⟨m, hm⟩ := zk0; exact DataW.trod_lt m _ _ _ hm
  clear hA0 hval0
  obtain ⟨a_code, n_code, c_code, rfl⟩ := okWide_slice Try.underlying46 (hval 0 46 v0 rfl rfl)
  obtain ⟨code, w_code⟩ := isRow_of Try.underlying46 Try.underlying5 (by kernel_rfl) zh0
  refine (walk_FnWidthOfLine a_code n_code c_code code W w_code).mono fun e W' ⟨he, bel⟩ => ?_
  subst he
  exact ⟨_, rfl, _, _, _, [], _, [], hW', trodAll_mk1 (shut_bool Try.underlying4 _), (trodAll_cons_mk (Below.trod laid_out (by kernel_rfl) (of_decide_eq_true (by kernel_rfl)) zk0 bel zl0) trodAll_mk0), rfl, bel.frame _, fun h => by cases h⟩

/-- The statement. -/
theorem FnWidthOfLine_holds : Rows.FnWidthOfLineSaid :=
  OpenClaim.holds_of_wide 7 Try.f7 rfl rfl rfl rfl rfl rfl rfl ⟨rfl, rfl, rfl, rfl, rfl⟩ rfl rfl rfl rfl rfl (by kernel_rfl) Try.func7 (by kernel_rfl)
    (of_decide_eq_true (by kernel_rfl)) (by unfold Func.isWrapper; first | (rw [if_pos (by decide +kernel)]; kernel_rfl) | (rw [if_neg (by decide +kernel)]; exact ⟨rfl, rfl⟩))
    (fun os started H enc _ => lifted_FnWidthOfLine os started H enc)
end Go.Proofs.Ytbbicijmekinkac
