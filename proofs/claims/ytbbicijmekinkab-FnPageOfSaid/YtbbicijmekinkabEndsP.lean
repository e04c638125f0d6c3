/- The promise on PageOf holds for every code: the page of a line is the number of pages that end at or before it. No condition. -/
import Derived.Test.YtbbicijmekinkabDrawE
import Derived.Test.YtbbicijmekinkabEnds
namespace Go.Proofs.Ytbbicijmekinkab
open Go.ChangeShapes Go.WideShapes Go.ChangeAt Go.RowKit
set_option linter.unusedVariables false

theorem pgK_neg {l : List Int} {x : Int} {k : Nat} (h : pgK l x k < 0) (h0 : 0 ≤ x) : ∀ j, j < k → ng l j ≤ x := by
  induction k with
  | zero => intro j hj; omega
  | succ k ih =>
    unfold pgK at h
    split at h
    · omega
    · rename_i hn
      intro j hj
      rcases (by omega : j < k ∨ j = k) with e | e
      · exact ih h j e
      · rw [e]; omega
theorem pgK_pos {l : List Int} {x : Int} {k : Nat} (h : 0 ≤ pgK l x k) : ∃ q : Nat, pgK l x k = q ∧ q < k ∧ 0 ≤ x ∧ x < ng l q ∧ ∀ j, j < q → ng l j ≤ x := by
  induction k with
  | zero => simp [pgK] at h
  | succ k ih =>
    unfold pgK at h ⊢
    split
    · rename_i hn
      exact ⟨k, rfl, by omega, hn.2.1, hn.2.2, pgK_neg hn.1 hn.2.1⟩
    · rename_i hn
      rw [if_neg hn] at h
      obtain ⟨q, h1, h2, h3⟩ := ih h
      exact ⟨q, h1, by omega, h3⟩
theorem small_row' {w : World} {a : Option Addr} {n c : Nat} {zs : List Int} (h : IsRow .u8 w a n c zs) : n ≤ maxLen := by
  rcases h with ⟨_, rfl, _, _⟩ | ⟨_, _, hl, hm, _⟩
  · exact Nat.zero_le _
  · omega

set_option maxHeartbeats 2000000 in
theorem walk_FnPageOf (a : Option Addr) (n c : Nat) (zs : List Int) (w : World) (hr : IsRow .u8 w a n c zs) :
    Calls Try.prog 4 #[.slice a n c] w fun e w' => e = .returned (.bool true) ∧ Below w.heap.size w w' := by
  have hm := small_row' hr
  unfold maxLen at hm
  rcases (by omega : 1048576 < n ∨ n ≤ 1048576) with hn | hn
  · go_enter Try.func4, Try.ntmps4
    go_wp2
    go_ret
    exact ⟨rfl, bl_refl _⟩
  · go_enter Try.func4, Try.ntmps4
    go_wp2_with fail
    refine (DrawPageOf_any _ _ _ _ _ hr).mono ?_
    rintro e u0 ⟨A, c, l, x, rfl, hol, hll, hel, ⟨x0, x1⟩, hb⟩
    clear hr
    have hil := hol.reads
    obtain ⟨v, hv⟩ : ∃ v, v = pgv l x := ⟨_, rfl⟩
    have CI := fun (u : World) (h : IL u A l.length l) => PageOf_i u _ _ c l x h (by omega)
    have CS := fun (u : World) (h : IL u A l.length l) => PageOf_s u _ _ c l x h (by omega)
    rw [← hv] at CI CS
    have HPI := hide CI
    have HPS := hide CS
    have HV := hide hv
    clear CI CS hel hol hv
    go_wp2_with fail
    (with_reducible refine (HPI.out _ hil).mono ?_)
    rintro e w' ⟨rfl, rfl⟩
    go_wp2_with fail
    (with_reducible refine (HPS.out _ hil).mono ?_)
    rintro e w' ⟨rfl, j1, rfl⟩
    have hil1 := hil.drewN j1
    rcases (by omega : v < 0 ∨ 0 ≤ v) with h | h
    · go_wp2_with fail
      (with_reducible refine (HPS.out _ hil1).mono ?_)
      rintro e w' ⟨rfl, j2, rfl⟩
      go_wp2
      go_ret
      exact ⟨rfl, bl_drewN hb _⟩
    · have hv := HV.out
      have ha : asc l = true := by
        cases q : asc l
        · rw [hv, pgv_no q] at h
          omega
        · rfl
      rw [pgv_yes ha] at hv
      obtain ⟨q, e1, e2, e3, e4, e5⟩ := pgK_pos (by rw [← hv]; exact h)
      have ASC := asc_iff.1 ha
      have e6 : ∀ j, q ≤ j → j < l.length → x < ng l j := fun j h1 h2 => by
        have := ASC.le (j + 1) (q + 1) (by omega) (by omega)
        have t1 : pv0 l (q + 1) = ng l q := rfl
        have t2 : pv0 l (j + 1) = ng l j := rfl
        omega
      have HVQ : Hid (v = (q : Int)) := hide (hv.trans e1)
      obtain ⟨b, o, hA, hb0, hq⟩ := hil1.at_ e2
      subst hA
      have E4 := hide e4
      have E5 := hide e5
      have E6 := hide e6
      obtain ⟨y, hy⟩ : ∃ y, y = ng l q := ⟨_, rfl⟩
      rw [← hy] at hq e4
      clear hv HV e1 e5 e6 ha ASC HPI HPS hil hy
      have h' : ¬ v < 0 := by omega
      go_wp2
      obtain rfl := HVQ.out
      clear h h' HVQ
      go_loop [6, 7] (fun v i => ∃ p : Nat, p ≤ l.length ∧ i = .int .i64 p ∧ v = .int .i64 ((min p q : Nat) : Int)) (fun _ i => l.length - (intOf i).toNat)
      case atStart => exact ⟨0, by omega, rfl, by simp⟩
      case round =>
        obtain ⟨p, hp, rfl, rfl⟩ := hrel
        by_cases hlt : p < l.length
        · obtain ⟨b', o', hA, hb', hc⟩ := hil1.at_ hlt
          injection hA with hA
          cases hA
          obtain ⟨z, hz⟩ : ∃ z, z = ng l p := ⟨_, rfl⟩
          rw [← hz] at hc
          have HZ := hide hz
          clear hz
          rcases (by omega : p < q ∨ q ≤ p) with h1 | h1
          · have h2 : z ≤ x := by rw [HZ.out]; exact E5.out p h1
            have h3 : min p q = p := by omega
            rw [h3]
            go_wp2
            go_round
            case rel => exact ⟨p + 1, by omega, by go_num, by rw [show min (p + 1) q = p + 1 from by omega]; go_num⟩
            case measure => simp [intOf]; omega
          · have h2 : ¬ z ≤ x := by have := E6.out p h1 hlt; rw [HZ.out]; omega
            have h3 : min p q = q := by omega
            rw [h3]
            go_wp2
            go_round
            case rel => exact ⟨p + 1, by omega, by go_num, by rw [show min (p + 1) q = q from by omega]⟩
            case measure => simp [intOf]; omega
        · have h3 : min p q = q := by omega
          rw [h3]
          go_wp2
          go_ret
          exact ⟨rfl, bl_drewN hb _⟩
set_option maxRecDepth 100000 in
theorem lifted_FnPageOf (os : Os) (started : os.Started) (H : Type) (enc : TypeId × Value → H) :
    ReturnsInHanded {} Try.checked os 4 .any (Rows.fnPageOfSpec.pre6 enc Try.prog Try.f4 Rows.fnPageOfRow.domain false) (Rows.fnPageOfSpec.post enc Try.prog Try.f4 false true false false) := by
  refine returnsInHanded_of_change (C := Try.checked) own_knob started (by kernel_rfl) Try.func4
    (ChangeSpec.witness6 (enc := enc) (C := Try.checked) false ⟨#[], #[.slice none 0 0], []⟩ 8 (by kernel_rfl) (by kernel_rfl) (by kernel_rfl) (by kernel_rfl)) ?_
  intro W base args ds gs before hval0 hW hcnd _
  have hval : ∀ (j : Nat) t v, Try.f4.params[j]? = some t → args[j]? = some v → Value.okWide Try.prog W .any base t v := hval0
  have hW' := hW
  obtain ⟨p, q, hA0, hV, rfl, hfz, hnd⟩ := hW
  have hA : DataW.TrodAll enc Try.prog W 0 (fun _ => true) true Try.f4.params.toList args.toList ds p := hA0
  rw [Try.params4] at hA hval
  obtain ⟨v0, vs0, d0, ds0, p0, q0, hargs, rfl, rfl, zh0, r0⟩ := trodAll_cons hA
  obtain ⟨rfl, rfl, rfl⟩ := trodAll_nil r0
  obtain rfl : args = #[v0] := by cases args; simp_all
  obtain ⟨rfl, rfl⟩ := trodVars_none hV
  have zk0 := zh0
  have zl0 : ∀ x ∈ p0, x.block < W.heap.size := by obtain ⟨m, hm⟩ := zk0; exact DataW.trod_lt m _ _ _ hm
  clear hA0 hval0
  obtain ⟨a_code, n_code, c_code, rfl⟩ := okWide_slice Try.underlying27 (hval 0 27 v0 rfl rfl)
  obtain ⟨code, w_code⟩ := isRow_of Try.underlying27 Try.underlying5 (by kernel_rfl) zh0
  refine (walk_FnPageOf a_code n_code c_code code W w_code).mono fun e W' ⟨he, bel⟩ => ?_
  subst he
  exact ⟨_, rfl, _, _, _, [], _, [], hW', trodAll_mk1 (shut_bool Try.underlying4 _), (trodAll_cons_mk (Below.trod laid_out (by kernel_rfl) (of_decide_eq_true (by kernel_rfl)) zk0 bel zl0) trodAll_mk0), rfl, bel.frame _, fun h => by cases h⟩

/-- The statement. -/
theorem FnPageOf_holds : Rows.FnPageOfSaid :=
  OpenClaim.holds_of_wide 4 Try.f4 rfl rfl rfl rfl rfl rfl rfl ⟨rfl, rfl, rfl, rfl, rfl⟩ rfl rfl rfl rfl rfl (by kernel_rfl) Try.func4 (by kernel_rfl)
    (of_decide_eq_true (by kernel_rfl)) (by unfold Func.isWrapper; first | (rw [if_pos (by decide +kernel)]; kernel_rfl) | (rw [if_neg (by decide +kernel)]; exact ⟨rfl, rfl⟩))
    (fun os started H enc _ => lifted_FnPageOf os started H enc)
end Go.Proofs.Ytbbicijmekinkab
