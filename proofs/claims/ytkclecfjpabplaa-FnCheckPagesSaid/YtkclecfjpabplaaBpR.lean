/- The law that accepted pages are not too high holds at every input. No condition. -/
import Derived.Test.YtkclecfjpabplaaFrame
import Derived.Test.YtkclecfjpabplaaDrawBp
import Derived.Test.YtkclecfjpabplaaPgM
namespace Go.Proofs.Ytkclecfjpabplaa
open Go.ChangeShapes Go.WideShapes Go.ChangeAt Go.RowKit
set_option linter.unusedVariables false
set_option maxRecDepth 4000
open Classical

theorem TO_capr {w : World} {e : TypeId} {B : Nat} {A : Option Addr} {c : Nat} {L : List Gp} (h : TO w e B A c L) : L.length ≤ c := by
  rcases Nat.eq_zero_or_pos L.length with h0 | h0
  · omega
  · obtain ⟨_, _, _, _, h1, _⟩ := h.form h0
    exact h1
theorem cp_high {L : List Gp} {h : Int} {E : List Int} (e : (cpV L h E).2 = true) {k : Nat} (hk : k < E.length) : ∃ a b : Nat, frm 0 E k = a ∧ ng E k = b ∧ phv L a b ≤ h := by
  have F := fits_of e
  obtain ⟨q, _⟩ := cpV_true e
  obtain ⟨a, b, e1, e2, e3, e4, e5⟩ := F.1 k hk
  refine ⟨a, b, e1, e2, ?_⟩
  have q1 := ((Bool.and_eq_true _ _).mp q).1
  rw [phv_yes (by rw [q1, inB_iff.2 ⟨by omega, by omega⟩, inB_iff.2 ⟨by omega, by omega⟩]; rfl)]
  exact of_decide_eq_true e5
set_option maxHeartbeats 4000000 in
theorem walk_FnCheckPages (a : Option Addr) (n c : Nat) (zs : List Int) (w : World) (hr : IsRow .u8 w a n c zs) :
    Calls Try.prog 13 #[.slice a n c] w fun e w' => e = .returned (.bool true) ∧ Below w.heap.size w w' := by
  have hm := small_row hr
  unfold maxLen at hm
  rcases (by omega : 1048576 < n ∨ n ≤ 1048576) with hn | hn
  · go_enter Try.func13, Try.ntmps13
    go_wp2
    go_ret
    exact ⟨rfl, bl_refl _⟩
  go_enter Try.func13, Try.ntmps13
  go_wp2_with fail
  (with_reducible refine (DrawCheckPages_any _ _ _ _ _ hr).mono ?_)
  rintro e u0 ⟨A, c', L, z, B, d, E, rfl, hol, hll, hz, hoE, hlE, hb⟩
  clear hr
  have CI := fun (u : World) (h1 : TL u A L.length L) (h2 : IL u B E.length E) => CheckPages_i u A B L.length c' E.length d L z E h1 (by omega) (TO_capr hol) h2 (by omega)
  have CS := fun (u : World) (h1 : TL u A L.length L) (h2 : IL u B E.length E) => CheckPages_s u A B L.length c' E.length d L z E h1 (by omega) h2 (by omega)
  have PH := hide (fun (u : World) (f t : Int) (h1 : TL u A L.length L) => PageHeight_i u A L.length c' L f t h1 (by omega) (TO_capr hol))
  have HIGH := hide (fun (e : (cpV L z E).2 = true) (k : Nat) (hk : k < E.length) => cp_high e hk)
  have TR := hide (show (cpV L z E).2 = true → 1 ≤ E.length ∧ 0 ≤ (cpV L z E).1 ∧ (E.length ≤ 1 → (cpV L z E).1 = 0) from fun e => by
    have F := fits_of e
    obtain ⟨q, _, _, s⟩ := cpV_true e
    have ok := okPg_of q
    rw [s]
    exact ⟨(fits_lst F ok.l0).1, pS_nn ok, fun h => pS_one F h ok.l0⟩)
  obtain ⟨t, ht⟩ : ∃ t, t = cpV L z E := ⟨_, rfl⟩
  rw [← ht] at CI CS TR HIGH
  obtain ⟨s, g⟩ := t
  simp only at CI CS TR HIGH
  have HO := hide hol
  have HE := hide hoE
  have HB := hide hb
  have HCI := hide CI
  have HCS := hide CS
  clear hol hoE hb ht CI CS
  go_wp2_with fail
  (with_reducible refine (HCI.out _ HO.out.reads HE.out.reads).mono ?_)
  rintro e u1 ⟨rfl, hb1⟩
  have HO1 := hide (HO.out.below hb1)
  have HE1 := hide (HE.out.below hb1)
  have HB1 := hide (bl_call hb1 HB.out)
  clear hb1 HO HB HE
  go_wp2_with fail
  (with_reducible refine (HCS.out _ HO1.out.reads HE1.out.reads).mono ?_)
  rintro e w' ⟨rfl, rfl⟩
  cases g
  · go_wp2
    go_ret
    exact ⟨rfl, HB1.out⟩
  · obtain ⟨t1, t2, t3⟩ := TR.out rfl
    have T3 := hide t3
    have HH := hide (HIGH.out rfl)
    clear TR HIGH t3
    go_wp2
    go_loopw [10, 11] (fun fr i u => ∃ (k : Nat), k ≤ E.length ∧ i = .int .i64 k ∧ fr = .int .i64 (frm 0 E k) ∧ TO u 84 w.heap.size A c' L ∧ OL u 3 w.heap.size B d E ∧ Below w.heap.size w u) (fun _ i _ => E.length - (intOf i).toNat)
    case atStart => exact ⟨0, by omega, rfl, rfl, HO1.out, HE1.out, HB1.out⟩
    case round =>
      obtain ⟨k, hk, rfl, rfl, hto, hoe, hbl⟩ := hrel
      have HT := hide hto
      have HO := hide hoe
      have HBL := hide hbl
      clear hto hoe hbl HO1 HE1 HB1
      by_cases hlt : k < E.length
      · obtain ⟨b, o, rfl, _, c1⟩ := HO.out.reads.at_ hlt
        obtain ⟨f, t, e1, e2, e3⟩ := HH.out k hlt
        have FS := hide ((frm_succ 0 E k).trans e2)
        rw [e2] at c1
        rw [e1]
        obtain ⟨x, hx⟩ : ∃ x, x = phv L f t := ⟨_, rfl⟩
        have P := hide (show ∀ (u : World), TL u A L.length L → Calls Try.prog 50 #[.slice A L.length c', .int .i64 f, .int .i64 t] u fun e w' => e = .returned (.int .i64 x) ∧ Below u.heap.size u w' from by rw [hx]; exact fun u h => PH.out u f t h)
        rw [← hx] at e3
        have e4 : ¬ z < x := by omega
        clear hx e1 e2 e3
        go_wp2_with fail
        (with_reducible refine (P.out _ HT.out.reads).mono ?_)
        rintro e u3 ⟨rfl, hb3⟩
        have c1 := keep_cell hb3 c1
        go_wp2
        go_roundw
        case rel => exact ⟨k + 1, by omega, by go_num, by rw [FS.out], HT.out.below hb3, HO.out.below hb3, bl_call hb3 HBL.out⟩
        case measure => simp [intOf]; omega
      · rcases (by omega : E.length ≤ 1 ∨ 1 < E.length) with h1 | h1
        · have z0 : s = 0 := T3.out h1
          subst z0
          have d1 : decide ((1 : Int) < (E.length : Int)) = false := decide_eq_false (by omega)
          have d2 : decide (1 < E.length) = false := decide_eq_false (by omega)
          go_wp2
          go_ret
          exact ⟨rfl, HBL.out⟩
        · have d1 : decide ((1 : Int) < (E.length : Int)) = true := decide_eq_true (by omega)
          have d2 : decide (1 < E.length) = true := decide_eq_true (by omega)
          have d3 : decide (0 ≤ s) = true := decide_eq_true (by omega)
          go_wp2
          go_ret
          exact ⟨rfl, HBL.out⟩
set_option maxRecDepth 100000 in
theorem lifted_FnCheckPages (os : Os) (started : os.Started) (H : Type) (enc : TypeId × Value → H) :
    ReturnsInHanded {} Try.checked os 13 .any (Rows.fnCheckPagesSpec.pre6 enc Try.prog Try.f13 Rows.fnCheckPagesRow.domain false) (Rows.fnCheckPagesSpec.post enc Try.prog Try.f13 false true false false) := by
  refine returnsInHanded_of_change (C := Try.checked) own_knob started (by kernel_rfl) Try.func13
    (ChangeSpec.witness6 (enc := enc) (C := Try.checked) false ⟨#[], #[.slice none 0 0], []⟩ 8 (by kernel_rfl) (by kernel_rfl) (by kernel_rfl) (by kernel_rfl)) ?_
  intro W base args ds gs before hval0 hW hcnd _
  have hval : ∀ (j : Nat) t v, Try.f13.params[j]? = some t → args[j]? = some v → Value.okWide Try.prog W .any base t v := hval0
  have hW' := hW
  obtain ⟨p, q, hA0, hV, rfl, hfz, hnd⟩ := hW
  have hA : DataW.TrodAll enc Try.prog W 0 (fun _ => true) true Try.f13.params.toList args.toList ds p := hA0
  rw [Try.params13] at hA hval
  obtain ⟨v0, vs0, d0, ds0, p0, q0, hargs, rfl, rfl, zh0, r0⟩ := trodAll_cons hA
  obtain ⟨rfl, rfl, rfl⟩ := trodAll_nil r0
  obtain rfl : args = #[v0] := by cases args; simp_all
  obtain ⟨rfl, rfl⟩ := trodVars_none hV
  have zk0 := zh0
  have zl0 : ∀ x ∈ p0, x.block < W.heap.size := by obtain ⟨m, hm⟩ := zk0; exact DataW.trod_lt m _ _ _ hm
  clear hA0 hval0
  obtain ⟨a_code, n_code, c_code, rfl⟩ := okWide_slice Try.underlying27 (hval 0 27 v0 rfl rfl)
  obtain ⟨code, w_code⟩ := isRow_of Try.underlying27 Try.underlying5 (by kernel_rfl) zh0
  refine (walk_FnCheckPages a_code n_code c_code code W w_code).mono fun e W' ⟨he, bel⟩ => ?_
  subst he
  exact ⟨_, rfl, _, _, _, [], _, [], hW', trodAll_mk1 (shut_bool Try.underlying4 _), (trodAll_cons_mk (Below.trod laid_out (by kernel_rfl) (of_decide_eq_true (by kernel_rfl)) zk0 bel zl0) trodAll_mk0), rfl, bel.frame _, fun h => by cases h⟩

/-- The statement. -/
theorem FnCheckPages_holds : Rows.FnCheckPagesSaid :=
  OpenClaim.holds_of_wide 13 Try.f13 rfl rfl rfl rfl rfl rfl rfl ⟨rfl, rfl, rfl, rfl, rfl⟩ rfl rfl rfl rfl rfl (by kernel_rfl) Try.func13 (by kernel_rfl)
    (of_decide_eq_true (by kernel_rfl)) (by unfold Func.isWrapper; first | (rw [if_pos (by decide +kernel)]; kernel_rfl) | (rw [if_neg (by decide +kernel)]; exact ⟨rfl, rfl⟩))
    (fun os started H enc _ => lifted_FnCheckPages os started H enc)
end Go.Proofs.Ytkclecfjpabplaa
