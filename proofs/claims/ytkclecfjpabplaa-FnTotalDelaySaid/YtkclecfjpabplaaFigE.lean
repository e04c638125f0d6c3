/- The promises on accepted pages of figures hold for every code: nothing that is placed is later than what is accepted, and delays add up. No condition. -/
import Derived.Test.YtkclecfjpabplaaJn
import Derived.Test.YtkclecfjpabplaaDrawFc
import Derived.Test.YtkclecfjpabplaaFillW
namespace Go.Proofs.Ytkclecfjpabplaa
open Go.ChangeShapes Go.WideShapes Go.ChangeAt Go.RowKit
set_option linter.unusedVariables false
set_option maxRecDepth 4000

/-- The sum of Page. -/
def pgs (F : List Du) : Nat → Int
  | 0 => 0
  | k + 1 => pgs F k + (tg F k).b
theorem dl_pgs {F : List Du} {l : List Int} : ∀ k, dl F l k = pfx l k - pgs F k
  | 0 => by simp [dl, pfx, pgs]
  | k + 1 => by
    have := dl_pgs (F := F) (l := l) k
    simp only [dl, pfx, pgs]
    omega
theorem dl_le {F : List Du} {l m : List Int} : ∀ {k : Nat}, (∀ i, i < k → ng l i ≤ ng m i) → dl F l k ≤ dl F m k
  | 0, _ => Int.le_refl _
  | k + 1, h => by
    have h1 := dl_le (F := F) (k := k) (fun i hi => h i (by omega))
    have h2 := h k (by omega)
    simp only [dl]
    omega
theorem pgs_bd {F : List Du} : ∀ {k : Nat}, (∀ i, i < k → 0 ≤ (tg F i).b ∧ (tg F i).b ≤ 11) → 0 ≤ pgs F k ∧ pgs F k ≤ 11 * (k : Int)
  | 0, _ => by simp [pgs]
  | k + 1, h => by
    have h1 := pgs_bd (F := F) (k := k) (fun i hi => h i (by omega))
    have h2 := h k (by omega)
    simp only [pgs]
    omega
set_option maxHeartbeats 4000000 in
theorem walk_FnFiguresEarliest (a : Option Addr) (n c : Nat) (zs : List Int) (w : World) (hr : IsRow .u8 w a n c zs) :
    Calls Try.prog 7 #[.slice a n c] w fun e w' => e = .returned (.bool true) ∧ Below w.heap.size w w' := by
  have hm := small_row hr; unfold maxLen at hm
  rcases (by omega : 1048576 < n ∨ n ≤ 1048576) with hn | hn
  · go_enter Try.func7, Try.ntmps7
    go_wp2
    go_ret
    exact ⟨rfl, bl_refl _⟩
  go_enter Try.func7, Try.ntmps7
  go_wp2_with fail
  (with_reducible refine (DrawCheckFigures_any _ _ _ _ _ hr).mono ?_)
  rintro e u0 ⟨A, c', L, B, d, l, C, k, P, rfl, hto, hol, hop, hll, hls, hlp, hb⟩
  clear hr
  have CI := fun (u : World) (h1 : TL u A L.length L) (h2 : IL u B l.length l) (h3 : IL u C P.length P) => CheckFigures_i u A B C c' d k L l P h1 h2 h3 (by omega) (by omega) (by omega)
  have CS := fun (u : World) (h1 : TL u A L.length L) (h2 : IL u B l.length l) (h3 : IL u C P.length P) => CheckFigures_s u A B C c' d k L l P h1 h2 (OL_none hol) h3 (by omega) (by omega) (by omega)
  have PI := fun (u : World) (h1 : TL u A L.length L) (h2 : IL u B l.length l) => PlaceFigures_i u A B c' d L l h1 (TO_capf hto) h2 (by omega) (by omega)
  have HT := hide hto
  have HO := hide hol
  have HP := hide hop
  have HB := hide hb
  clear hto hol hop hb
  cases q : ckV L l P
  · rw [q] at CI CS
    have HCI := hide CI
    have HCS := hide CS
    clear CI CS PI q
    go_wp2_with fail
    (with_reducible refine (HCI.out _ HT.out.reads HO.out.reads HP.out.reads).mono ?_)
    rintro e u1 ⟨rfl, hb1⟩
    have HT1 := hide (HT.out.below hb1)
    have HO1 := hide (HO.out.below hb1)
    have HP1 := hide (HP.out.below hb1)
    have HB1 := hide (bl_call hb1 HB.out)
    clear hb1
    go_wp2_with fail
    (with_reducible refine (HCS.out _ HT1.out.reads HO1.out.reads HP1.out.reads).mono ?_)
    rintro e u2 ⟨rfl, hb2⟩
    have HT2 := hide (HT1.out.below hb2)
    have HO2 := hide (HO1.out.below hb2)
    have HP2 := hide (HP1.out.below hb2)
    have HB2 := hide (bl_call hb2 HB1.out)
    clear hb2
    go_wp2_with fail
    (with_reducible refine (HCS.out _ HT2.out.reads HO2.out.reads HP2.out.reads).mono ?_)
    rintro e u3 ⟨rfl, hb3⟩
    have HB3 := hide (bl_call hb3 HB2.out)
    clear hb3
    go_wp2
    go_ret
    exact ⟨rfl, HB3.out⟩
  · obtain ⟨s1, s2, s3, s4⟩ := ckV_yes.1 q
    obtain ⟨r, p1, p2, p3⟩ := plV_first s1 s2 rfl (fun j _ => Int.le_refl _) s4
    rw [q] at CI CS
    rw [p1] at PI
    unfold RetO at PI
    simp only [Option.getD_some, Option.isSome_some] at PI
    have HCI := hide CI
    have HCS := hide CS
    have HPI := hide PI
    have P3 := hide p3
    have E1 := hide (show r.length = P.length by omega)
    have E2 := hide p2
    have hrl : r.length ≤ 5 := by omega
    clear CI CS PI q p1 p2 p3 s1 s2 s3 s4
    go_wp2_with fail
    (with_reducible refine (HCI.out _ HT.out.reads HO.out.reads HP.out.reads).mono ?_)
    rintro e u1 ⟨rfl, hb1⟩
    have HT1 := hide (HT.out.below hb1)
    have HO1 := hide (HO.out.below hb1)
    have HP1 := hide (HP.out.below hb1)
    have HB1 := hide (bl_call hb1 HB.out)
    clear hb1
    go_wp2_with fail
    (with_reducible refine (HCS.out _ HT1.out.reads HO1.out.reads HP1.out.reads).mono ?_)
    rintro e u2 ⟨rfl, hb2⟩
    have HT2 := hide (HT1.out.below hb2)
    have HO2 := hide (HO1.out.below hb2)
    have HP2 := hide (HP1.out.below hb2)
    have HB2 := hide (bl_call hb2 HB1.out)
    clear hb2
    go_wp2_with fail
    (with_reducible refine (HPI.out _ HT2.out.reads HO2.out.reads).mono ?_)
    rintro e u5 ⟨A5, d5, rfl, ho5, hb5⟩
    have HB5 := hide (bl_call hb5 HB2.out)
    have HP5 := hide (HP2.out.below hb5)
    have HF5 := hide ho5
    have g5 : ((r.length : Int) != (P.length : Int)) = false := by simp [E1.out]
    clear hb5 ho5
    go_wp2
    go_loopw [9] (fun i u => ∃ p j : Nat, p ≤ r.length ∧ i = .int .i64 p ∧ u = u5.drewN j) (fun i _ => r.length - (intOf i).toNat)
    case atStart => exact ⟨0, 0, by omega, rfl, rfl⟩
    case round =>
      obtain ⟨p, j, hp, rfl, rfl⟩ := hrel
      by_cases hlt : p < r.length
      · obtain ⟨b1, o1, h1, _, c1'⟩ := HF5.out.reads.at_ hlt
        obtain ⟨b2, o2, h2, _, c2'⟩ := HP5.out.reads.at_ (i := p) (by have := E1.out; omega)
        subst h1
        subst h2
        have le := P3.out p (by have := E2.out; omega)
        obtain ⟨x, hx⟩ : ∃ x, x = ng r p := ⟨_, rfl⟩
        obtain ⟨y, hy⟩ : ∃ y, y = ng P p := ⟨_, rfl⟩
        rw [← hx] at c1' le
        rw [← hy] at c2' le
        clear hx hy
        have hprl : p < P.length := by have := E1.out; omega
        have d0 : decide (y < x) = false := decide_eq_false (by omega)
        go_wp2
        go_quiet (fail)
        go_wp2
        go_roundw
        case rel => exact ⟨p + 1, _, by omega, by go_num, rfl⟩
        case measure => simp [intOf]; omega
      · go_wp2
        go_ret
        exact ⟨rfl, bl_drewN HB5.out _⟩
set_option maxRecDepth 100000 in
theorem lifted_FnFiguresEarliest (os : Os) (started : os.Started) (H : Type) (enc : TypeId × Value → H) :
    ReturnsInHanded {} Try.checked os 7 .any (Rows.fnFiguresEarliestSpec.pre6 enc Try.prog Try.f7 Rows.fnFiguresEarliestRow.domain false) (Rows.fnFiguresEarliestSpec.post enc Try.prog Try.f7 false true false false) := by
  refine returnsInHanded_of_change (C := Try.checked) own_knob started (by kernel_rfl) Try.func7
    (ChangeSpec.witness6 (enc := enc) (C := Try.checked) false ⟨#[], #[.slice none 0 0], []⟩ 8 (by kernel_rfl) (by kernel_rfl) (by kernel_rfl) (by kernel_rfl)) ?_
  intro W base args ds gs before hval0 hW hcnd _
  have hval : ∀ (j : Nat) t v, Try.f7.params[j]? = some t → args[j]? = some v → Value.okWide Try.prog W .any base t v := hval0
  have hW' := hW
  obtain ⟨p, q, hA0, hV, rfl, hfz, hnd⟩ := hW
  have hA : DataW.TrodAll enc Try.prog W 0 (fun _ => true) true Try.f7.params.toList args.toList ds p := hA0
  rw [Try.params7] at hA hval
  obtain ⟨v0, vs0, d0, ds0, p0, q0, hargs, rfl, rfl, zh0, r0⟩ := trodAll_cons hA
  obtain ⟨rfl, rfl, rfl⟩ := trodAll_nil r0
  obtain rfl : args = #[v0] := by cases args; simp_all
  obtain ⟨rfl, rfl⟩ := trodVars_none hV
  have zk0 := zh0
  have zl0 : ∀ x ∈ p0, x.block < W.heap.size := by obtain ⟨m, hm⟩ := zk0; exact DataW.trod_lt m _ _ _ hm
  clear hA0 hval0
  obtain ⟨a_code, n_code, c_code, rfl⟩ := okWide_slice Try.underlying27 (hval 0 27 v0 rfl rfl)
  obtain ⟨code, w_code⟩ := isRow_of Try.underlying27 Try.underlying5 (by kernel_rfl) zh0
  refine (walk_FnFiguresEarliest a_code n_code c_code code W w_code).mono fun e W' ⟨he, bel⟩ => ?_
  subst he
  exact ⟨_, rfl, _, _, _, [], _, [], hW', trodAll_mk1 (shut_bool Try.underlying4 _), (trodAll_cons_mk (Below.trod laid_out (by kernel_rfl) (of_decide_eq_true (by kernel_rfl)) zk0 bel zl0) trodAll_mk0), rfl, bel.frame _, fun h => by cases h⟩

/-- The statement. -/
theorem FnFiguresEarliest_holds : Rows.FnFiguresEarliestSaid :=
  OpenClaim.holds_of_wide 7 Try.f7 rfl rfl rfl rfl rfl rfl rfl ⟨rfl, rfl, rfl, rfl, rfl⟩ rfl rfl rfl rfl rfl (by kernel_rfl) Try.func7 (by unfold joinedFacts; rw [may_enter, lifts_final, make_cut]; kernel_rfl)
    (of_decide_eq_true (by kernel_rfl)) (by unfold Func.isWrapper; first | (rw [if_pos (by decide +kernel)]; kernel_rfl) | (rw [if_neg (by decide +kernel)]; exact ⟨rfl, rfl⟩))
    (fun os started H enc _ => lifted_FnFiguresEarliest os started H enc)
end Go.Proofs.Ytkclecfjpabplaa
