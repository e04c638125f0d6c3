/- The law that wide lines end only at forced breaks holds for every code. No condition. -/
import Derived.Test.YtmncdpiojhgcdaaSa
import Derived.Test.YtmncdpiojhgcdaaLlQ
namespace Go.Proofs.Ytmncdpiojhgcdaa
open Go.ChangeShapes Go.WideShapes Go.ChangeAt Go.RowKit
set_option linter.unusedVariables false
set_option maxRecDepth 4000
open Classical

/-- The widths of the items before item k. -/
def aW (L : List It) : Nat → Int
  | 0 => 0
  | k + 1 => aW L k + (tg L k).w
theorem aW_bd {L : List It} (hall : ∀ i, i < L.length → itOk (tg L i) = true) : ∀ {k : Nat}, k ≤ L.length → 0 ≤ aW L k ∧ aW L k ≤ 1000 * k
  | 0, _ => by simp [aW]
  | k + 1, hk => by
    have h1 := aW_bd hall (k := k) (by omega)
    have h2 := iok_iff.1 (hall k (by omega))
    simp only [aW]
    rcases h2 with h | h | h <;> omega
theorem it_w {L : List It} (hall : ∀ i, i < L.length → itOk (tg L i) = true) {k : Nat} (hk : k < L.length) : 0 ≤ (tg L k).w ∧ (tg L k).w ≤ 1000 := by
  rcases iok_iff.1 (hall k hk) with h | h | h <;> omega
set_option maxHeartbeats 4000000 in
theorem walk_FnLeastWide (a : Option Addr) (n c : Nat) (zs : List Int) (w : World) (hr : IsRow .u8 w a n c zs) :
    Calls Try.prog 6 #[.slice a n c] w fun e w' => e = .returned (.bool true) ∧ Below w.heap.size w w' := by
  have hm := small_row hr
  unfold maxLen at hm
  rcases (by omega : 1048576 < n ∨ n ≤ 1048576) with hn | hn
  · go_enter Try.func6, Try.ntmps6
    go_wp2
    go_ret
    exact ⟨rfl, bl_refl _⟩
  go_enter Try.func6, Try.ntmps6
  go_wp2_with fail
  (with_reducible refine (DrawLeastLines_any _ _ _ _ _ hr).mono ?_)
  rintro e u0 ⟨A, c', L, d, t, rfl, hol, hll, hz, htt, hb⟩
  clear hr
  have LI := fun (u : World) (h1 : TL u A L.length L) => LeastLines_i u A L.length c' L d t h1 (by omega)
  have LS := fun (u : World) (h1 : TL u A L.length L) => LeastLines_s u A L.length c' L d t h1 (by omega)
  have LW := fun (u : World) (h1 : TL u A L.length L) => LeastLines_i u A L.length c' L 10000 10000 h1 (by omega)
  have VI := fun (u : World) (h1 : TL u A L.length L) => ValidItems_i u A L.length c' L h1 (by omega)
  have FI := hide (fun (u : World) (h1 : TL u A L.length L) => ForcedBreaks_i u A L.length c' L h1 (by omega))
  have HT := hide hol.reads
  have HB := hide hb
  obtain ⟨m, hM⟩ : ∃ V, V = llO L d t := ⟨_, rfl⟩
  rw [← hM] at LI LS
  have HLI := hide LI
  have HLS := hide LS
  clear LI LS hM hol hb hz htt
  cases hok : isOk L
  · rw [hok] at VI
    have HVI := hide VI
    clear VI hok LW FI
    go_wp2_with fail; (with_reducible refine (HLI.out _ HT.out).mono ?_); rintro e u1 ⟨rfl, hb1⟩; have HT1 := hide (HT.out.below hb1); have HB1 := hide (bl_call hb1 HB.out); clear hb1; go_wp2_with fail; (with_reducible refine (HLS.out _ HT1.out).mono ?_); rintro e u2 ⟨rfl, hb2⟩; have HT2 := hide (HT1.out.below hb2); have HB2 := hide (bl_call hb2 HB1.out); clear hb2; go_wp2_with fail; (with_reducible refine (HVI.out _ HT2.out).mono ?_); rintro e u3 ⟨rfl, hb3⟩; have HT3 := hide (HT2.out.below hb3); have HB3 := hide (bl_call hb3 HB2.out); clear hb3 HT HT1 HT2 HB HB1 HB2 HLI HVI
    go_wp2_with fail
    (with_reducible refine (HLS.out _ HT3.out).mono ?_)
    rintro e u4 ⟨rfl, hb4⟩
    have HB4 := hide (bl_call hb4 HB3.out)
    clear hb4
    go_wp2
    go_ret
    exact ⟨rfl, HB4.out⟩
  · have WD := ll_wide hok
    have hall := (isOk_iff.1 hok).1
    have AB := hide (fun k (hk : k ≤ L.length) => aW_bd hall hk)
    have IW := hide (fun k (hk : k < L.length) => it_w hall hk)
    rw [hok] at VI
    rw [WD] at LW
    obtain ⟨fl, hfl⟩ : ∃ x, x = (fba L).length := ⟨_, rfl⟩
    rw [← hfl] at LW
    have HF := hide hfl
    have HLW := hide LW
    have HVI := hide VI
    clear VI hok LW hall WD hfl
    go_wp2_with fail; (with_reducible refine (HLI.out _ HT.out).mono ?_); rintro e u1 ⟨rfl, hb1⟩; have HT1 := hide (HT.out.below hb1); have HB1 := hide (bl_call hb1 HB.out); clear hb1; go_wp2_with fail; (with_reducible refine (HLS.out _ HT1.out).mono ?_); rintro e u2 ⟨rfl, hb2⟩; have HT2 := hide (HT1.out.below hb2); have HB2 := hide (bl_call hb2 HB1.out); clear hb2; go_wp2_with fail; (with_reducible refine (HVI.out _ HT2.out).mono ?_); rintro e u3 ⟨rfl, hb3⟩; have HT3 := hide (HT2.out.below hb3); have HB3 := hide (bl_call hb3 HB2.out); clear hb3 HT HT1 HT2 HB HB1 HB2 HLI HVI
    clear HLS
    go_wp2
    go_loop [7, 8] (fun s i => ∃ (k : Nat) (z : Int), k ≤ L.length ∧ i = .int .i64 k ∧ s = .int .i64 z ∧ z = aW L k) (fun _ i => L.length - (intOf i).toNat)
    case atStart => exact ⟨0, 0, Nat.zero_le _, rfl, rfl, rfl⟩
    case round =>
      obtain ⟨k, z, hk, rfl, rfl, hz⟩ := hrel
      have zb := AB.out k hk
      rw [← hz] at zb
      have HZ := hide hz
      clear hz
      by_cases hlt : k < L.length
      · obtain ⟨b, o, rfl, hb0, c0, c1, c2, c3, c4, c5⟩ := HT3.out.at6 hlt
        have wb := IW.out k hlt
        have AN := hide (show aW L (k + 1) = aW L k + (tg L k).w from rfl)
        obtain ⟨y, hy⟩ : ∃ y, y = (tg L k).w := ⟨_, rfl⟩
        rw [← hy] at c1 wb AN
        clear hy c0 c2 c3 c4 c5
        go_wp2
        go_round
        case rel => exact ⟨k + 1, z + y, by omega, by go_num, rfl, by rw [AN.out, ← HZ.out]⟩
        case measure => simp [intOf]; omega
      · clear HZ
        rcases (by omega : 10000 < z ∨ ¬ 10000 < z) with g | g
        · go_wp2
          go_ret
          exact ⟨rfl, HB3.out⟩
        · go_wp2_with fail
          (with_reducible refine (HLW.out _ HT3.out).mono ?_)
          rintro e u4 ⟨rfl, hb4⟩
          have HT4 := hide (HT3.out.below hb4)
          have HB4 := hide (bl_call hb4 HB3.out)
          clear hb4
          go_wp2_with fail
          (with_reducible refine (FI.out _ HT4.out).mono ?_)
          rintro e u5 ⟨A5, c5, rfl, ho5, hb5⟩
          rw [← HF.out]
          have HB5 := hide (bl_call hb5 HB4.out)
          clear hb5 ho5
          go_wp2
          go_ret
          exact ⟨rfl, HB5.out⟩
set_option maxRecDepth 100000 in
theorem lifted_FnLeastWide (os : Os) (started : os.Started) (H : Type) (enc : TypeId × Value → H) :
    ReturnsInHanded {} Try.checked os 6 .any (Rows.fnLeastWideSpec.pre6 enc Try.prog Try.f6 Rows.fnLeastWideRow.domain false) (Rows.fnLeastWideSpec.post enc Try.prog Try.f6 false true false false) := by
  refine returnsInHanded_of_change (C := Try.checked) own_knob started (by kernel_rfl) Try.func6
    (ChangeSpec.witness6 (enc := enc) (C := Try.checked) false ⟨#[], #[.slice none 0 0], []⟩ 8 (by kernel_rfl) (by kernel_rfl) (by kernel_rfl) (by kernel_rfl)) ?_
  intro W base args ds gs before hval0 hW hcnd _
  have hval : ∀ (j : Nat) t v, Try.f6.params[j]? = some t → args[j]? = some v → Value.okWide Try.prog W .any base t v := hval0
  have hW' := hW
  obtain ⟨p, q, hA0, hV, rfl, hfz, hnd⟩ := hW
  have hA : DataW.TrodAll enc Try.prog W 0 (fun _ => true) true Try.f6.params.toList args.toList ds p := hA0
  rw [Try.params6] at hA hval
  obtain ⟨v0, vs0, d0, ds0, p0, q0, hargs, rfl, rfl, zh0, r0⟩ := trodAll_cons hA
  obtain ⟨rfl, rfl, rfl⟩ := trodAll_nil r0
  obtain rfl : args = #[v0] := by cases args; simp_all
  obtain ⟨rfl, rfl⟩ := trodVars_none hV
  have zk0 := zh0
  have zl0 : ∀ x ∈ p0, x.block < W.heap.size := by obtain ⟨m, hm⟩ := zk0; exact DataW.trod_lt m _ _ _ hm
  clear hA0 hval0
  obtain ⟨a_code, n_code, c_code, rfl⟩ := okWide_slice Try.underlying29 (hval 0 29 v0 rfl rfl)
  obtain ⟨code, w_code⟩ := isRow_of Try.underlying29 Try.underlying5 (by kernel_rfl) zh0
  refine (walk_FnLeastWide a_code n_code c_code code W w_code).mono fun e W' ⟨he, bel⟩ => ?_
  subst he
  exact ⟨_, rfl, _, _, _, [], _, [], hW', trodAll_mk1 (shut_bool Try.underlying4 _), (trodAll_cons_mk (Below.trod laid_out (by kernel_rfl) (of_decide_eq_true (by kernel_rfl)) zk0 bel zl0) trodAll_mk0), rfl, bel.frame _, fun h => by cases h⟩

/-- The statement. -/
theorem FnLeastWide_holds : Rows.FnLeastWideSaid :=
  OpenClaim.holds_of_wide 6 Try.f6 rfl rfl rfl rfl rfl rfl rfl ⟨rfl, rfl, rfl, rfl, rfl⟩ rfl rfl rfl rfl rfl (by kernel_rfl) Try.func6 (by unfold joinedFacts; rw [may_enter, lifts_final, make_cut]; kernel_rfl)
    (of_decide_eq_true (by kernel_rfl)) (by unfold Func.isWrapper; first | (rw [if_pos (by decide +kernel)]; kernel_rfl) | (rw [if_neg (by decide +kernel)]; exact ⟨rfl, rfl⟩))
    (fun os started H enc _ => lifted_FnLeastWide os started H enc)
end Go.Proofs.Ytmncdpiojhgcdaa
