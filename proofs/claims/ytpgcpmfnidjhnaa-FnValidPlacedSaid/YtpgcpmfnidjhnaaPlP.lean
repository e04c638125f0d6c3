/- The laws on valid placed texts and on overlaps hold at every input. No condition. -/
import Derived.Test.YtpgcpmfnidjhnaaJn
import Derived.Test.YtpgcpmfnidjhnaaDrawQ
import Derived.Test.YtpgcpmfnidjhnaaPlS
namespace Go.Proofs.Ytpgcpmfnidjhnaa
open Go.ChangeShapes Go.WideShapes Go.ChangeAt Go.RowKit
set_option linter.unusedVariables false

theorem small_rowq {w : World} {a : Option Addr} {n c : Nat} {zs : List Int} (h : IsRow .u8 w a n c zs) : n ≤ maxLen := by
  rcases h with ⟨_, rfl, _, _⟩ | ⟨_, _, hl, hm, _⟩
  · exact Nat.zero_le _
  · omega
theorem TL.take {w : World} {A : Option Addr} {n k : Nat} {L : List Pl} (h : TL w A n L) (hk : k ≤ n) : TL w A k (L.take k) := by
  obtain rfl : n = L.length := h.1
  refine ⟨by simp; omega, fun h0 => ?_⟩
  obtain ⟨b, o, e, hb, hc⟩ := h.2 (by omega)
  refine ⟨b, o, e, hb, fun i hi j hj => ?_⟩
  rw [hc i (by omega) j hj]
  simp [tg, List.getD, List.getElem?_take, hi]
theorem TO_capq {w : World} {e : TypeId} {B : Nat} {A : Option Addr} {c : Nat} {L : List Pl} (h : TO w e B A c L) : L.length ≤ c := by
  rcases Nat.eq_zero_or_pos L.length with h0 | h0
  · omega
  · obtain ⟨_, _, _, _, h1, _⟩ := h.form h0
    exact h1
theorem tg_takeq {L : List Pl} {k i : Nat} (h : i < k) : tg (L.take k) i = tg L i := by simp [tg, List.getD, List.getElem?_take, h]
theorem PLs.part {L : List Pl} {w h : Int} (a : PLs L w h) (k : Nat) : PLs (L.take k) w h := by
  refine ⟨a.1, a.2.1, by have := a.2.2.1; simp; omega, fun j hj => ?_⟩
  simp at hj
  rw [tg_takeq (by omega)]
  exact a.2.2.2 j (by omega)
theorem PLs.more {L : List Pl} {w h w' h' : Int} (a : PLs L w h) (hw : w ≤ w' ∧ w' ≤ 60) (hh : h ≤ h' ∧ h' ≤ 60) : PLs L w' h' := by
  refine ⟨⟨by have := a.1; omega, hw.2⟩, ⟨by have := a.2.1; omega, hh.2⟩, a.2.2.1, fun j hj => ?_⟩
  obtain ⟨b1, b2, b3, b4⟩ := a.2.2.2 j hj
  exact ⟨b1, b2, by omega, by omega⟩
theorem slice_toq (A : Option Addr) (n c k : Nat) (hk : k ≤ c) (W : World) : (Instr.slice 48 (.slice A n c) none (some (.int .i64 k)) none).run Try.prog W = .ok (.slice A k c) W := by
  rw [run_slice_h (P := Try.prog) W 48 A n c (by kernel_rfl) .i64 (k : Int) (by omega) (by omega)]
  have hs : sizeOf (Try.prog.elem 48) = sizeOf 58 := by rw [show Try.prog.elem 48 = 58 from by kernel_rfl]
  rw [hs]
  have hz : (sizeOf 58).run Try.prog W = .ok 3 W := Try.sizeOf58 W
  rw [hz]
  have : sliced A 0 k c 3 = .slice A k c := by
    unfold sliced
    cases A <;> simp [Addr.add]
  simp [Result.andThen, this]

theorem wf_small (x : Int) (h0 : -1000 ≤ x) (h1 : x ≤ 1000) : (Lit.int .i64 x).wf = true := by
  have a : IntKind.i64.min = -9223372036854775808 := rfl
  have b : IntKind.i64.max = 9223372036854775807 := rfl
  simp only [Lit.wf, a, b, Bool.and_eq_true, decide_eq_true_eq]
  omega
set_option maxRecDepth 4000 in
set_option maxHeartbeats 4000000 in
theorem walk_FnValidPlaced (a : Option Addr) (n c : Nat) (zs : List Int) (a2 : Option Addr) (n2 c2 : Nat) (zs2 : List Int) (w : World) (hr : IsRow .u8 w a n c zs) (hr2 : IsRow .u8 w a2 n2 c2 zs2) :
    Calls Try.prog 10 #[.slice a n c, .slice a2 n2 c2] w fun e w' => e = .returned (.bool true) ∧ Below w.heap.size w w' := by
  have hm := small_rowq hr
  have hm2 := small_rowq hr2
  unfold maxLen at hm hm2
  clear hr2
  rcases (by omega : 1048576 < n ∨ n ≤ 1048576) with hn | hn
  · go_enter Try.func10, Try.ntmps10
    go_wp2
    go_ret
    exact ⟨rfl, bl_refl _⟩
  rcases (by omega : 1048576 < n2 ∨ n2 ≤ 1048576) with hn2 | hn2
  · go_enter Try.func10, Try.ntmps10
    go_wp2
    go_ret
    exact ⟨rfl, bl_refl _⟩
  go_enter Try.func10, Try.ntmps10
  go_wp2_with fail
  (with_reducible refine (DrawValidPlaced_any _ _ _ _ _ hr).mono ?_)
  rintro e u0 ⟨A, cc, L, x, y, rfl, hol, hll, hpq, ⟨⟨x0, x1⟩, y0, y1⟩, hb⟩
  clear hr
  have hcap := TO_capq hol
  have R := hide hol.reads
  have SM := hide hpq.sm
  have HB := hide hb
  clear hol hpq hb
  have wfx : (Lit.int .i64 x).wf = true := wf_small _ (by omega) (by omega)
  have wfy : (Lit.int .i64 y).wf = true := wf_small _ (by omega) (by omega)
  have CI := hide (fun (V : World) (hV : TL V A L.length L) => ValidPlaced_i V A L.length cc x y L hV SM.out (by omega))
  have CS := hide (fun (V : World) (hV : TL V A L.length L) => ValidPlaced_s V A L.length cc x y L hV SM.out (by omega) wfx wfy)
  cases q : pls L x y
  · rw [q] at CI CS
    clear q wfx wfy
    go_wp2_with fail
    (with_reducible refine (CI.out _ R.out).mono ?_)
    rintro e u1 ⟨rfl, hb1⟩
    have R1 := hide (R.out.below hb1)
    have HB1 := hide (bl_call hb1 HB.out)
    clear hb1
    go_wp2_with fail
    (with_reducible refine (CS.out _ R1.out).mono ?_)
    rintro e u2 ⟨rfl, hb2⟩
    have R2 := hide (R1.out.below hb2)
    have HB2 := hide (bl_call hb2 HB1.out)
    clear hb2
    go_wp2_with fail
    (with_reducible refine (CS.out _ R2.out).mono ?_)
    rintro e u3 ⟨rfl, hb3⟩
    go_wp2
    go_ret
    exact ⟨rfl, bl_call hb3 HB2.out⟩
  · have P := pls_iff.1 q
    have Q1 := hide (fun k => pls_iff.2 (P.part k))
    rw [q] at CI CS
    obtain ⟨⟨x0', x1'⟩, ⟨y0', y1'⟩, _⟩ := P
    have P := pls_iff.1 q
    clear q wfx wfy
    obtain ⟨k, hk⟩ : ∃ k : Nat, (n2 : Int) % ((L.length : Int) + 1) = (k : Int) := ⟨((n2 : Int) % ((L.length : Int) + 1)).toNat, by have := Int.emod_nonneg (n2 : Int) (show ((L.length : Int) + 1) ≠ 0 by omega); omega⟩
    have hk2 : k ≤ L.length := by have := Int.emod_lt_of_pos (n2 : Int) (show (0 : Int) < (L.length : Int) + 1 by omega); omega
    obtain ⟨x', hx'⟩ : ∃ x' : Int, x' = min (x + 1) 60 := ⟨_, rfl⟩
    obtain ⟨y', hy'⟩ : ∃ y' : Int, y' = min (y + 1) 60 := ⟨_, rfl⟩
    have Q2 := hide (pls_iff.2 (P.more (w' := x') (h' := y') (by omega) (by omega)))
    have SMk := hide (show PSm (L.take k) from fun j hj => by
      simp at hj
      rw [tg_takeq (by omega)]
      exact SM.out j (by omega))
    have CK := hide (fun (V : World) (hV : TL V A L.length L) => ValidPlaced_i V A k cc x y (L.take k) (hV.take hk2) SMk.out (by omega))
    have CM := hide (fun (V : World) (hV : TL V A L.length L) => ValidPlaced_i V A L.length cc x' y' L hV SM.out (by omega))
    rw [Q1.out k] at CK
    rw [Q2.out] at CM
    have S1 := slice_toq A L.length cc k (by omega)
    clear P Q1 Q2 SMk
    go_wp2_with fail
    (with_reducible refine (CI.out _ R.out).mono ?_)
    rintro e u1 ⟨rfl, hb1⟩
    have R1 := hide (R.out.below hb1)
    have HB1 := hide (bl_call hb1 HB.out)
    clear hb1
    go_wp2_with fail
    (with_reducible refine (CS.out _ R1.out).mono ?_)
    rintro e u2 ⟨rfl, hb2⟩
    have R2 := hide (R1.out.below hb2)
    have HB2 := hide (bl_call hb2 HB1.out)
    clear hb2
    go_wp2_with fail
    (with_reducible refine (CK.out _ R2.out).mono ?_)
    rintro e u3 ⟨rfl, hb3⟩
    have R3 := hide (R2.out.below hb3)
    have HB3 := hide (bl_call hb3 HB2.out)
    clear hb3
    have ey : y' = y + 1 := by omega
    have gy : y + 1 ≤ 60 := by omega
    rcases (by omega : x + 1 ≤ 60 ∧ x' = x + 1 ∨ 60 < x + 1 ∧ x' = 60) with ⟨gx, ex⟩ | ⟨gx, ex⟩
    all_goals
      rw [ex, ey] at CM
      clear ex ey hx' hy'
      go_wp2_with fail
      (with_reducible refine (CM.out _ R3.out).mono ?_)
      rintro e u4 ⟨rfl, hb4⟩
      go_wp2
      go_ret
      exact ⟨rfl, bl_call hb4 HB3.out⟩
set_option maxRecDepth 100000 in
theorem lifted_FnValidPlaced (os : Os) (started : os.Started) (H : Type) (enc : TypeId × Value → H) :
    ReturnsInHanded {} Try.checked os 10 .any (Rows.fnValidPlacedSpec.pre6 enc Try.prog Try.f10 Rows.fnValidPlacedRow.domain false) (Rows.fnValidPlacedSpec.post enc Try.prog Try.f10 false true false false) := by
  refine returnsInHanded_of_change (C := Try.checked) own_knob started (by kernel_rfl) Try.func10
    (ChangeSpec.witness6 (enc := enc) (C := Try.checked) false ⟨#[], #[.slice none 0 0, .slice none 0 0], []⟩ 8 (by kernel_rfl) (by kernel_rfl) (by kernel_rfl) (by kernel_rfl)) ?_
  intro W base args ds gs before hval0 hW hcnd _
  have hval : ∀ (j : Nat) t v, Try.f10.params[j]? = some t → args[j]? = some v → Value.okWide Try.prog W .any base t v := hval0
  have hW' := hW
  obtain ⟨p, q, hA0, hV, rfl, hfz, hnd⟩ := hW
  have hA : DataW.TrodAll enc Try.prog W 0 (fun _ => true) true Try.f10.params.toList args.toList ds p := hA0
  rw [Try.params10] at hA hval
  obtain ⟨v0, vs0, d0, ds0, p0, q0, hargs, rfl, rfl, zh0, r0⟩ := trodAll_cons hA
  obtain ⟨v1, vs1, d1, ds1, p1, q1, rfl, rfl, rfl, zh1, r1⟩ := trodAll_cons r0
  obtain ⟨rfl, rfl, rfl⟩ := trodAll_nil r1
  obtain rfl : args = #[v0, v1] := by cases args; simp_all
  obtain ⟨rfl, rfl⟩ := trodVars_none hV
  have zk0 := zh0
  have zl0 : ∀ x ∈ p0, x.block < W.heap.size := by obtain ⟨m, hm⟩ := zk0; exact DataW.trod_lt m _ _ _ hm
  have zk1 := zh1
  have zl1 : ∀ x ∈ p1, x.block < W.heap.size := by obtain ⟨m, hm⟩ := zk1; exact DataW.trod_lt m _ _ _ hm
  clear hA0 hval0
  obtain ⟨a_code, n_code, c_code, rfl⟩ := okWide_slice Try.underlying26 (hval 0 26 v0 rfl rfl)
  obtain ⟨code, w_code⟩ := isRow_of Try.underlying26 Try.underlying5 (by kernel_rfl) zh0
  obtain ⟨a_more, n_more, c_more, rfl⟩ := okWide_slice Try.underlying26 (hval 1 26 v1 rfl rfl)
  obtain ⟨more, w_more⟩ := isRow_of Try.underlying26 Try.underlying5 (by kernel_rfl) zh1
  refine (walk_FnValidPlaced a_code n_code c_code code a_more n_more c_more more W w_code w_more).mono fun e W' ⟨he, bel⟩ => ?_
  subst he
  exact ⟨_, rfl, _, _, _, [], _, [], hW', trodAll_mk1 (shut_bool Try.underlying4 _), (trodAll_cons_mk (Below.trod laid_out (by kernel_rfl) (of_decide_eq_true (by kernel_rfl)) zk0 bel zl0) (trodAll_cons_mk (Below.trod laid_out (by kernel_rfl) (of_decide_eq_true (by kernel_rfl)) zk1 bel zl1) trodAll_mk0)), rfl, bel.frame _, fun h => by cases h⟩

/-- The statement. -/
theorem FnValidPlaced_holds : Rows.FnValidPlacedSaid :=
  OpenClaim.holds_of_wide 10 Try.f10 rfl rfl rfl rfl rfl rfl rfl ⟨rfl, rfl, rfl, rfl, rfl⟩ rfl rfl rfl rfl rfl (by kernel_rfl) Try.func10 (by unfold joinedFacts; rw [may_enter, lifts_final, make_cut]; kernel_rfl)
    (of_decide_eq_true (by kernel_rfl)) (by unfold Func.isWrapper; first | (rw [if_pos (by decide +kernel)]; kernel_rfl) | (rw [if_neg (by decide +kernel)]; exact ⟨rfl, rfl⟩))
    (fun os started H enc _ => lifted_FnValidPlaced os started H enc)
end Go.Proofs.Ytpgcpmfnidjhnaa
