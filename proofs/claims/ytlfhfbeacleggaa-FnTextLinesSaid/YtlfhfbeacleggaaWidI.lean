/- The iterator over paragraphs of several lines; a search among numbers. -/
import Derived.Test.YtlfhfbeacleggaaWid
namespace Go.Proofs.Ytlfhfbeacleggaa
open Go.ChangeShapes Go.WideShapes Go.ChangeAt Go.RowKit Go.Shelf
set_option linter.unusedVariables false
attribute [local go_sem] Oper.semAt_some
open Classical

theorem IndexInt_w (w : World) (A : Option Addr) (n c : Nat) (l : List Int) (x : Int) (ha : IL w A n l) (hn : n ≤ 4611686018427387904) :
    Calls Try.prog 150 #[.slice A n c, .int .i64 x] w fun e w' => (∃ y : Int, e = .returned (.int .i64 y) ∧ decide (0 ≤ y) = hasI l x) ∧ w = w' := by
  obtain rfl : n = l.length := ha.1
  go_enter Try.func150, Try.ntmps150
  go_wp2
  go_loop [8] (fun i => ∃ p : Nat, p ≤ l.length ∧ i = .int .i64 p ∧ ∀ j, j < p → ng l j ≠ x) (fun i => l.length - (intOf i).toNat)
  case atStart => exact ⟨0, by omega, rfl, fun j h => by omega⟩
  case round =>
    obtain ⟨p, hp, rfl, hno⟩ := hrel
    have HN := hide hno
    clear hno
    by_cases hlt : p < l.length
    · obtain ⟨b, o, rfl, _, hc⟩ := ha.at_ hlt
      obtain ⟨z, hz⟩ : ∃ z, z = ng l p := ⟨_, rfl⟩
      rw [← hz] at hc
      have HZ := hide hz
      clear hz
      by_cases h1 : x = z
      · have E := hide (show hasI l x = true from decide_eq_true ⟨p, hlt, by rw [← HZ.out]; exact h1.symm⟩)
        subst h1
        go_wp2
        go_ret
        exact ⟨⟨p, rfl, by rw [E.out]; simp⟩, rfl⟩
      · have g : (x == z) = false := beq_eq_false_iff_ne.2 h1
        have M := hide (show ∀ j, j < p + 1 → ng l j ≠ x from fun j hj => by
          rcases (by omega : j < p ∨ j = p) with e | e
          · exact HN.out j e
          · rw [e, ← HZ.out]; exact fun h => h1 h.symm)
        go_wp2
        go_round
        case rel => exact ⟨p + 1, by omega, by go_num, M.out⟩
        case measure => simp [intOf]; omega
    · have E := hide (show hasI l x = false from decide_eq_false fun ⟨j, h1, h2⟩ => HN.out j (by omega) h2)
      go_wp2
      go_ret
      exact ⟨⟨-1, rfl, by rw [E.out]; decide⟩, rfl⟩
theorem ContainsInt_w (w : World) (A : Option Addr) (n c : Nat) (l : List Int) (x : Int) (ha : IL w A n l) (hn : n ≤ 4611686018427387904) :
    Calls Try.prog 97 #[.slice A n c, .int .i64 x] w fun e w' => e = .returned (.bool (hasI l x)) ∧ w = w' := by
  have HI := hide (IndexInt_w w A n c l x ha hn)
  go_enter Try.func97, Try.ntmps97
  go_wp2_with fail
  (with_reducible refine HI.out.mono ?_)
  rintro e w' ⟨⟨y, rfl, hy⟩, rfl⟩
  have HY := hide hy
  clear hy
  go_wp2
  go_ret
  exact ⟨bool_ret HY.out, rfl⟩
set_option maxRecDepth 100000 in
set_option maxHeartbeats 2000000 in
theorem several1_in (F : Fence) (n : Nat) (h7 : F.fn 149) (hro : F.round = none) (hn : 1 ≤ n) (l B1 n₀ : Nat) (L : List Int) (A : Option Addr) (c : Nat) (ok : OkW L) (J : Nat → World → Prop)
    (hY : ∀ k W1, k < (svL L L.length).length → J k W1 → YieldAt F (n - 1) Try.prog l (encS L k) W1 fun e W' => e = .returned (.bool true) ∧ J (k + 1) W' ∧ Below n₀ W1 W')
    (W : World) (hB1 : W.cell? ⟨B1, 0, none⟩ = some (.slice A L.length c)) (hE : ∀ j, j < L.length → ∃ b o, A = some ⟨b, o, none⟩ ∧ b < n₀ ∧ W.cell? ⟨b, o + j, none⟩ = some (.int .i64 (ng L j))) (h0 : J 0 W) :
    CallsIn F n Try.prog 149 #[.func (.yield l) #[] #[], .pointer (some ⟨B1, 0, none⟩)] W fun e W' => (∃ v, e = .returned v) ∧ J (svL L L.length).length W' := by
  obtain ⟨ok1, ok2, ok3⟩ := ok
  have hge := ok1.ge
  refine callsIn_of_wp Try.func149 rfl h7 ?_ hro
  simp only [Try.ntmps149, List.size_toArray, List.length_cons, List.length_nil, Nat.reduceAdd, Nat.reduceSub, Array.replicate_succ, Array.replicate_zero, List.push_toArray, List.append_toArray, List.nil_append, List.cons_append]
  gi_wp2
  clear hB1
  gi_loopw [3, 8] (fun f i wr => ∃ (k : Nat) (y : Int), k ≤ L.length ∧ f = .int .i64 y ∧ y = pfx L k ∧ 0 ≤ y ∧ i = .int .i64 k ∧ J (svL L k).length wr ∧ Below n₀ W wr) (fun _ i _ => L.length - (intOf i).toNat)
  case atStart => exact ⟨0, 0, Nat.zero_le _, rfl, rfl, Int.le_refl _, rfl, h0, Below.refl _ _⟩
  case round =>
    obtain ⟨k, y, hk, rfl, hy, hy0, rfl, hJs, hnx⟩ := hrel
    by_cases hlt : k < L.length
    · obtain ⟨b, o, rfl, hb, hc⟩ := hE k hlt
      have hc := (hnx.cell (p := ⟨b, o + k, none⟩) hb).trans hc
      have p1 := ok1 k hlt
      have p2 := ok1.mono (k := k + 1) (by omega)
      have p3 : pfx L (k + 1) = pfx L k + ng L k := rfl
      have YES := hide (fun (h : 1 < ng L k) => svL_yes hlt h)
      have NO := hide (fun (h : ¬ 1 < ng L k) => svL_no (l := L) (k := k) h)
      have N := hide p3
      rw [p3] at p2
      rw [← hy] at p2 YES N
      obtain ⟨z, hz⟩ : ∃ z, z = ng L k := ⟨_, rfl⟩
      rw [← hz] at hc p1 p2 YES NO N
      have HJ := hide hJs
      have HX := hide hnx
      clear hy hz p3 hJs
      rcases (by omega : 1 < z ∨ z = 1) with q | q
      · obtain ⟨y1, y2, y3⟩ := YES.out q
        obtain ⟨fn, tmps, assign, body, hyy, hR⟩ := hY _ wr y1 HJ.out
        dsimp only [encS] at hyy
        simp only [svG, y2, Option.getD_some] at hyy
        have Y3 := hide y3
        have HR := hide hR
        clear YES NO y1 y2 y3 hR hY hnx
        gi_wp2
        refine HR.out.mono ?_
        rintro e W3 ⟨rfl, hJ3, hk3⟩
        gi_wp2
        go_roundw
        case rel => exact ⟨k + 1, y + z, by omega, rfl, N.out.symm, by omega, by go_num, by rw [Y3.out]; exact hJ3, HX.out.trans hk3⟩
        case measure => simp [intOf]; omega
      · subst q
        have N1 := hide (NO.out (by omega))
        clear YES NO
        gi_wp2
        refine ⟨fun f h => (by cases h), ?_⟩
        gi_wp2
        go_roundw
        case rel => exact ⟨k + 1, y + 1, by omega, rfl, N.out.symm, by omega, by go_num, by rw [N1.out]; exact HJ.out, HX.out⟩
        case measure => simp [intOf]; omega
    · obtain rfl : k = L.length := by omega
      gi_wp2
      go_end0
      exact ⟨⟨_, rfl⟩, hJs⟩
end Go.Proofs.Ytlfhfbeacleggaa
