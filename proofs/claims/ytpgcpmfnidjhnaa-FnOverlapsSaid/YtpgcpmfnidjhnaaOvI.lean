/- The first pair of placed texts that overlap, in the program and in its model: the loops. -/
import Derived.Test.YtpgcpmfnidjhnaaOv
namespace Go.Proofs.Ytpgcpmfnidjhnaa
open Go.ChangeShapes Go.WideShapes Go.ChangeAt Go.RowKit
set_option linter.unusedVariables false
open Classical

theorem tup3_ret {a b c a' b' c' : Value} (h : a = a') (k : b = b') (m : c = c') : Ending.returned (.tuple #[a, b, c]) = .returned (.tuple #[a', b', c']) := by rw [h, k, m]
theorem ov_ret {L : List Pl} {w h : Int} {x y : Int} {b : Bool} (e : ov L w h = (x, y, b)) : Ending.returned (.tuple #[.int .i64 x, .int .i64 y, .bool b]) = .returned (.tuple #[.int .i64 (ov L w h).1, .int .i64 (ov L w h).2.1, .bool (ov L w h).2.2]) := by rw [e]
set_option maxHeartbeats 4000000 in
theorem Overlaps_i (u : World) (A : Option Addr) (n c : Nat) (w h : Int) (L : List Pl) (ha : TL u A n L) (hs : PSm L) (hn : n ≤ 4611686018427387904) :
    Calls Try.prog 44 #[.slice A n c, .int .i64 w, .int .i64 h] u fun e u' => e = .returned (.tuple #[.int .i64 (ov L w h).1, .int .i64 (ov L w h).2.1, .bool (ov L w h).2.2]) ∧ Below u.heap.size u u' := by
  obtain rfl : n = L.length := ha.1
  have HI := hide ha
  have HS := hide hs
  clear ha hs
  have CV := hide (fun (v : World) (hv : TL v A L.length L) => ValidPlaced_i v A L.length c w h L hv HS.out hn)
  cases q : pls L w h
  · have E := hide (ov_bad q)
    rw [q] at CV
    go_enter Try.func44, Try.ntmps44
    go_wp2_with fail
    (with_reducible refine (CV.out _ HI.out).mono ?_)
    rintro e u1 ⟨rfl, hb⟩
    go_wp2
    refine bodyPost_ret (results_tmp3 rfl _ _ _) rfl ?_
    exact ⟨ov_ret E.out, hb⟩
  have Q := hide q
  have PBS := hide (fun k (hk : k < L.length) => (pls_iff.1 Q.out).pb hk)
  have hl : L.length ≤ 60 := (pls_iff.1 q).2.2.1
  rw [q] at CV
  clear q hn
  go_enter Try.func44, Try.ntmps44
  go_wp2_with fail
  (with_reducible refine (CV.out _ HI.out).mono ?_)
  rintro e u1 ⟨rfl, hb⟩
  have B1 := hide hb
  clear hb
  go_wp2
  go_loopw [19] (fun i v => ∃ p : Nat, p ≤ L.length ∧ i = .int .i64 p ∧ NoP L p (p + 1) ∧ Below u.heap.size u v) (fun i _ => L.length - (intOf i).toNat)
  case atStart => exact ⟨0, by omega, rfl, NoP.zero _, B1.out⟩
  case round =>
    obtain ⟨p, hp, rfl, hno, hbl⟩ := hrel
    by_cases hlt : p < L.length
    · obtain ⟨b, o, rfl, hb0, c0, c1, c2⟩ := (HI.out.below hbl).atp hlt
      have HN := hide hno
      obtain ⟨W1, hW1⟩ : ∃ W1, W1 = wr.alloc (.cells #[.int .i64 (tg L p).x, .int .i64 (tg L p).y, .string (tg L p).t] 58) := ⟨_, rfl⟩
      have HB := hide (show Below u.heap.size u W1 by rw [hW1]; exact bl_alloc hbl _)
      have k0 : W1.cell? ⟨wr.heap.size, 0, none⟩ = some (.int .i64 (tg L p).x) := by rw [hW1]; simp [go_sem]
      have k1 : W1.cell? ⟨wr.heap.size, 1, none⟩ = some (.int .i64 (tg L p).y) := by rw [hW1]; simp [go_sem]
      have k2 : W1.cell? ⟨wr.heap.size, 2, none⟩ = some (.string (tg L p).t) := by rw [hW1]; simp [go_sem]
      have K0 := hide k0
      have K1 := hide k1
      have K2 := hide k2
      have HW := hide hW1
      obtain ⟨G, hG⟩ : ∃ G, G = wr.heap.size := ⟨_, rfl⟩
      rw [← hG] at K0 K1 K2
      have HG := hide hG
      clear hno hbl k0 k1 k2 hW1 hG
      go_wp2
      rw [← HW.out, ← HG.out]
      go_loopw [11] (fun i v => ∃ m : Nat, p + 1 ≤ m ∧ m ≤ L.length ∧ i = .int .i64 m ∧ NoP L p m ∧ Below W1.heap.size W1 v) (fun i _ => L.length - (intOf i).toNat)
      case atStart => exact ⟨p + 1, by omega, by omega, by go_num, HN.out, bl_refl _⟩
      case round =>
        obtain ⟨m, hm0, hm, rfl, hno, hbl⟩ := hrel
        have HB2 := hide (bl_call hbl HB.out)
        by_cases hlm : m < L.length
        · obtain ⟨b', o', hA, hb', d0, d1, d2⟩ := (HI.out.below HB2.out).atp hlm
          injection hA with hA
          cases hA
          have k0 := keep_cell hbl K0.out
          have k1 := keep_cell hbl K1.out
          have k2 := keep_cell hbl K2.out
          have CO := fun (v : World) => overlaps_i (tg L p) (tg L m) v (PBS.out p hlt) (PBS.out m hlm)
          have HNO := hide hno
          clear hno
          cases q : ovb (tg L p) (tg L m)
          · have M := hide (HNO.out.next (fun a => by rw [ovb_iff.2 a] at q; cases q))
            rw [q] at CO
            have HC := hide CO
            clear CO q
            go_wp2_with fail
            go_region_with (go_at_call 82; (with_reducible refine (HC.out _).mono ?_); rintro e w' ⟨rfl, hbq⟩; (try (with_reducible have hbq := bl_undrew hbq)))
            all_goals
              go_wp2
              go_roundw
              case rel => exact ⟨m + 1, by omega, by omega, by go_num, M.out, bl_call hbq hbl⟩
              case measure => simp [intOf]; omega
          · have E := hide (ov_yes (w := w) (h := h) Q.out (show Fst L p m from ⟨HNO.out, by omega, hlm, ovb_iff.1 q⟩))
            rw [q] at CO
            have HC := hide CO
            clear CO q
            go_wp2_with fail
            go_region_with (go_at_call 82; (with_reducible refine (HC.out _).mono ?_); rintro e w' ⟨rfl, hbq⟩; (try (with_reducible have hbq := bl_undrew hbq)))
            all_goals
              go_wp2
              refine bodyPost_ret (results_tmp3 rfl _ _ _) rfl ?_
              exact ⟨ov_ret E.out, bl_call hbq HB2.out⟩
        · have M := hide (hno.row (by omega))
          go_wp2
          go_roundw
          case rel => exact ⟨p + 1, by omega, by go_num, M.out, HB2.out⟩
          case measure => simp [intOf]; omega
    · have E := hide (ov_no (L := L) (w := w) (h := h) (hno.none (by omega)))
      go_wp2
      refine bodyPost_ret (results_tmp3 rfl _ _ _) rfl ?_
      exact ⟨ov_ret E.out, hbl⟩

set_option maxHeartbeats 4000000 in
theorem Overlaps_s (u : World) (A : Option Addr) (n c : Nat) (w h : Int) (L : List Pl) (ha : TL u A n L) (hs : PSm L) (hn : n ≤ 4611686018427387904) (wf1 : (Lit.int .i64 w).wf = true) (wf2 : (Lit.int .i64 h).wf = true) :
    Calls Try.prog 43 #[.slice A n c, .int .i64 w, .int .i64 h] u fun e u' => e = .returned (.tuple #[.int .i64 (ov L w h).1, .int .i64 (ov L w h).2.1, .bool (ov L w h).2.2]) ∧ Below u.heap.size u u' := by
  obtain rfl : n = L.length := ha.1
  have HI := hide ha
  have HS := hide hs
  clear ha hs
  have CV := hide (fun (v : World) (hv : TL v A L.length L) => validPlaced_s v A L.length c w h L hv HS.out hn wf1 wf2)
  clear wf1 wf2
  cases q : pls L w h
  · have E := hide (ov_bad q)
    rw [q] at CV
    go_enter Try.func43, Try.ntmps43
    go_wp2_with fail
    (with_reducible refine (CV.out _ HI.out).mono ?_)
    rintro e u1 ⟨rfl, hb⟩
    go_wp2
    refine bodyPost_ret (results_tmp3 rfl _ _ _) rfl ?_
    exact ⟨ov_ret E.out, hb⟩
  have Q := hide q
  have PBS := hide (fun k (hk : k < L.length) => (pls_iff.1 Q.out).pb hk)
  have hl : L.length ≤ 60 := (pls_iff.1 q).2.2.1
  rw [q] at CV
  clear q hn
  go_enter Try.func43, Try.ntmps43
  go_wp2_with fail
  (with_reducible refine (CV.out _ HI.out).mono ?_)
  rintro e u1 ⟨rfl, hb⟩
  have B1 := hide hb
  clear hb
  go_wp2
  go_loopw [9] (fun i v => ∃ p : Nat, p ≤ L.length ∧ i = .int .i64 p ∧ NoP L p (p + 1) ∧ Below u.heap.size u v) (fun i _ => L.length - (intOf i).toNat)
  case atStart => exact ⟨0, by omega, rfl, NoP.zero _, B1.out⟩
  case round =>
    obtain ⟨p, hp, rfl, hno, hbl⟩ := hrel
    by_cases hlt : p < L.length
    · have HN := hide hno
      have HB := hide hbl
      clear hno hbl
      go_wp2
      go_loopw [10] (fun i v => ∃ m : Nat, p + 1 ≤ m ∧ m ≤ L.length ∧ i = .int .i64 m ∧ NoP L p m ∧ Below u.heap.size u v) (fun i _ => L.length - (intOf i).toNat)
      case atStart => exact ⟨p + 1, by omega, by omega, by go_num, HN.out, HB.out⟩
      case round =>
        obtain ⟨m, hm0, hm, rfl, hno, hbl⟩ := hrel
        by_cases hlm : m < L.length
        · obtain ⟨b, o, rfl, hb0, c0, c1, c2⟩ := (HI.out.below hbl).atp hlt
          obtain ⟨b', o', hA, hb', d0, d1, d2⟩ := (HI.out.below hbl).atp hlm
          injection hA with hA
          cases hA
          have HNO := hide hno
          have HB2 := hide hbl
          have PA := PBS.out p hlt
          have PC := PBS.out m hlm
          unfold PB at PA PC
          have YES := hide (fun a => ov_yes (w := w) (h := h) Q.out (show Fst L p m from ⟨HNO.out, by omega, hlm, a⟩))
          have NXT := hide (fun a => HNO.out.next (k := m) a)
          unfold Ov at YES NXT
          obtain ⟨x, hx⟩ : ∃ x, x = (tg L p).x := ⟨_, rfl⟩
          obtain ⟨y, hy⟩ : ∃ y, y = (tg L p).y := ⟨_, rfl⟩
          obtain ⟨t, ht⟩ : ∃ t, t = (tg L p).t := ⟨_, rfl⟩
          obtain ⟨x', hx'⟩ : ∃ x, x = (tg L m).x := ⟨_, rfl⟩
          obtain ⟨y', hy'⟩ : ∃ y, y = (tg L m).y := ⟨_, rfl⟩
          obtain ⟨t', ht'⟩ : ∃ t, t = (tg L m).t := ⟨_, rfl⟩
          rw [← hx] at c0
          rw [← hy] at c1
          rw [← ht] at c2
          rw [← hx'] at d0
          rw [← hy'] at d1
          rw [← ht'] at d2
          rw [← hx, ← ht] at PA
          rw [← hx', ← ht'] at PC
          rw [← hx, ← hy, ← ht, ← hx', ← hy', ← ht'] at YES NXT
          clear hx hy ht hx' hy' ht' hno hbl
          obtain ⟨⟨a0, a1⟩, a2⟩ := PA
          obtain ⟨⟨e0, e1⟩, e2⟩ := PC
          by_cases f1 : y = y'
          · have g1 : (y == y') = true := beq_iff_eq.2 f1
            by_cases f2 : x < x' + t'.size
            · have g2 : decide (x < x' + (t'.size : Int)) = true := decide_eq_true f2
              by_cases f3 : x' < x + t.size
              · have g3 : decide (x' < x + (t.size : Int)) = true := decide_eq_true f3
                have E := hide (YES.out ⟨f1, f2, f3⟩)
                clear YES NXT f1
                go_wp2
                refine bodyPost_ret (results_tmp3 rfl _ _ _) rfl ?_
                exact ⟨ov_ret E.out, bl_alloc (bl_alloc HB2.out _) _⟩
              · have g3 : decide (x' < x + (t.size : Int)) = false := decide_eq_false f3
                have M := hide (NXT.out (fun a => f3 a.2.2))
                clear YES NXT f1
                go_wp2
                go_roundw
                case rel => exact ⟨m + 1, by omega, by omega, by go_num, M.out, bl_alloc (bl_alloc HB2.out _) _⟩
                case measure => simp [intOf]; omega
            · have g2 : decide (x < x' + (t'.size : Int)) = false := decide_eq_false f2
              have M := hide (NXT.out (fun a => f2 a.2.1))
              clear YES NXT f1
              go_wp2
              go_roundw
              case rel => exact ⟨m + 1, by omega, by omega, by go_num, M.out, bl_alloc (bl_alloc HB2.out _) _⟩
              case measure => simp [intOf]; omega
          · have g1 : (y == y') = false := beq_eq_false_iff_ne.2 f1
            have M := hide (NXT.out (fun a => f1 a.1))
            clear YES NXT f1
            go_wp2
            go_roundw
            case rel => exact ⟨m + 1, by omega, by omega, by go_num, M.out, bl_alloc (bl_alloc HB2.out _) _⟩
            case measure => simp [intOf]; omega
        · have M := hide (hno.row (by omega))
          go_wp2
          go_roundw
          case rel => exact ⟨p + 1, by omega, by go_num, M.out, hbl⟩
          case measure => simp [intOf]; omega
    · have E := hide (ov_no (L := L) (w := w) (h := h) (hno.none (by omega)))
      go_wp2
      refine bodyPost_ret (results_tmp3 rfl _ _ _) rfl ?_
      exact ⟨ov_ret E.out, hbl⟩
end Go.Proofs.Ytpgcpmfnidjhnaa
