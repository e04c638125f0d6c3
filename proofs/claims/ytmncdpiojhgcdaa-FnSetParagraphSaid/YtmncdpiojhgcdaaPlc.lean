/- The places of a paragraph: an iterator over its breaks; the search for the best breaks. -/
import Derived.Test.YtmncdpiojhgcdaaSa
import Derived.Test.YtmncdpiojhgcdaaCb
import Derived.Test.YtmncdpiojhgcdaaWyL
import Derived.WalkKit
import Derived.OwnWalkIn
import Derived.TacticsInMore
import Derived.LoopNIn
import Derived.LoopIn
namespace Go.Proofs.Ytmncdpiojhgcdaa
open Go.ChangeShapes Go.WideShapes Go.ChangeAt Go.RowKit Go.Shelf
set_option linter.unusedVariables false
attribute [local go_sem] Oper.semAt_some

theorem grown_none {u v : World} (h : Below u.heap.size u v) : u.grownBy v none := ⟨h.os, h.tape, h.output, h.size, fun i hi _ => h.block i hi⟩
theorem places_i (w : World) (v0 v1 v2 v3 : Value) :
    Calls Try.prog 71 #[.agg #[v0, v1, v2, v3]] w fun e w' => e = .returned (.func (.func 122) #[] #[.pointer (some ⟨w.heap.size, 0, none⟩)]) ∧ w.alloc (.cells #[v0, v1, v2, v3] 82) = w' := by
  go_enter Try.func71, Try.ntmps71
  go_wp2
  go_ret
  exact ⟨rfl, rfl⟩
set_option maxRecDepth 100000 in
set_option maxHeartbeats 4000000 in
theorem places_seq (w : World) {B gp g c1 gs gf gb : Nat} (L : List It) (hps : PS w B gp g c1 gs gf gb L) (ok : isOk L = true) :
    SeqN Fence.wide 4 Try.prog 122 #[.pointer (some ⟨gp, 0, none⟩)] (encW (plB L)) (Below w.heap.size) (nbB L) w := fun l J W hW hJ hY h0 => by
  obtain ⟨hall, ⟨_, hl60⟩, _⟩ := isOk_iff.1 ok
  have HALL := hide hall
  have HPS := hide hps
  have HJ := hide hJ
  have HYY := hide hY
  have HW := hide hW
  have hzW := hW.size
  have d0 := (hps.below hW).k0
  have J0 := hide h0
  clear hall hps hJ hY hW h0 ok
  refine callsIn_of_wp Try.func122 rfl trivial ?_ rfl
  simp only [Try.ntmps122, List.size_toArray, List.length_cons, List.length_nil, Nat.reduceAdd, Nat.reduceSub, Array.replicate_succ, Array.replicate_zero, List.push_toArray, List.append_toArray, List.nil_append, List.cons_append]
  gi_wp2
  clear d0
  gi_loopw [8] (fun i wr => ∃ k : Nat, k ≤ L.length ∧ i = .int .i64 k ∧ J (brTo L k).length wr ∧ Below w.heap.size W wr ∧ W.heap.size ≤ wr.heap.size) (fun i _ => L.length - (intOf i).toNat)
  case atStart => exact ⟨0, Nat.zero_le _, rfl, J0.out, Below.refl _ _, Nat.le_refl _⟩
  case round =>
    obtain ⟨k, hk, rfl, hJs, hnx, hzr⟩ := hrel
    have HJS := hide hJs
    have HX := hide hnx
    have HPW := hide (HPS.out.below (HW.out.trans hnx))
    clear hJs hnx
    by_cases hlt : k < L.length
    · have d0 := HPW.out.k0
      have d1 := HPW.out.k1
      have d2 := HPW.out.k2
      have d3 := HPW.out.k3
      have e0 := World.ownsRow.cellAt HPW.out.row k (by omega)
      rw [List.getElem?_map, tg_get hlt, Option.map_some] at e0
      have IB := fun (u : World) => isForced_i (tg L k) (KOk.of (HALL.out k hlt)) u
      obtain ⟨pt, py, hpv⟩ := part_iface (tg L k)
      rw [hpv] at e0 IB
      have AT := fun (h : mayE L k = true) => brTo_at (L := L) (i := k) (m := L.length) hlt h
      have YES := hide (fun (h : mayE L k = true) => show (brTo L (k + 1)).length = (brTo L k).length + 1 by rw [brTo_yes h]; simp)
      have NO := hide (fun (h : mayE L k = false) => show (brTo L (k + 1)).length = (brTo L k).length by rw [brTo_no h])
      have PL := hide (fun (h : mayE L k = true) => show (brTo L k).length < nbB L ∧ plB L (brTo L k).length = ((k : Int), isF (tg L k)) from ⟨(AT h).1, by unfold plB; rw [(AT h).2]; rfl⟩)
      rw [show (decide ((tg L k).k = 3 ∧ (tg L k).p = -1000)) = isF (tg L k) from rfl] at IB
      obtain ⟨ff, hff⟩ : ∃ f, f = isF (tg L k) := ⟨_, rfl⟩
      rw [← hff] at IB PL
      have ME := fun (u : World) (hu : u.ownsRow B 105 1 (.slice (some ⟨g, 0, none⟩) L.length c1) L.length (L.map part)) (x1 x2 x3 : Value) => mayEndAt_i u x1 x2 x3 L HALL.out hl60 hu hlt
      obtain ⟨fb, hfb⟩ : ∃ fb, fb = mayE L k := ⟨_, rfl⟩
      rw [← hfb] at ME YES NO PL
      have HME := hide ME
      have HIB := hide IB
      clear IB ME hpv hff hfb AT
      cases fb
      · have N1 := hide (NO.out rfl)
        clear YES NO PL
        gi_wp2_with (refine ⟨trivial, ?_⟩; gi_at_call 84; (with_reducible refine (callsIn_wide.2 (HME.out _ HPW.out.row _ _ _)).mono ?_); rintro e u4 ⟨rfl, hb⟩; have HB4 := hide hb; clear hb)
        refine ⟨trivial, ?_⟩
        gi_wp2
        refine ⟨fun f h => (by cases h), ?_⟩; gi_wp2
        go_roundw
        case rel => exact ⟨k + 1, by omega, by go_num, by rw [N1.out]; exact HJ.out _ _ _ none HJS.out (grown_none HB4.out) (fun r h => by cases h), HX.out.trans (HB4.out.mono (Nat.le_trans hzW hzr)), Nat.le_trans hzr HB4.out.size⟩
        case measure => simp [intOf]; omega
      · have N1 := hide (YES.out rfl)
        obtain ⟨p1, p2⟩ := PL.out rfl
        have P2 := hide p2
        clear YES NO PL p2
        gi_wp2_with (first | (refine ⟨trivial, ?_⟩; gi_at_call 84; (with_reducible refine (callsIn_wide.2 (HME.out _ HPW.out.row _ _ _)).mono ?_); rintro e u4 ⟨rfl, hb⟩; have HB4 := hide hb; clear hb) | (refine ⟨trivial, ?_⟩; gi_at_call 83; (with_reducible refine (callsIn_wide.2 (HIB.out _)).mono ?_); rintro e u5 ⟨rfl, hb⟩; have HB5 := hide (bl_call hb HB4.out); clear hb; obtain ⟨fn, tmps, assign, body, hy, hR⟩ := HYY.out _ u5 p1 (HJ.out _ _ _ none HJS.out (grown_none HB5.out) (fun r h => by cases h)); dsimp only [encW] at hy; rw [P2.out] at hy; (try dsimp only at hy); have HR := hide hR; clear hR))
        refine HR.out.mono ?_
        rintro e W3 ⟨rfl, hJ3, hk3⟩
        gi_wp2
        go_roundw
        case rel => exact ⟨k + 1, by omega, by go_num, by rw [N1.out]; exact hJ3, (HX.out.trans (HB5.out.mono (Nat.le_trans hzW hzr))).trans hk3, Nat.le_trans hzr (Nat.le_trans HB5.out.size hk3.size)⟩
        case measure => simp [intOf]; omega
    · obtain rfl : k = L.length := by omega
      gi_wp2
      go_end0
      exact ⟨⟨_, rfl⟩, HJS.out⟩
end Go.Proofs.Ytmncdpiojhgcdaa
