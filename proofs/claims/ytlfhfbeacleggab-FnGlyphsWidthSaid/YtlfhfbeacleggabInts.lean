/- What the laws' helpers on slices of integers answer. -/
import Derived.Test.YtlfhfbeacleggabFrame
import Derived.Test.YtlfhfbeacleggabILists
import Derived.LoopTactic
namespace Go.Proofs.Ytlfhfbeacleggab
open Go.ChangeShapes Go.WideShapes Go.ChangeAt Go.RowKit
set_option linter.unusedVariables false
set_option linter.unusedSimpArgs false

theorem IL.of_row {w : World} {a : Option Addr} {n c : Nat} {zs : List Int} (h : IsRow .i64 w a n c zs) : IL w a n (zs.take n) := by
  rcases h with ⟨rfl, rfl, rfl, rfl⟩ | ⟨x, rfl, h1, h2, h3, h4, h5⟩
  · exact IL.nil _ _
  · refine ⟨by simp; omega, fun h0 => ?_⟩
    obtain ⟨b, o, spot⟩ := x
    have e0 := h4 0 (by omega)
    have hspot : spot = none := by simpa [Addr.add] using World.cell?_spot e0
    subst hspot
    refine ⟨b, o, rfl, World.block_lt_of_cell? w _ (by simpa [Addr.add] using e0), fun i hi => ?_⟩
    have e1 := h4 i (by omega)
    have e2 : ng (zs.take n) i = zs.getD i 0 := by simp [ng, List.getD, List.getElem?_take, hi]
    rw [e2, ← e1]
    congr 1
    by_cases h0 : i = 0 <;> simp [Addr.add, h0]

theorem eqInts_l (w : World) (A B : Option Addr) (n m c d : Nat) (l k : List Int) (ha : IL w A n l) (hb : IL w B m k) (hn : n ≤ 4611686018427387904) (hm : m ≤ 4611686018427387904) :
    Calls Try.prog 9 #[.slice A n c, .slice B m d] w fun e w' => e = .returned (.bool (decide (l = k))) ∧ ∃ j, w.drewN j = w' := by
  by_cases hnm : n = m
  · subst hnm
    have hl : l.length = k.length := by rw [← ha.1, ← hb.1]
    have HL := hide hl
    clear hl
    go_enter Try.func9, Try.ntmps9
    go_wp2
    go_loopw [5] (fun i u => ∃ p j : Nat, p ≤ n ∧ i = .int .i64 p ∧ Agr l k p ∧ u = w.drewN j) (fun i _ => n - (intOf i).toNat)
    case atStart => exact ⟨0, 0, by omega, rfl, Agr.zero _ _, rfl⟩
    case round =>
      obtain ⟨p, j, hp, rfl, hag, rfl⟩ := hrel
      have Hag := hide hag
      clear hag
      by_cases hlt : p < n
      · obtain ⟨b, o, rfl, hbl, hc⟩ := ha.at_ hlt
        obtain ⟨b', o', rfl, hbl', hc'⟩ := hb.at_ hlt
        by_cases he : ng l p = ng k p
        · have q : (ng l p != ng k p) = false := by simp [he]
          have M := hide (Hag.out.step he)
          clear he
          go_wp2
          go_quiet (fail)
          go_wp2
          go_roundw
          case rel => exact ⟨p + 1, _, by omega, by go_num, M.out, rfl⟩
          case measure => simp [intOf]; omega
        · have q : (ng l p != ng k p) = true := by simp [he]
          have M : Hid (decide (l = k) = false) := hide (by simp; intro h; subst h; exact he rfl)
          clear he
          go_wp2
          go_quiet (fail)
          go_wp2
          go_ret
          exact ⟨bool_ret M.out.symm, j + nq, by rw [World.drewN_drewN]⟩
      · have hpe : n = l.length := ha.1
        have M : Hid (decide (l = k) = true) := hide (by
          have := Hag.out
          rw [show p = l.length from by omega] at this
          simp; exact Agr.all HL.out this)
        go_wp2
        go_ret
        exact ⟨bool_ret M.out.symm, _, rfl⟩
  · have M : Hid (decide (l = k) = false) := hide (by simp; intro h; subst h; exact hnm (ha.1.trans hb.1.symm))
    go_enter Try.func9, Try.ntmps9
    go_wp2
    go_ret
    exact ⟨bool_ret M.out.symm, 0, rfl⟩



theorem int_info : (Try.prog.info? 3).map (fun i => (i.zero, i.size, i.bytes)) = some (some (.int .i64 0), 1, 8) := by kernel_rfl


end Go.Proofs.Ytlfhfbeacleggab
