/- What the laws' helpers on slices of integers answer. -/
import Derived.Test.YtlfhfbeacleggaaFrame
import Derived.Test.YtlfhfbeacleggaaILists
import Derived.LoopTactic
namespace Go.Proofs.Ytlfhfbeacleggaa
open Go.ChangeShapes Go.WideShapes Go.ChangeAt Go.RowKit
set_option linter.unusedVariables false
set_option linter.unusedSimpArgs false

theorem IL.of_row {w : World} {a : Option Addr} {n c : Nat} {zs : List Int} (h : IsRow .i64 w a n c zs) : IL w a n (zs.take n) := by
  rcases h with ⟨rfl, rfl, rfl, rfl⟩ | ⟨x, rfl, h1, h2, h3, h4, h5⟩
  · exact IL.nil _ _
  · refine ⟨by simp; omega, fun h0 => ?_⟩
    obtain ⟨b, o, spot⟩ := x
    have e0 := h4 0 (by omega)
    have hspot : spot = none := by simpa [Addr.add] using World.cell?_spot e0
    subst hspot
    refine ⟨b, o, rfl, World.block_lt_of_cell? w _ (by simpa [Addr.add] using e0), fun i hi => ?_⟩
    have e1 := h4 i (by omega)
    have e2 : ng (zs.take n) i = zs.getD i 0 := by simp [ng, List.getD, List.getElem?_take, hi]
    rw [e2, ← e1]
    congr 1
    by_cases h0 : i = 0 <;> simp [Addr.add, h0]

theorem eqIntS_l (w : World) (A B : Option Addr) (n m c d : Nat) (l k : List Int) (ha : IL w A n l) (hb : IL w B m k) (hn : n ≤ 4611686018427387904) (hm : m ≤ 4611686018427387904) :
    Calls Try.prog 35 #[.slice A n c, .slice B m d] w fun e w' => e = .returned (.bool (decide (l = k))) ∧ ∃ j, w.drewN j = w' := by
  by_cases hnm : n = m
  · subst hnm
    have hl : l.length = k.length := by rw [← ha.1, ← hb.1]
    have HL := hide hl
    clear hl
    go_enter Try.func35, Try.ntmps35
    go_wp2
    go_loopw [5] (fun i u => ∃ p j : Nat, p ≤ n ∧ i = .int .i64 p ∧ Agr l k p ∧ u = w.drewN j) (fun i _ => n - (intOf i).toNat)
    case atStart => exact ⟨0, 0, by omega, rfl, Agr.zero _ _, rfl⟩
    case round =>
      obtain ⟨p, j, hp, rfl, hag, rfl⟩ := hrel
      have Hag := hide hag
      clear hag
      by_cases hlt : p < n
      · obtain ⟨b, o, rfl, hbl, hc⟩ := ha.at_ hlt
        obtain ⟨b', o', rfl, hbl', hc'⟩ := hb.at_ hlt
        by_cases he : ng l p = ng k p
        · have q : (ng l p != ng k p) = false := by simp [he]
          have M := hide (Hag.out.step he)
          clear he
          go_wp2
          go_quiet (fail)
          go_wp2
          go_roundw
          case rel => exact ⟨p + 1, _, by omega, by go_num, M.out, rfl⟩
          case measure => simp [intOf]; omega
        · have q : (ng l p != ng k p) = true := by simp [he]
          have M : Hid (decide (l = k) = false) := hide (by simp; intro h; subst h; exact he rfl)
          clear he
          go_wp2
          go_quiet (fail)
          go_wp2
          go_ret
          exact ⟨bool_ret M.out.symm, j + nq, by rw [World.drewN_drewN]⟩
      · have hpe : n = l.length := ha.1
        have M : Hid (decide (l = k) = true) := hide (by
          have := Hag.out
          rw [show p = l.length from by omega] at this
          simp; exact Agr.all HL.out this)
        go_wp2
        go_ret
        exact ⟨bool_ret M.out.symm, _, rfl⟩
  · have M : Hid (decide (l = k) = false) := hide (by simp; intro h; subst h; exact hnm (ha.1.trans hb.1.symm))
    go_enter Try.func35, Try.ntmps35
    go_wp2
    go_ret
    exact ⟨bool_ret M.out.symm, 0, rfl⟩
theorem eqInts_l (w : World) (A B : Option Addr) (n m c d : Nat) (l k : List Int) (ha : IL w A n l) (hb : IL w B m k) (hn : n ≤ 4611686018427387904) (hm : m ≤ 4611686018427387904) :
    Calls Try.prog 54 #[.slice A n c, .slice B m d] w fun e w' => e = .returned (.bool (decide (l = k))) ∧ ∃ j, w.drewN j = w' := by
  by_cases hnm : n = m
  · subst hnm
    have hl : l.length = k.length := by rw [← ha.1, ← hb.1]
    have HL := hide hl
    clear hl
    go_enter Try.func54, Try.ntmps54
    go_wp2
    go_loopw [5] (fun i u => ∃ p j : Nat, p ≤ n ∧ i = .int .i64 p ∧ Agr l k p ∧ u = w.drewN j) (fun i _ => n - (intOf i).toNat)
    case atStart => exact ⟨0, 0, by omega, rfl, Agr.zero _ _, rfl⟩
    case round =>
      obtain ⟨p, j, hp, rfl, hag, rfl⟩ := hrel
      have Hag := hide hag
      clear hag
      by_cases hlt : p < n
      · obtain ⟨b, o, rfl, hbl, hc⟩ := ha.at_ hlt
        obtain ⟨b', o', rfl, hbl', hc'⟩ := hb.at_ hlt
        by_cases he : ng l p = ng k p
        · have q : (ng l p != ng k p) = false := by simp [he]
          have M := hide (Hag.out.step he)
          clear he
          go_wp2
          go_quiet (fail)
          go_wp2
          go_roundw
          case rel => exact ⟨p + 1, _, by omega, by go_num, M.out, rfl⟩
          case measure => simp [intOf]; omega
        · have q : (ng l p != ng k p) = true := by simp [he]
          have M : Hid (decide (l = k) = false) := hide (by simp; intro h; subst h; exact he rfl)
          clear he
          go_wp2
          go_quiet (fail)
          go_wp2
          go_ret
          exact ⟨bool_ret M.out.symm, j + nq, by rw [World.drewN_drewN]⟩
      · have hpe : n = l.length := ha.1
        have M : Hid (decide (l = k) = true) := hide (by
          have := Hag.out
          rw [show p = l.length from by omega] at this
          simp; exact Agr.all HL.out this)
        go_wp2
        go_ret
        exact ⟨bool_ret M.out.symm, _, rfl⟩
  · have M : Hid (decide (l = k) = false) := hide (by simp; intro h; subst h; exact hnm (ha.1.trans hb.1.symm))
    go_enter Try.func54, Try.ntmps54
    go_wp2
    go_ret
    exact ⟨bool_ret M.out.symm, 0, rfl⟩

/-- What markIntS leaves: the numbers from z on, in the same place. -/
theorem markIntS_l (w : World) (e : TypeId) (B : Nat) (A : Option Addr) (c : Nat) (l : List Int) (z : Int) (ha : OL w e B A c l) (hn : l.length ≤ 2000000) (z0 : 0 ≤ z) (z1 : z ≤ 1000000000) :
    Calls Try.prog 36 #[.slice A l.length c, .int .i64 z] w fun e' w' => e' = .returned (.int .i64 (z + l.length)) ∧ OL w' e B A c (upto z l.length) ∧ w.grownBy w' (Value.slice A l.length c).ownBlock := by
  rcases Nat.eq_zero_or_pos l.length with h0 | h0
  · have E := hide (List.eq_nil_of_length_eq_zero h0)
    have H : Hid (OL w e B A c (upto z l.length)) := hide (by rw [E.out] at ha ⊢; exact ha)
    rw [h0] at H ⊢
    go_enter Try.func36, Try.ntmps36
    go_wp2
    go_loop [1, 5] (fun k i => k = .int .i64 z ∧ i = .int .i64 0) (fun _ _ => 0)
    case atStart => exact ⟨rfl, rfl⟩
    case round =>
      obtain ⟨rfl, rfl⟩ := hrel
      go_wp2
      go_ret
      exact ⟨int_ret (by simp), H.out, World.grownBy.refl _ _⟩
  · obtain ⟨g, rfl, hB, hg, hfz⟩ := ha.frozen h0
    have hmx := ha.len
    have hU : (upto z l.length).length = l.length := upto_len z l.length
    have HU := hide hU
    have H0 : Hid (OL w e B (some ⟨g, 0, none⟩) c (mix (upto z l.length) l 0)) := hide (by rw [mix_zero]; exact ha)
    clear ha hfz hU
    go_enter Try.func36, Try.ntmps36
    go_wp2
    go_loopw [1, 5] (fun k i u => ∃ p : Nat, p ≤ l.length ∧ k = .int .i64 (z + p) ∧ i = .int .i64 p ∧ OL u e B (some ⟨g, 0, none⟩) c (mix (upto z l.length) l p) ∧ w.grownBy u (some g)) (fun _ i _ => l.length - (intOf i).toNat)
    case atStart => exact ⟨0, by omega, by go_num, rfl, H0.out, World.grownBy.refl _ _⟩
    case round =>
      obtain ⟨p, hp, rfl, rfl, hol, hgr⟩ := hrel
      have hml : (mix (upto z l.length) l p).length = l.length := by rw [mix_len (by rw [HU.out]), HU.out]
      by_cases hlt : p < l.length
      · have M := hide (hol.set_ p (z + p))
        have hc := hol.reads.at_ (i := p) (by omega)
        obtain ⟨b, o, he, _, hc⟩ := hc
        obtain ⟨g', he', _, _, hfz⟩ := hol.frozen (by omega)
        injection he with he; injection he' with he'
        cases he; cases he'
        have fz := hfz p
        rw [Nat.zero_add] at hc
        have HML := hide hml
        clear hml hfz hol
        go_wp2
        go_roundw
        case rel =>
          refine ⟨p + 1, by omega, by go_num, by go_num, ?_, on_set' hgr (.inl rfl) _⟩
          have := M.out.1
          have e1 : (mix (upto z l.length) l p).set p (z + p) = mix (upto z l.length) l (p + 1) := by rw [← upto_get hlt, mix_step (by rw [HU.out]) (by rw [HU.out]; exact hlt)]
          rwa [e1] at this
        case measure => simp [intOf]; omega
      · have hpe : p = l.length := by omega
        have M : Hid (OL wr e B (some ⟨g, 0, none⟩) c (upto z l.length)) := hide (by
          rw [hpe] at hol
          rwa [show mix (upto z l.length) l l.length = upto z l.length from by have := mix_all (l := upto z l.length) (m := l) (by rw [HU.out]); rwa [HU.out] at this] at hol)
        clear hml hol
        go_wp2
        go_ret
        exact ⟨int_ret (by omega), M.out, hgr⟩

theorem heldIntS_l (w : World) (A : Option Addr) (c n : Nat) (z : Int) (ha : IL w A n (upto z n)) (hn : n ≤ 2000000) (z0 : 0 ≤ z) (z1 : z ≤ 1000000) :
    Calls Try.prog 52 #[.slice A n c, .int .i64 z] w fun e w' => e = .returned (.int .i64 (z + n)) ∧ w = w' := by
  go_enter Try.func52, Try.ntmps52
  go_wp2
  go_loop [1, 5] (fun k i => ∃ p : Nat, p ≤ n ∧ k = .int .i64 (z + p) ∧ i = .int .i64 p) (fun _ i => n - (intOf i).toNat)
  case atStart => exact ⟨0, by omega, by go_num, rfl⟩
  case round =>
    obtain ⟨p, hp, rfl, rfl⟩ := hrel
    by_cases hlt : p < n
    · obtain ⟨b, o, rfl, _, hc⟩ := ha.at_ hlt
      rw [upto_get hlt] at hc
      go_wp2
      go_round
      case rel => exact ⟨p + 1, by omega, by go_num, by go_num⟩
      case measure => simp [intOf]; omega
    · go_wp2
      go_ret
      exact ⟨int_ret (by omega), rfl⟩

theorem int_info : (Try.prog.info? 3).map (fun i => (i.zero, i.size, i.bytes)) = some (some (.int .i64 0), 1, 8) := by kernel_rfl
theorem toIntS_l (w : World) (A : Option Addr) (n c : Nat) (l : List Int) (ha : IL w A n l) (hn : n ≤ 1048576) :
    Calls Try.prog 32 #[.slice A n c] w fun e w' => ∃ A' c', e = .returned (.slice A' l.length c') ∧ OL w' 3 w.heap.size A' c' l ∧ Below w.heap.size w w' := by
  obtain ⟨i0, hi0, hz0, hz1, hz2⟩ := info_parts int_info
  obtain rfl : n = l.length := ha.1
  have hR : (List.replicate l.length (0 : Int)).length = l.length := List.length_replicate
  have HR := hide hR
  clear hR
  go_enter Try.func32, Try.ntmps32
  go_wp2_with (refine wpList_make_full _ rfl _ _ _ rfl w.heap.size 3 i0 _ 1 Try.underlying32 hi0 hz0 hz1 .i64 .i64 _ _ l.length rfl rfl rfl rfl (by rw [hz2]; omega) (by unfold maxLen; omega) (Nat.le_refl _) ?_; intro w1 hown hgr)
  have H0 : Hid (OL w1 3 w.heap.size (some ⟨w.heap.size, 0, none⟩) l.length (mix l (List.replicate l.length 0) 0)) := hide (by
    rw [mix_zero]; unfold OL
    have e1 : (madeCells (Value.int .i64 0).cells l.length).toList = List.replicate l.length (.int .i64 0) := toList_madeCells_one _ _
    simp only [Nat.mul_one, e1] at hown
    simpa using hown)
  have hb1 := below_new hgr
  have hz0 : w.heap.size ≤ w1.heap.size := hb1.size
  have HI := hide ha
  clear hown hgr ha
  go_wp2
  go_loopw [4] (fun i u => ∃ p : Nat, p ≤ l.length ∧ i = .int .i64 p ∧ OL u 3 w.heap.size (some ⟨w.heap.size, 0, none⟩) l.length (mix l (List.replicate l.length 0) p) ∧ Below w.heap.size w u) (fun i _ => l.length - (intOf i).toNat)
  case atStart => exact ⟨0, by omega, rfl, H0.out, hb1⟩
  case round =>
    obtain ⟨p, hp, rfl, hol, hbl⟩ := hrel
    have hml : (mix l (List.replicate l.length 0) p).length = l.length := mix_len HR.out p
    by_cases hlt : p < l.length
    · have M := hide (hol.set_ p (ng l p)).1
      have hc := hol.reads.at_ (i := p) (by omega)
      obtain ⟨b, o, he, hg, hc⟩ := hc
      obtain ⟨g', he', _, _, hfz⟩ := hol.frozen (by omega)
      injection he with he; injection he' with he'
      cases he; cases he'
      have fz := hfz p
      obtain ⟨b, o, rfl, hb0, hci⟩ := HI.out.at_ hlt
      have hci := keep_cell hbl hci
      rw [Nat.zero_add] at hc
      clear hml hfz hol
      go_wp2
      go_roundw
      case rel =>
        refine ⟨p + 1, by omega, by go_num, ?_, bl_set hbl (Nat.le_refl _) _⟩
        have := M.out
        rwa [mix_step HR.out hlt] at this
      case measure => simp [intOf]; omega
    · have hpe : p = l.length := by omega
      have M : Hid (OL wr 3 w.heap.size (some ⟨w.heap.size, 0, none⟩) l.length l) := hide (by
        rwa [hpe, mix_all HR.out] at hol)
      clear hml hol
      go_wp2
      go_ret
      exact ⟨_, _, rfl, M.out, hbl⟩

theorem isIn_l (w : World) (A : Option Addr) (n c : Nat) (l : List Int) (z : Int) (ha : IL w A n l) (hn : n ≤ 4611686018427387904) :
    Calls Try.prog 45 #[.slice A n c, .int .i64 z] w fun e w' => e = .returned (.bool (decide (z ∈ l))) ∧ w = w' := by
  go_enter Try.func45, Try.ntmps45
  go_wp2
  go_loop [5] (fun i => ∃ p : Nat, p ≤ n ∧ i = .int .i64 p ∧ ∀ j, j < p → ng l j ≠ z) (fun i => n - (intOf i).toNat)
  case atStart => exact ⟨0, by omega, rfl, fun j hj => by omega⟩
  case round =>
    obtain ⟨p, hp, rfl, hno⟩ := hrel
    have hl : n = l.length := ha.1
    have HL := hide hl
    clear hl
    by_cases hlt : p < n
    · obtain ⟨b, o, rfl, _, hc⟩ := ha.at_ hlt
      by_cases he : ng l p = z
      · have q : (ng l p == z) = true := by simp [he]
        have M : Hid (decide (z ∈ l) = true) := hide (by rw [← he]; simp; exact ng_mem (by rw [← HL.out]; exact hlt))
        clear he hno
        go_wp2
        go_ret
        exact ⟨bool_ret M.out.symm, rfl⟩
      · have q : (ng l p == z) = false := by simp [he]
        have M : Hid (∀ j, j < p + 1 → ng l j ≠ z) := hide (fun j hj => by
          rcases (by omega : j < p ∨ j = p) with e | e
          · exact hno j e
          · rw [e]; exact he)
        clear he hno
        go_wp2
        go_round
        case rel => exact ⟨p + 1, by omega, by go_num, M.out⟩
        case measure => simp [intOf]; omega
    · have M : Hid (decide (z ∈ l) = false) := hide (by
        simp
        intro hz
        obtain ⟨j, hj, e⟩ := List.getElem_of_mem hz
        exact hno j (by have := HL.out; omega) (by rw [ng_lt hj, e]))
      clear hno
      go_wp2
      go_ret
      exact ⟨bool_ret M.out.symm, rfl⟩

end Go.Proofs.Ytlfhfbeacleggaa
