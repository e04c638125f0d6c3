/- Whether two lists of items are equal, in the laws; lists of items appended. -/
import Derived.Test.YtlkfpcajpdohiaaItX
import Derived.Test.YtlkfpcajpdohiaaSb
import Derived.Laws.AppendOwnNone
namespace Go.Proofs.Ytlkfpcajpdohiaa
open Go.ChangeShapes Go.WideShapes Go.ChangeAt Go.RowKit
set_option linter.unusedVariables false
open Classical

theorem item_neq (x y : It) (W : World) : (binOp .neq 67 (itv x) (itv y)).run Try.prog W = .ok (.bool (!decide (x = y))) W := by
  have h := item_eql x y W
  rw [run_eql_struct] at h
  rw [run_neq_struct]
  revert h
  generalize (Op.equalIn 10000 67 (itv x) (itv y)).run Try.prog W = r
  cases r with
  | ok b v => simp +contextual [Result.andThen]
  | halt b v => intro h; simp [Result.andThen] at h
theorem tl_ext {L M : List It} (hl : L.length = M.length) (h : ∀ j, j < L.length → tg L j = tg M j) : L = M :=
  List.ext_getElem hl fun j h1 h2 => by have := h j h1; rwa [tg_lt h1, tg_lt h2] at this
set_option maxHeartbeats 2000000 in
theorem eqItems_l (w : World) (A B : Option Addr) (n m c d : Nat) (L M : List It) (ha : TL w A n L) (hb : TL w B m M) (hn : n ≤ 4611686018427387904) (hm : m ≤ 4611686018427387904) :
    Calls Try.prog 28 #[.slice A n c, .slice B m d] w fun e w' => e = .returned (.bool (decide (L = M))) ∧ ∃ j, w.drewN j = w' := by
  obtain rfl : n = L.length := ha.1
  obtain rfl : m = M.length := hb.1
  by_cases hnm : L.length = M.length
  · have HL := hide hnm
    have hq := item_neq
    have HA := hide ha
    have HB := hide hb
    have g0 : ((L.length : Int) != (M.length : Int)) = false := by simp [hnm]
    clear ha hb hnm
    go_enter Try.func28, Try.ntmps28
    go_wp2
    go_loopw [5] (fun i u => ∃ p j : Nat, p ≤ L.length ∧ i = .int .i64 p ∧ (∀ j, j < p → tg L j = tg M j) ∧ u = w.drewN j) (fun i _ => L.length - (intOf i).toNat)
    case atStart => exact ⟨0, 0, by omega, rfl, fun j hj => by omega, rfl⟩
    case round =>
      obtain ⟨p, j, hp, rfl, hag, rfl⟩ := hrel
      have Hag := hide hag
      clear hag
      by_cases hlt : p < L.length
      · have hlt2 : p < M.length := by have := HL.out; omega
        obtain ⟨b, o, rfl, hbl, c0, c1, c2, c3, c4, c5⟩ := HA.out.at6 hlt
        obtain ⟨b', o', rfl, hbl', d0, d1, d2, d3, d4, d5⟩ := HB.out.at6 hlt2
        by_cases he : tg L p = tg M p
        · have q := fun W => hq (tg L p) (tg M p) W
          rw [decide_eq_true he] at q
          have M1 : Hid (∀ j, j < p + 1 → tg L j = tg M j) := hide (fun j hj => by
            rcases (by omega : j < p ∨ j = p) with e | e
            · exact Hag.out j e
            · rw [e]; exact he)
          clear he hq
          go_wp2_with fail
          go_quiet (fail)
          go_wp2
          go_roundw
          case rel => exact ⟨p + 1, _, by omega, by go_num, M1.out, rfl⟩
          case measure => simp [intOf]; omega
        · have q := fun W => hq (tg L p) (tg M p) W
          rw [decide_eq_false he] at q
          have E : Hid (decide (L = M) = false) := hide (decide_eq_false (fun h => he (by rw [h])))
          clear he hq
          go_wp2_with fail
          go_quiet (fail)
          go_wp2
          go_ret
          exact ⟨bool_ret E.out.symm, j + nq, by rw [World.drewN_drewN]⟩
      · have E : Hid (decide (L = M) = true) := hide (decide_eq_true (tl_ext HL.out (by rw [show L.length = p by omega]; exact Hag.out)))
        go_wp2
        go_ret
        exact ⟨bool_ret E.out.symm, _, rfl⟩
  · have E : Hid (decide (L = M) = false) := hide (decide_eq_false (fun h => hnm (by rw [h])))
    have g0 : ((L.length : Int) != (M.length : Int)) = true := by simp; omega
    go_enter Try.func28, Try.ntmps28
    go_wp2
    go_ret
    exact ⟨bool_ret E.out.symm, 0, rfl⟩
theorem wpList_append_recs {α : Type} [Rec α] {P : Program} {ops : Array Oper} {rest : List Oper} {o : Oper} {a : Act} {Q : Exit → Act → World → Prop} {w : World} (hgd : o.guard = none) (s x : Operand) (t : TypeId)
    (ho : o.op = .call { callee := .builtin .append, args := #[s, x], argTypes := #[t, t] })
    (e : TypeId) (i : TypeInfo) (zv : Value) (bytes : Nat) (ht : P.underlying t = some (.slice e)) (hi : P.info? e = some i) (hz : i.zero = some zv) (hsize : i.size = Rec.size α) (hby : i.bytes = bytes) (hzs : zv.cells.size = Rec.size α) (hbl : bytes ≤ 64)
    (B : Nat) (A0 : Option Addr) (c0 n : Nat) (L : List α) (hs : a.eval s = .slice A0 n c0) (hn : n = L.length) (hown : TO w e B A0 c0 L)
    (A : Option Addr) (m c : Nat) (K : List α) (hx : a.eval x = .slice A m c) (hk : TL w A m K) (h1 : ∀ r ∈ K, ∀ u ∈ Rec.cells r, u.oneCell' = true) (hA : A = none → c = 0) (hlen : n + m ≤ 1000000000) (hB : B ≤ w.heap.size)
    (h : ∀ A' c' w', TO w' e B A' c' (L ++ K) → Below B w w' → w.grownBy w' (Value.slice A0 n c0).ownBlock → wpList P ops Q rest (a.put o.dst (.slice A' (n + m) c')) w') : wpList P ops Q (o :: rest) a w := by
  subst hn
  obtain rfl : m = K.length := hk.1
  cases A with
  | none =>
    have hm : K.length = 0 := by
      rcases Nat.eq_zero_or_pos K.length with q | q
      · exact q
      · obtain ⟨b, o', e', _⟩ := hk.2 q
        cases e'
    have hk0 := List.eq_nil_of_length_eq_zero hm
    obtain rfl := hA rfl
    subst hk0
    refine wpList_append_own_none hgd s x t ho B e i (Rec.size α) ht hi _ L.length (L.flatMap Rec.cells) hs hown hx ?_
    have := h A0 c0 w (by rw [List.append_nil]; exact hown) (Below.refl _ _) (World.grownBy.refl _ _)
    simpa using this
  | some ad =>
    refine wpList_append_own w hgd s x t ho B e i zv (Rec.size α) bytes ht hi hz hsize hby hzs Rec.pos _ L.length (L.flatMap Rec.cells) hs hown ad K.length c (K.flatMap Rec.cells) hx (by rw [flat_len]) ?_ ?_ (by unfold maxLen; omega) ?_ hB ?_
    · intro j u hj
      have hjl : j < K.length * Rec.size α := by
        have := (List.getElem?_eq_some_iff.1 hj).1
        rwa [flat_len] at this
      have hp := Rec.pos (α := α)
      have hq : j / Rec.size α < K.length := Nat.div_lt_of_lt_mul (by rw [Nat.mul_comm]; exact hjl)
      have hr : j % Rec.size α < Rec.size α := Nat.mod_lt _ hp
      have ej : j / Rec.size α * Rec.size α + j % Rec.size α = j := Nat.div_add_mod' j _
      obtain ⟨b, o', e', hb, hc⟩ := hk.at_ hq
      injection e' with e'
      subst e'
      have := hc _ hr
      rw [← flat_get K hq hr, ej] at this
      rw [← hj, ← this]
      congr 1
      by_cases h0 : j = 0
      · subst h0; simp [Addr.add]
      · simp [Addr.add, h0]; omega
    · intro u hu
      obtain ⟨r, hr, hu⟩ := List.mem_flatMap.1 hu
      exact h1 r hr u hu
    · have : (L.length + K.length) * bytes ≤ (L.length + K.length) * 64 := Nat.mul_le_mul_left _ hbl
      omega
    · intro v' w' hown' hgr _
      obtain ⟨A', c', rfl, hl, hol⟩ := TO.of_own (L := L ++ K) hown' (by simp)
      exact h A' c' w' hol ((Below.refl _ _).grown hgr hB (fun k' hk' => (hown.own_lt k' hk').1)) hgr
end Go.Proofs.Ytlkfpcajpdohiaa
