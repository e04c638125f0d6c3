/- Several texts of one claim, one behind the other. -/
import Derived.Test.YtafddofajfcffaaQa
import Derived.Test.YtafddofajfcffaaQg
import Derived.WalkKit
import Derived.OwnWalkIn
import Derived.TacticsInMore
import Derived.LoopNIn
import Derived.LoopIn
import Derived.Laws.AppendOwnNone
import Derived.Maps.AppendAt
import Derived.Test.YtafddofajfcffaaQb
import Derived.Test.YtafddofajfcffaaQf
import Derived.Test.YtafddofajfcffaaQc
import Derived.Deep.OwnRows
import Derived.BigQuiet
/- The places of a paragraph: an iterator over its breaks; the search for the best breaks. -/
namespace Go.Proofs.Ytafddofajfcffaa
open Go.ChangeShapes Go.WideShapes Go.ChangeAt Go.RowKit Go.Shelf
set_option linter.unusedVariables false
attribute [local go_sem] Oper.semAt_some

theorem grown_none {u v : World} (h : Below u.heap.size u v) : u.grownBy v none := ⟨h.os, h.tape, h.output, h.size, fun i hi _ => h.block i hi⟩
theorem places_i (w : World) (v0 v1 v2 v3 : Value) :
    Calls Try.prog 99 #[.agg #[v0, v1, v2, v3]] w fun e w' => e = .returned (.func (.func 144) #[] #[.pointer (some ⟨w.heap.size, 0, none⟩)]) ∧ w.alloc (.cells #[v0, v1, v2, v3] 92) = w' := by
  go_enter Try.func99, Try.ntmps99
  go_wp2
  go_ret
  exact ⟨rfl, rfl⟩
set_option maxRecDepth 100000 in
set_option maxHeartbeats 4000000 in
theorem places_seq (w : World) {B gp g c1 gs gf gb : Nat} (L : List It) (hps : PS w B gp g c1 gs gf gb L) (ok : isOk L = true) :
    SeqN Fence.wide 4 Try.prog 144 #[.pointer (some ⟨gp, 0, none⟩)] (encW (plB L)) (Below w.heap.size) (nbB L) w := fun l J W hW hJ hY h0 => by
  obtain ⟨hall, ⟨_, hl60⟩, _⟩ := isOk_iff.1 ok
  have HALL := hide hall
  have HPS := hide hps
  have HJ := hide hJ
  have HYY := hide hY
  have HW := hide hW
  have hzW := hW.size
  have d0 := (hps.below hW).k0
  have J0 := hide h0
  clear hall hps hJ hY hW h0 ok
  refine callsIn_of_wp Try.func144 rfl trivial ?_ rfl
  simp only [Try.ntmps144, List.size_toArray, List.length_cons, List.length_nil, Nat.reduceAdd, Nat.reduceSub, Array.replicate_succ, Array.replicate_zero, List.push_toArray, List.append_toArray, List.nil_append, List.cons_append]
  gi_wp2
  clear d0
  gi_loopw [8] (fun i wr => ∃ k : Nat, k ≤ L.length ∧ i = .int .i64 k ∧ J (brTo L k).length wr ∧ Below w.heap.size W wr ∧ W.heap.size ≤ wr.heap.size) (fun i _ => L.length - (intOf i).toNat)
  case atStart => exact ⟨0, Nat.zero_le _, rfl, J0.out, Below.refl _ _, Nat.le_refl _⟩
  case round =>
    obtain ⟨k, hk, rfl, hJs, hnx, hzr⟩ := hrel
    have HJS := hide hJs
    have HX := hide hnx
    have HPW := hide (HPS.out.below (HW.out.trans hnx))
    clear hJs hnx
    by_cases hlt : k < L.length
    · have d0 := HPW.out.k0
      have d1 := HPW.out.k1
      have d2 := HPW.out.k2
      have d3 := HPW.out.k3
      have e0 := World.ownsRow.cellAt HPW.out.row k (by omega)
      rw [List.getElem?_map, tg_get hlt, Option.map_some] at e0
      have IB := fun (u : World) => isForced_i (tg L k) (KOk.of (HALL.out k hlt)) u
      obtain ⟨pt, py, hpv⟩ := part_iface (tg L k)
      rw [hpv] at e0 IB
      have AT := fun (h : mayE L k = true) => brTo_at (L := L) (i := k) (m := L.length) hlt h
      have YES := hide (fun (h : mayE L k = true) => show (brTo L (k + 1)).length = (brTo L k).length + 1 by rw [brTo_yes h]; simp)
      have NO := hide (fun (h : mayE L k = false) => show (brTo L (k + 1)).length = (brTo L k).length by rw [brTo_no h])
      have PL := hide (fun (h : mayE L k = true) => show (brTo L k).length < nbB L ∧ plB L (brTo L k).length = ((k : Int), isF (tg L k)) from ⟨(AT h).1, by unfold plB; rw [(AT h).2]; rfl⟩)
      rw [show (decide ((tg L k).k = 3 ∧ (tg L k).p = -1000)) = isF (tg L k) from rfl] at IB
      obtain ⟨ff, hff⟩ : ∃ f, f = isF (tg L k) := ⟨_, rfl⟩
      rw [← hff] at IB PL
      have ME := fun (u : World) (hu : u.ownsRow B 132 1 (.slice (some ⟨g, 0, none⟩) L.length c1) L.length (L.map part)) (x1 x2 x3 : Value) => mayEndAt_i u x1 x2 x3 L HALL.out hl60 hu hlt
      obtain ⟨fb, hfb⟩ : ∃ fb, fb = mayE L k := ⟨_, rfl⟩
      rw [← hfb] at ME YES NO PL
      have HME := hide ME
      have HIB := hide IB
      clear IB ME hpv hff hfb AT
      cases fb
      · have N1 := hide (NO.out rfl)
        clear YES NO PL
        gi_wp2_with (refine ⟨trivial, ?_⟩; gi_at_call 106; (with_reducible refine (callsIn_wide.2 (HME.out _ HPW.out.row _ _ _)).mono ?_); rintro e u4 ⟨rfl, hb⟩; have HB4 := hide hb; clear hb)
        refine ⟨trivial, ?_⟩
        gi_wp2
        refine ⟨fun f h => (by cases h), ?_⟩; gi_wp2
        go_roundw
        case rel => exact ⟨k + 1, by omega, by go_num, by rw [N1.out]; exact HJ.out _ _ _ none HJS.out (grown_none HB4.out) (fun r h => by cases h), HX.out.trans (HB4.out.mono (Nat.le_trans hzW hzr)), Nat.le_trans hzr HB4.out.size⟩
        case measure => simp [intOf]; omega
      · have N1 := hide (YES.out rfl)
        obtain ⟨p1, p2⟩ := PL.out rfl
        have P2 := hide p2
        clear YES NO PL p2
        gi_wp2_with (first | (refine ⟨trivial, ?_⟩; gi_at_call 106; (with_reducible refine (callsIn_wide.2 (HME.out _ HPW.out.row _ _ _)).mono ?_); rintro e u4 ⟨rfl, hb⟩; have HB4 := hide hb; clear hb) | (refine ⟨trivial, ?_⟩; gi_at_call 108; (with_reducible refine (callsIn_wide.2 (HIB.out _)).mono ?_); rintro e u5 ⟨rfl, hb⟩; have HB5 := hide (bl_call hb HB4.out); clear hb; obtain ⟨fn, tmps, assign, body, hy, hR⟩ := HYY.out _ u5 p1 (HJ.out _ _ _ none HJS.out (grown_none HB5.out) (fun r h => by cases h)); dsimp only [encW] at hy; rw [P2.out] at hy; (try dsimp only at hy); have HR := hide hR; clear hR))
        refine HR.out.mono ?_
        rintro e W3 ⟨rfl, hJ3, hk3⟩
        gi_wp2
        go_roundw
        case rel => exact ⟨k + 1, by omega, by go_num, by rw [N1.out]; exact hJ3, (HX.out.trans (HB5.out.mono (Nat.le_trans hzW hzr))).trans hk3, Nat.le_trans hzr (Nat.le_trans HB5.out.size hk3.size)⟩
        case measure => simp [intOf]; omega
    · obtain rfl : k = L.length := by omega
      gi_wp2
      go_end0
      exact ⟨⟨_, rfl⟩, HJS.out⟩
end Go.Proofs.Ytafddofajfcffaa

/- append of a whole list of integers to a slice that the call made. It speaks of no program. -/
namespace Go.Proofs.Ytafddofajfcffaa
open Go.ChangeShapes Go.WideShapes Go.ChangeAt Go.RowKit
set_option linter.unusedVariables false

theorem wpList_append_list {P : Program} {ops : Array Oper} {rest : List Oper} {o : Oper} {a : Act} {Q : Exit → Act → World → Prop} {w : World} (hgd : o.guard = none) (s x : Operand) (t : TypeId)
    (ho : o.op = .call { callee := .builtin .append, args := #[s, x], argTypes := #[t, t] })
    (e : TypeId) (i : TypeInfo) (ht : P.underlying t = some (.slice e)) (hi : P.info? e = some i) (hz : i.zero = some (.int .i64 0)) (hsize : i.size = 1) (hby : i.bytes = 8)
    (B : Nat) (A0 : Option Addr) (c0 n : Nat) (l : List Int) (hs : a.eval s = .slice A0 n c0) (hn : n = l.length) (hown : OL w e B A0 c0 l)
    (A : Option Addr) (m c : Nat) (k : List Int) (hx : a.eval x = .slice A m c) (hk : IL w A m k) (hA : A = none → c = 0) (hlen : n + m ≤ 1000000000000) (hB : B ≤ w.heap.size)
    (h : ∀ A' c' w', OL w' e B A' c' (l ++ k) → Below B w w' → w.grownBy w' (Value.slice A0 n c0).ownBlock → wpList P ops Q rest (a.put o.dst (.slice A' (n + m) c')) w') : wpList P ops Q (o :: rest) a w := by
  subst hn
  obtain rfl : m = k.length := hk.1
  cases A with
  | none =>
    have hm : k.length = 0 := by
      rcases Nat.eq_zero_or_pos k.length with q | q
      · exact q
      · obtain ⟨b, o', e', _⟩ := hk.2 q
        cases e'
    have hk0 := List.eq_nil_of_length_eq_zero hm
    obtain rfl := hA rfl
    subst hk0
    refine wpList_append_own_none hgd s x t ho B e i 1 ht hi _ l.length (l.map (Value.int .i64)) hs hown hx ?_
    have := h A0 c0 w (by rw [List.append_nil]; exact hown) (Below.refl _ _) (World.grownBy.refl _ _)
    simpa using this
  | some ad =>
    refine wpList_append_own w hgd s x t ho B e i (.int .i64 0) 1 8 ht hi hz hsize hby rfl (by decide) _ l.length (l.map (Value.int .i64)) hs hown ad k.length c (k.map (Value.int .i64)) hx (by simp) ?_ ?_ (by unfold maxLen; omega) (by omega) hB ?_
    · intro j u hj
      have hjk : j < k.length := by
        rcases Nat.lt_or_ge j k.length with q | q
        · exact q
        · rw [List.getElem?_eq_none (by simpa using q)] at hj; cases hj
      obtain ⟨b, o', e', hb, hc⟩ := hk.at_ hjk
      injection e' with e'
      subst e'
      rw [List.getElem?_map, ng_get hjk] at hj
      injection hj with hj
      rw [← hj, ← hc]
      congr 1
      by_cases h0 : j = 0 <;> simp [Addr.add, h0]
    · intro u hu
      obtain ⟨z, _, rfl⟩ := List.mem_map.1 hu
      rfl
    · intro v' w' hown' hgr _
      obtain ⟨A', c', rfl, hl, hol⟩ := OL.of_own (l := l ++ k) hown' (by simp)
      exact h A' c' w' hol ((Below.refl _ _).grown hgr hB (fun k' hk' => (hown.own_lt k' hk').1)) hgr
theorem cell_new_at {W : World} {n : Nat} {v : Value} {t : TypeId} (h : W.heap.size = n) : (W.alloc (.cells #[v] t)).cell? ⟨n, 0, none⟩ = some v := by
  subst h
  simp
/-- append of one number, and where the slice then lies. -/
theorem wpList_append_int_at {P : Program} {ops : Array Oper} {rest : List Oper} {o : Oper} {a : Act} {Q : Exit → Act → World → Prop} {w : World} (hgd : o.guard = none) (s x : Operand) (t : TypeId)
    (ho : o.op = .call { callee := .builtin .append, args := #[s, x], argTypes := #[t, t] })
    (e : TypeId) (i : TypeInfo) (ht : P.underlying t = some (.slice e)) (hi : P.info? e = some i) (hz : i.zero = some (.int .i64 0)) (hsize : i.size = 1) (hby : i.bytes = 8)
    (B : Nat) (A : Option Addr) (c n : Nat) (l : List Int) (hs : a.eval s = .slice A n c) (hn : n = l.length) (hown : OL w e B A c l)
    (b : Nat) (z : Int) (hx : a.eval x = .slice (some ⟨b, 0, none⟩) 1 1) (hc : w.cell? ⟨b, 0, none⟩ = some (.int .i64 z)) (hlen : n ≤ 1000000000000) (hB : B ≤ w.heap.size)
    (h : ∀ A' c' w', OL w' e B A' c' (l ++ [z]) → Below B w w' → w.grownBy w' (Value.slice A n c).ownBlock → ((Value.slice A' (n + 1) c').ownBlock = (Value.slice A n c).ownBlock ∨ (Value.slice A' (n + 1) c').ownBlock = some w.heap.size) → wpList P ops Q rest (a.put o.dst (.slice A' (n + 1) c')) w') : wpList P ops Q (o :: rest) a w := by
  subst hn
  refine wpList_append_own_at w hgd s x t ho B e i (.int .i64 0) 1 8 ht hi hz hsize hby rfl (by decide) _ l.length (l.map (Value.int .i64)) hs hown ⟨b, 0, none⟩ 1 1 [.int .i64 z] hx rfl ?_ ?_ (by unfold maxLen; omega) (by omega) hB ?_
  · intro j u hj
    match j, hj with
    | 0, hj => simp at hj; subst hj; simpa [Addr.add] using hc
  · intro u hu; simp at hu; subst hu; rfl
  · intro v' w' hown' hgr _ hat
    obtain ⟨A', c', rfl, hl, hol⟩ := OL.of_own (l := l ++ [z]) hown' (by simp)
    exact h A' c' w' hol ((Below.refl _ _).grown hgr hB (fun k hk => (hown.own_lt k hk).1)) hgr hat
end Go.Proofs.Ytafddofajfcffaa

/- BestBreaks and LeastLines in the program. -/
namespace Go.Proofs.Ytafddofajfcffaa
open Go.ChangeShapes Go.WideShapes Go.ChangeAt Go.RowKit
set_option linter.unusedVariables false
set_option linter.unusedSimpArgs false

/-- What a function leaves that returns a list that it made, a number and whether it succeeded. -/
def RetW (w : World) (o : List Int × Int × Bool) (e : Ending) (w' : World) : Prop := ∃ A c, e = .returned (.tuple #[.slice A o.1.length c, .int .i64 o.2.1, .bool o.2.2]) ∧ OL w' 3 w.heap.size A c o.1 ∧ Below w.heap.size w w'
theorem RetW.no {w w' : World} {o : List Int × Int × Bool} (h : o = ([], 0, false)) (hb : Below w.heap.size w w') : RetW w o (.returned (.tuple #[.slice none 0 0, .int .i64 0, .bool false])) w' := by
  subst h
  exact ⟨none, 0, rfl, OL.nil _ _ _, hb⟩
theorem RetW.up {w u w' : World} {o : List Int × Int × Bool} {e : Ending} (h : RetW u o e w') (hb : Below w.heap.size w u) : RetW w o e w' := by
  obtain ⟨A, c, h1, h2, h3⟩ := h
  exact ⟨A, c, h1, h2.more hb.size, bl_call h3 hb⟩
theorem least_lines (w : World) {B gp g c1 gs gf gb : Nat} (L : List It) (hps : PS w B gp g c1 gs gf gb L) (ok : isOk L = true) (C : Int → Int → Int × Bool) (hC : ∀ a b, (C a b).2 = true → hasL L a b = true) (hM : ∀ a b, -200000000 ≤ (C a b).1 ∧ (C a b).1 ≤ 200000000) (q1 q2 q3 : Value)
    (HC : ∀ u, Below w.heap.size w u → ∀ (x a b : Int), (-1 ≤ a ∧ a ≤ 60) → (-1 ≤ b ∧ b ≤ 60) → Calls Try.prog 128 #[.int .i64 x, .int .i64 a, .int .i64 b, q1, q2, q3] u fun e u' => e = .returned (.tuple #[.int .i64 (C a b).1, .bool (C a b).2]) ∧ Below u.heap.size u u') :
    Calls Try.prog 98 #[.int .i64 (-1), .func (.func 144) #[] #[.pointer (some ⟨gp, 0, none⟩)], .func (.func 128) #[] #[q1, q2, q3], .bool false] w (RetW w (dpR (gB C) ndB L.length)) := by
  have DP := isDp_lines (L := L) hC
  obtain ⟨n0, n1, n2, n3⟩ := nbB_top ok
  have hl60 := (isOk_iff.1 ok).2.1.2
  have hR := lwR_dp DP n2
  rw [n1] at hR
  have BD : ∀ j d, dpD (gB C) j = some d → d.2.2 ≤ j ∧ -(200000000 * (d.2.2 : Int)) ≤ d.1 ∧ d.1 ≤ 200000000 * d.2.2 := fun j d e => dpD_bd (g := gB C) (M := 200000000) (fun i j n e => gB_bd hM e) (j + 1) (Nat.lt_succ_self j) e
  have := leastWay_i w (-1) 144 128 #[.pointer (some ⟨gp, 0, none⟩)] #[q1, q2, q3] (fun _ a b => C a b) false (plB L) (nbB L)
    (places_seq w L hps ok) (enters_of Try.func144 (by kernel_rfl) rfl)
    (fun k u hk hb hws => by
      have hlen := lwS_len DP (k := k) (by omega)
      have hpk := piB_mono (L := L) (k := k) (m := nbB L) (Nat.le_refl _) (by omega)
      rw [n1] at hpk
      have hlw := lwS_dp DP (k := k) (by omega)
      have hpos := lwS_pos (C := fun _ a b => C a b) (cnt := false) (start := -1) (pl := plB L) (k := k)
      have HW : ∀ i, i < (lwS (fun _ a b => C a b) false (-1) (plB L) k).1.length → ∃ j d, j < piB L k + 1 ∧ dpD (gB C) j = some d ∧ tg (lwS (fun _ a b => C a b) false (-1) (plB L) k).1 i = wyN (gB C) ndB j d := fun i hi => by
        rw [hlw] at hi ⊢
        obtain ⟨j, d, e1, e2, _, e4⟩ := Wn_at hi
        exact ⟨j, d, e1, e2, e4⟩
      refine extend_lines u (w.heap.size + 1) (w.heap.size + 1 + 1) _ _ false _ (fun _ a b => C a b) _ _ _ hws hpos.1 (by omega) hpos.2 ?_ ?_ ?_
      · intro i hi
        obtain ⟨j, d, e1, e2, e3⟩ := HW i hi
        rw [e3]
        have := BD j d e2
        simp only [wyN]
        omega
      · intro i a b
        have := hM a b
        show -1000000000000 ≤ (C a b).1 ∧ (C a b).1 ≤ 1000000000000
        omega
      · intro v hv i _ hi
        obtain ⟨j, d, e1, e2, e3⟩ := HW i hi
        rw [e3]
        obtain ⟨q, a1, _, _, _, a5⟩ := piB_at hk
        rw [a5]
        have hb2 : Below w.heap.size w v := hb.trans (hv.mono (by omega))
        exact HC v hb2 _ ((j : Int) - 1) q (by omega) (by omega))
    (by have h1 := lwS_len DP (k := nbB L) (Nat.le_refl _)
        rw [n1] at h1
        omega)
    (lw_ok DP n2 (K := 1000000) (by rw [n1]; omega) (fun j d _ e => (BD j d e).1))
  rw [hR] at this
  exact this
theorem least_counts (w : World) {B gp g c1 gs gf gb : Nat} (L : List It) (hps : PS w B gp g c1 gs gf gb L) (ok : isOk L = true) (C : Int → Int → Int × Bool) (hC : ∀ a b, (C a b).2 = true → hasL L a b = true) (hM : ∀ a b, -200000000 ≤ (C a b).1 ∧ (C a b).1 ≤ 200000000) (q1 q2 q3 : Value)
    (HC : ∀ u, Below w.heap.size w u → ∀ (x a b : Int), (-1 ≤ a ∧ a ≤ 60) → (-1 ≤ b ∧ b ≤ 60) → Calls Try.prog 101 #[.int .i64 x, .int .i64 a, .int .i64 b, q1, q2, q3] u fun e u' => e = .returned (.tuple #[.int .i64 (C a b).1, .bool (C a b).2]) ∧ Below u.heap.size u u') :
    Calls Try.prog 98 #[.int .i64 (-1), .func (.func 144) #[] #[.pointer (some ⟨gp, 0, none⟩)], .func (.func 101) #[] #[q1, q2, q3], .bool false] w (RetW w (dpR (gB C) ndB L.length)) := by
  have DP := isDp_lines (L := L) hC
  obtain ⟨n0, n1, n2, n3⟩ := nbB_top ok
  have hl60 := (isOk_iff.1 ok).2.1.2
  have hR := lwR_dp DP n2
  rw [n1] at hR
  have BD : ∀ j d, dpD (gB C) j = some d → d.2.2 ≤ j ∧ -(200000000 * (d.2.2 : Int)) ≤ d.1 ∧ d.1 ≤ 200000000 * d.2.2 := fun j d e => dpD_bd (g := gB C) (M := 200000000) (fun i j n e => gB_bd hM e) (j + 1) (Nat.lt_succ_self j) e
  have := leastWay_i w (-1) 144 101 #[.pointer (some ⟨gp, 0, none⟩)] #[q1, q2, q3] (fun _ a b => C a b) false (plB L) (nbB L)
    (places_seq w L hps ok) (enters_of Try.func144 (by kernel_rfl) rfl)
    (fun k u hk hb hws => by
      have hlen := lwS_len DP (k := k) (by omega)
      have hpk := piB_mono (L := L) (k := k) (m := nbB L) (Nat.le_refl _) (by omega)
      rw [n1] at hpk
      have hlw := lwS_dp DP (k := k) (by omega)
      have hpos := lwS_pos (C := fun _ a b => C a b) (cnt := false) (start := -1) (pl := plB L) (k := k)
      have HW : ∀ i, i < (lwS (fun _ a b => C a b) false (-1) (plB L) k).1.length → ∃ j d, j < piB L k + 1 ∧ dpD (gB C) j = some d ∧ tg (lwS (fun _ a b => C a b) false (-1) (plB L) k).1 i = wyN (gB C) ndB j d := fun i hi => by
        rw [hlw] at hi ⊢
        obtain ⟨j, d, e1, e2, _, e4⟩ := Wn_at hi
        exact ⟨j, d, e1, e2, e4⟩
      refine extend_counts u (w.heap.size + 1) (w.heap.size + 1 + 1) _ _ false _ (fun _ a b => C a b) _ _ _ hws hpos.1 (by omega) hpos.2 ?_ ?_ ?_
      · intro i hi
        obtain ⟨j, d, e1, e2, e3⟩ := HW i hi
        rw [e3]
        have := BD j d e2
        simp only [wyN]
        omega
      · intro i a b
        have := hM a b
        show -1000000000000 ≤ (C a b).1 ∧ (C a b).1 ≤ 1000000000000
        omega
      · intro v hv i _ hi
        obtain ⟨j, d, e1, e2, e3⟩ := HW i hi
        rw [e3]
        obtain ⟨q, a1, _, _, _, a5⟩ := piB_at hk
        rw [a5]
        have hb2 : Below w.heap.size w v := hb.trans (hv.mono (by omega))
        exact HC v hb2 _ ((j : Int) - 1) q (by omega) (by omega))
    (by have h1 := lwS_len DP (k := nbB L) (Nat.le_refl _)
        rw [n1] at h1
        omega)
    (lw_ok DP n2 (K := 1000000) (by rw [n1]; omega) (fun j d _ e => (BD j d e).1))
  rw [hR] at this
  exact this
set_option maxRecDepth 8000 in
set_option maxHeartbeats 4000000 in
theorem BestBreaks_i (w : World) (A : Option Addr) (n c : Nat) (L : List It) (d t : Int) (h : TL w A n L) (hn : n ≤ 1048576) :
    Calls Try.prog 49 #[.slice A n c, .int .i64 d, .int .i64 t] w (RetW w (bbV L d t)) := by
  have ME := hide (measure_i w A n c L h (by omega))
  obtain rfl : n = L.length := h.1
  clear h
  cases hok : isOk L
  · have O := hide (bbV_no (d := d) (t := t) hok)
    rw [hok] at ME
    clear hok
    go_enter Try.func49, Try.ntmps49
    go_wp2_with fail
    (with_reducible refine ME.out.mono ?_)
    rintro e u1 ⟨v, rfl, hv, hv0, hb⟩
    obtain rfl := hv0 (by trivial)
    have HB1 := hide hb
    clear hv hv0 hb
    go_wp2
    refine bodyPost_ret (v := .tuple #[.slice none 0 0, .int .i64 0, .bool false]) (by simp [results, Try.results49, go_sem]) rfl ?_
    exact RetW.no O.out (bl_alloc HB1.out _)
  · have HK := isOk_iff.1 hok
    have HALL := hide HK.1
    have hl60 := HK.2.1
    have HOK := hide hok
    have O := hide (bbV_yes (d := d) (t := t) hok)
    rw [hok] at ME
    rw [O.out]
    obtain ⟨R, hR⟩ : ∃ R, R = dpR (gB fun a b => coL L a b d t) ndB L.length := ⟨_, rfl⟩
    rw [← hR]
    have HR := hide hR
    clear hR
    have CB := hide (fun p q => coL_bd HALL.out p q d t)
    clear HK hok
    go_enter Try.func49, Try.ntmps49
    go_wp2_with fail
    (with_reducible refine ME.out.mono ?_)
    rintro e u1 ⟨v, rfl, hv, hv0, hb⟩
    obtain ⟨g, c1, gs, gf, gb, rfl, hrow, hpr⟩ := hv (by trivial)
    have HPS := hide (ps_made hrow hpr)
    have HB1 := hide (bl_alloc hb (.cells #[.slice (some ⟨g, 0, none⟩) L.length c1, .slice (some ⟨gs, 0, none⟩) (L.length + 1) (L.length + 1), .slice (some ⟨gf, 0, none⟩) (L.length + 1) (L.length + 1), .slice (some ⟨gb, 0, none⟩) (L.length + 1) (L.length + 1)] 92))
    clear hv hv0 hb hrow hpr
    have k0 := HPS.out.k0
    have k1 := HPS.out.k1
    have k2 := HPS.out.k2
    have k3 := HPS.out.k3
    go_upto_region 4 with fail
    obtain ⟨W, hW⟩ : ∃ W, W = u1.alloc (.cells #[.slice (some ⟨g, 0, none⟩) L.length c1, .slice (some ⟨gs, 0, none⟩) (L.length + 1) (L.length + 1), .slice (some ⟨gf, 0, none⟩) (L.length + 1) (L.length + 1), .slice (some ⟨gb, 0, none⟩) (L.length + 1) (L.length + 1)] 92) := ⟨_, rfl⟩
    rw [← hW] at HPS HB1 k0 k1 k2 k3
    have LP := hide (fun (u : World) (hu : Below W.heap.size W u) (b1 b2 b3 b4 bw : Nat) (hp1 : PS u w.heap.size b1 g c1 gs gf gb L) (hp2 : PS u w.heap.size b2 g c1 gs gf gb L) (e3 : u.cell? ⟨b3, 0, none⟩ = some (.func (.func 129) #[] #[.pointer (some ⟨bw, 0, none⟩)])) (e4 : u.cell? ⟨b4, 0, none⟩ = some (.int .i64 t)) (ew : u.cell? ⟨bw, 0, none⟩ = some (.int .i64 d)) =>
      least_lines u L hp1 HOK.out (fun a b => coL L a b d t) cl_has CB.out (.pointer (some ⟨b2, 0, none⟩)) (.pointer (some ⟨b3, 0, none⟩)) (.pointer (some ⟨b4, 0, none⟩)) (fun v hv x a b wa wb => lines1_i v L (hp2.below hv) HALL.out hl60 x a b d t (by omega) (by omega) (keep_cell hv e3) (keep_cell hv e4) (keep_cell hv ew)))
    rw [← HR.out] at LP
    rw [← hW]
    have HWW := hide hW
    clear hW CB O HOK ME HR
    have S0 := bl_drew (bl_refl W)
    refine wp_region_held_drew (S := fun u : World => Below W.heap.size W u) (by kernel_rfl) (S0) (fun hHeld => ?_)
    refine tkY (i := 0) (oi := ?_) (v := ?_) ?_ (by kernel_rfl) ?_ ?_ ?_ (by assumption) ?_; rotate_left 2; (next => simp only [tka, tkb, tkc]; rfl); (next => exact fun _ _ _ h => h); (next => rfl); (next => intro w_ hSw; (try dsimp only at hSw); have k0 := keep_cell hSw k0; have k1 := keep_cell hSw k1; have k2 := keep_cell hSw k2; have k3 := keep_cell hSw k3; go_simp; (try (with_reducible rfl))); (try simp only [Act.put, tkd, tke, tkf])
    refine tkY (i := 2) (oi := ?_) (v := ?_) ?_ (by kernel_rfl) ?_ ?_ ?_ (by assumption) ?_; rotate_left 2; (next => simp only [tka, tkb, tkc]; rfl); (next => exact fun _ _ _ h => h); (next => rfl); (next => intro w_ hSw; (try dsimp only at hSw); have k0 := keep_cell hSw k0; have k1 := keep_cell hSw k1; have k2 := keep_cell hSw k2; have k3 := keep_cell hSw k3; go_simp; (try (with_reducible rfl))); (try simp only [Act.put, tkd, tke, tkf])
    (first | (refine tkY (i := 3) (oi := ?_) (v := ?_) ?_ (by kernel_rfl) ?_ ?_ ?_ (by assumption) ?_; rotate_left 2; (next => simp only [tka, tkb, tkc]; rfl); (next => exact fun _ _ _ h => h); (next => rfl); (next => intro w hSw; (try dsimp only at hSw); go_simp; (try (with_reducible rfl)))) | (refine tkN (i := 3) (oi := ?_) ?_ (by kernel_rfl) ?_ ?_ (by assumption) ?_; rotate_left 1; (next => simp only [tka, tkb, tkc]; rfl); (next => exact fun _ _ _ h => h); (next => rfl))); (try simp only [Act.put, tkd, tke, tkf])
    (first | (refine tkY (i := 5) (oi := ?_) (v := ?_) ?_ (by kernel_rfl) ?_ ?_ ?_ (by assumption) ?_; rotate_left 2; (next => simp only [tka, tkb, tkc]; rfl); (next => exact fun _ _ _ h => h); (next => rfl); (next => intro w hSw; (try dsimp only at hSw); go_simp; (try (with_reducible rfl)))) | (refine tkN (i := 5) (oi := ?_) ?_ (by kernel_rfl) ?_ ?_ (by assumption) ?_; rotate_left 1; (next => simp only [tka, tkb, tkc]; rfl); (next => exact fun _ _ _ h => h); (next => rfl))); (try simp only [Act.put, tkd, tke, tkf])
    refine wpAnyH_ready (rs := [1]) (by kernel_rfl) (by simp) ?_; refine AllReadyH.cons (o := ?_) ?_ (fun K hK => ?_) AllReadyH.nil; rotate_left 1; (next => simp only [List.getElem?_toArray, List.getElem?_cons_succ, List.getElem?_cons_zero]; rfl); go_simp
    go_at_call 99
    (with_reducible refine (places_i _ _ _ _ _).mono ?_)
    rintro e w' ⟨rfl, rfl⟩
    (try go_wp2_with fail); refine hK.out _ _ ((by repeat' (first | exact bl_refl _ | refine bl_drew ?_ | refine bl_alloc ?_ _))) (fun hHeld => ?_); clear hK K; (try simp only [Act.put, List.setIfInBounds_toArray, List.set_cons_zero, List.set_cons_succ])
    refine wpAnyH_ready (rs := [4]) (by kernel_rfl) (by simp) ?_; refine AllReadyH.cons (o := ?_) ?_ (fun K hK => ?_) AllReadyH.nil; rotate_left 1; (next => simp only [List.getElem?_toArray, List.getElem?_cons_succ, List.getElem?_cons_zero]; rfl); go_simp
    go_at_call 83
    (with_reducible refine (sameWidth_i _ _).mono ?_)
    rintro e w' ⟨rfl, rfl⟩
    (try go_wp2_with fail); refine hK.out _ _ ((by repeat' (first | exact bl_refl _ | refine bl_drew ?_ | refine bl_alloc ?_ _))) (fun hHeld => ?_); clear hK K; (try simp only [Act.put, List.setIfInBounds_toArray, List.set_cons_zero, List.set_cons_succ])
    refine wpAnyH_ready (rs := [6]) (by kernel_rfl) (by simp) ?_; refine AllReadyH.cons (o := ?_) ?_ (fun K hK => ?_) AllReadyH.nil; rotate_left 1; (next => simp only [List.getElem?_toArray, List.getElem?_cons_succ, List.getElem?_cons_zero]; rfl); go_simp
    go_at_call 82
    (with_reducible refine (costBy_i _ _ _ _ _ _ _ _).mono ?_)
    rintro e w' ⟨rfl, rfl⟩
    (try go_wp2_with fail); refine hK.out _ _ ((by repeat' (first | exact bl_refl _ | refine bl_drew ?_ | refine bl_alloc ?_ _))) (fun hHeld => ?_); clear hK K; (try simp only [Act.put, List.setIfInBounds_toArray, List.set_cons_zero, List.set_cons_succ])
    refine wpAnyH_ready (rs := [7]) (by kernel_rfl) (by simp) ?_; refine AllReadyH.cons (o := ?_) ?_ (fun K hK => ?_) AllReadyH.nil; rotate_left 1; (next => simp only [List.getElem?_toArray, List.getElem?_cons_succ, List.getElem?_cons_zero]; rfl); go_simp
    go_at_call 98
    (with_reducible refine (LP.out _ ?_ _ _ _ _ (W.heap.size + 1) ?_ ?_ ?_ ?_ ?_).mono ?_)
    · exact (by repeat' (first | exact bl_refl _ | refine bl_drew ?_ | refine bl_alloc ?_ _))
    · have h5 := HPS.out.copy
      refine h5.below ?_
      exact (by repeat' (first | exact bl_refl _ | refine bl_drew ?_ | refine bl_alloc ?_ _))
    · have h5 := ((HPS.out.below (bl_alloc (bl_refl _) (.cells #[.slice (some ⟨g, 0, none⟩) L.length c1, .slice (some ⟨gs, 0, none⟩) (L.length + 1) (L.length + 1), .slice (some ⟨gf, 0, none⟩) (L.length + 1) (L.length + 1), .slice (some ⟨gb, 0, none⟩) (L.length + 1) (L.length + 1)] 92))).below (bl_alloc (bl_refl _) (.cells #[.int .i64 d] 3))).copy
      rw [show ((W.alloc (.cells #[.slice (some ⟨g, 0, none⟩) L.length c1, .slice (some ⟨gs, 0, none⟩) (L.length + 1) (L.length + 1), .slice (some ⟨gf, 0, none⟩) (L.length + 1) (L.length + 1), .slice (some ⟨gb, 0, none⟩) (L.length + 1) (L.length + 1)] 92)).alloc (.cells #[.int .i64 d] 3)).heap.size = W.heap.size + 1 + 1 by simp] at h5
      refine h5.below ?_
      exact (by repeat' (first | exact bl_refl _ | refine bl_drew ?_ | refine bl_alloc ?_ _))
    · simp [go_sem]
    · simp [go_sem]
    · simp [go_sem]
    rintro e u2 hret
    obtain ⟨A2, c2, rfl, ho2, hb⟩ := hret.up (show Below W.heap.size W _ from (by repeat' (first | exact bl_refl _ | refine bl_drew ?_ | refine bl_alloc ?_ _)))
    have HO2 := hide (ho2.more HB1.out.size)
    have HB2 := hide hb
    clear hb ho2
    obtain ⟨R1, R2, R3⟩ := R
    (try go_wp2_with fail); refine hK.out _ _ (HB2.out) (fun hHeld => ?_); clear hK K; (try simp only [Act.put, List.setIfInBounds_toArray, List.set_cons_zero, List.set_cons_succ])
    (first | (refine tkY (i := 8) (oi := ?_) (v := ?_) ?_ (by kernel_rfl) ?_ ?_ ?_ (by assumption) ?_; rotate_left 2; (next => simp only [tka, tkb, tkc]; rfl); (next => exact fun _ _ _ h => h); (next => rfl); (next => intro w hSw; (try dsimp only at hSw); go_simp; (try (with_reducible rfl)))) | (refine tkN (i := 8) (oi := ?_) ?_ (by kernel_rfl) ?_ ?_ (by assumption) ?_; rotate_left 1; (next => simp only [tka, tkb, tkc]; rfl); (next => exact fun _ _ _ h => h); (next => rfl))); (try simp only [Act.put, tkd, tke, tkf])
    (first | (refine tkY (i := 9) (oi := ?_) (v := ?_) ?_ (by kernel_rfl) ?_ ?_ ?_ (by assumption) ?_; rotate_left 2; (next => simp only [tka, tkb, tkc]; rfl); (next => exact fun _ _ _ h => h); (next => rfl); (next => intro w hSw; (try dsimp only at hSw); go_simp; (try (with_reducible rfl)))) | (refine tkN (i := 9) (oi := ?_) ?_ (by kernel_rfl) ?_ ?_ (by assumption) ?_; rotate_left 1; (next => simp only [tka, tkb, tkc]; rfl); (next => exact fun _ _ _ h => h); (next => rfl))); (try simp only [Act.put, tkd, tke, tkf])
    (first | (refine tkY (i := 10) (oi := ?_) (v := ?_) ?_ (by kernel_rfl) ?_ ?_ ?_ (by assumption) ?_; rotate_left 2; (next => simp only [tka, tkb, tkc]; rfl); (next => exact fun _ _ _ h => h); (next => rfl); (next => intro w hSw; (try dsimp only at hSw); go_simp; (try (with_reducible rfl)))) | (refine tkN (i := 10) (oi := ?_) ?_ (by kernel_rfl) ?_ ?_ (by assumption) ?_; rotate_left 1; (next => simp only [tka, tkb, tkc]; rfl); (next => exact fun _ _ _ h => h); (next => rfl))); (try simp only [Act.put, tkd, tke, tkf])
    (first | (refine tkY (i := 11) (oi := ?_) (v := ?_) ?_ (by kernel_rfl) ?_ ?_ ?_ (by assumption) ?_; rotate_left 2; (next => simp only [tka, tkb, tkc]; rfl); (next => exact fun _ _ _ h => h); (next => rfl); (next => intro w hSw; (try dsimp only at hSw); go_simp; (try (with_reducible rfl)))) | (refine tkN (i := 11) (oi := ?_) ?_ (by kernel_rfl) ?_ ?_ (by assumption) ?_; rotate_left 1; (next => simp only [tka, tkb, tkc]; rfl); (next => exact fun _ _ _ h => h); (next => rfl))); (try simp only [Act.put, tkd, tke, tkf])
    (first | (refine tkY (i := 12) (oi := ?_) (v := ?_) ?_ (by kernel_rfl) ?_ ?_ ?_ (by assumption) ?_; rotate_left 2; (next => simp only [tka, tkb, tkc]; rfl); (next => exact fun _ _ _ h => h); (next => rfl); (next => intro w hSw; (try dsimp only at hSw); go_simp; (try (with_reducible rfl)))) | (refine tkN (i := 12) (oi := ?_) ?_ (by kernel_rfl) ?_ ?_ (by assumption) ?_; rotate_left 1; (next => simp only [tka, tkb, tkc]; rfl); (next => exact fun _ _ _ h => h); (next => rfl))); (try simp only [Act.put, tkd, tke, tkf])
    (first | (refine tkY (i := 13) (oi := ?_) (v := ?_) ?_ (by kernel_rfl) ?_ ?_ ?_ (by assumption) ?_; rotate_left 2; (next => simp only [tka, tkb, tkc]; rfl); (next => exact fun _ _ _ h => h); (next => rfl); (next => intro w hSw; (try dsimp only at hSw); go_simp; (try (with_reducible rfl)))) | (refine tkN (i := 13) (oi := ?_) ?_ (by kernel_rfl) ?_ ?_ (by assumption) ?_; rotate_left 1; (next => simp only [tka, tkb, tkc]; rfl); (next => exact fun _ _ _ h => h); (next => rfl))); (try simp only [Act.put, tkd, tke, tkf])
    refine wpAnyH_done (by kernel_rfl) ?_ _
    go_wp2
    refine bodyPost_ret (v := .tuple #[.slice A2 R1.length c2, .int .i64 R2, .bool R3]) (by simp [results, Try.results49, go_sem]) rfl ?_
    exact ⟨A2, c2, rfl, HO2.out, bl_call HB2.out HB1.out⟩
end Go.Proofs.Ytafddofajfcffaa

/- The model's table of least costs of lines. -/
namespace Go.Proofs.Ytafddofajfcffaa
open Go.ChangeShapes Go.WideShapes Go.ChangeAt Go.RowKit
set_option linter.unusedVariables false
set_option linter.unusedSimpArgs false
set_option maxRecDepth 10000

/-- The table before the k-th step for the node t. -/
def tbA (g : Nat → Nat → Option Int) (t k j : Nat) : Option Dn := if j < t then dpD g j else if j = t then bst (dpD g) g t k else none
section
variable {g : Nat → Nat → Option Int}
theorem tbA_lt {t k j : Nat} (h : j < t) : tbA g t k j = dpD g j := if_pos h
theorem tbA_at {t k : Nat} : tbA g t k t = bst (dpD g) g t k := by unfold tbA; rw [if_neg (by omega), if_pos rfl]
theorem tbA_next {t : Nat} (h : 0 < t) (j : Nat) : tbA g t t j = tbA g (t + 1) 0 j := by
  unfold tbA
  rcases (by omega : j < t ∨ j = t ∨ j = t + 1 ∨ t + 1 < j) with e | e | e | e
  · rw [if_pos e, if_pos (by omega)]
  · subst e
    rw [if_neg (by omega), if_pos rfl, if_pos (by omega), dpD_succ h]
  · subst e
    rw [if_neg (by omega), if_neg (by omega), if_neg (by omega), if_pos rfl]
    rfl
  · rw [if_neg (by omega), if_neg (by omega), if_neg (by omega), if_neg (by omega)]
theorem tbA_same {t k : Nat} (h : bst (dpD g) g t (k + 1) = bst (dpD g) g t k) (j : Nat) : tbA g t k j = tbA g t (k + 1) j := by
  unfold tbA
  rw [h]
theorem tbA_put {t k : Nat} {d : Dn} (h : bst (dpD g) g t (k + 1) = some d) (j : Nat) : tbA g t (k + 1) j = if j = t then some d else tbA g t k j := by
  unfold tbA
  rw [h]
  rcases (by omega : j < t ∨ j = t ∨ t < j) with e | e | e
  · rw [if_pos e, if_neg (by omega), if_pos e]
  · subst e
    rw [if_neg (by omega), if_pos rfl, if_pos rfl]
  · rw [if_neg (by omega), if_neg (by omega), if_neg (by omega), if_neg (by omega), if_neg (by omega)]
theorem tbA_first (j : Nat) : (tbA g 1 0 j) = if j = 0 then some (0, 0, 0) else none := by
  unfold tbA
  rcases (by omega : j = 0 ∨ j = 1 ∨ 1 < j) with e | e | e
  · subst e; rfl
  · subst e; rfl
  · rw [if_neg (by omega), if_neg (by omega), if_neg (by omega)]
end
theorem tbA_skip {g : Nat → Nat → Option Int} {t : Nat} (h : dpD g t = none) (j : Nat) : tbA g t 0 j = tbA g (t + 1) 0 j := by
  unfold tbA
  rcases (by omega : j < t ∨ j = t ∨ j = t + 1 ∨ t + 1 < j) with e | e | e | e
  · rw [if_pos e, if_pos (by omega)]
  · subst e
    rw [if_neg (by omega), if_pos rfl, if_pos (by omega), h]
    rfl
  · subst e
    rw [if_neg (by omega), if_neg (by omega), if_neg (by omega), if_pos rfl]
    rfl
  · rw [if_neg (by omega), if_neg (by omega), if_neg (by omega), if_neg (by omega)]
theorem tbA_start {g : Nat → Nat → Option Int} (j : Nat) : tbA g 1 0 (j + 1) = none := by
  unfold tbA
  rw [if_neg (by omega)]
  split <;> rfl
def csE (d : Option Dn) : Int := match d with
  | some d => d.1
  | none => 0
def bsE (d : Option Dn) : Int := match d with
  | some d => (d.2.1 : Int) - 1
  | none => 0
/-- Three arrays that hold a table of items: item j is the node j + 1. -/
structure DpB (u : World) (c0 n : Nat) (ti tb : TypeId) (st : Nat → Option Dn) : Prop where
  rc : u.rowIs c0 ti n (fun j => .int .i64 (csE (st (j + 1))))
  rb : u.rowIs (c0 + 1) ti n (fun j => .int .i64 (bsE (st (j + 1))))
  rk : u.rowIs (c0 + 1 + 1) tb n (fun j => .bool (st (j + 1)).isSome)
section
variable {u u' : World} {c0 n m : Nat} {ti tb : TypeId} {st st' : Nat → Option Dn}
theorem DpB.below (h : DpB u c0 n ti tb st) (hb : Below m u u') (hm : u.heap.size ≤ m) : DpB u' c0 n ti tb st := by
  have hb := hb.mono hm
  exact ⟨h.rc.of_block (hb.block _ h.rc.lt), h.rb.of_block (hb.block _ h.rb.lt), h.rk.of_block (hb.block _ h.rk.lt)⟩
theorem DpB.congr (h : DpB u c0 n ti tb st) (e : ∀ j, st (j + 1) = st' (j + 1)) : DpB u c0 n ti tb st' :=
  ⟨h.rc.congr (fun i _ => by rw [e]), h.rb.congr (fun i _ => by rw [e]), h.rk.congr (fun i _ => by rw [e])⟩
theorem DpB.put (h : DpB u c0 n ti tb st) {t : Nat} (d : Dn) (z : Int) (hz : z = (d.2.1 : Int) - 1) (e : ∀ j, st' j = if j = t + 1 then some d else st j) : DpB (((u.setCell ⟨c0, t, none⟩ (.int .i64 d.1)).setCell ⟨c0 + 1, t, none⟩ (.int .i64 z)).setCell ⟨c0 + 1 + 1, t, none⟩ (.bool true)) c0 n ti tb st' := by
  subst hz
  have e' : ∀ j, st' (j + 1) = if j = t then some d else st (j + 1) := fun j => by
    rw [e]
    by_cases hj : j = t
    · rw [if_pos hj, if_pos (by omega)]
    · rw [if_neg hj, if_neg (by omega)]
  constructor
  · refine (((h.rc.set t _).setOther (a := ⟨c0 + 1, t, none⟩) (by show c0 ≠ c0 + 1; omega) _).setOther (a := ⟨c0 + 1 + 1, t, none⟩) (by show c0 ≠ c0 + 1 + 1; omega) _).congr (fun i _ => ?_)
    rw [e']
    split <;> rfl
  · refine (((h.rb.setOther (a := ⟨c0, t, none⟩) (by show c0 + 1 ≠ c0; omega) _).set t _).setOther (a := ⟨c0 + 1 + 1, t, none⟩) (by show c0 + 1 ≠ c0 + 1 + 1; omega) _).congr (fun i _ => ?_)
    rw [e']
    split <;> rfl
  · refine (((h.rk.setOther (a := ⟨c0, t, none⟩) (by show c0 + 1 + 1 ≠ c0; omega) _).setOther (a := ⟨c0 + 1, t, none⟩) (by show c0 + 1 + 1 ≠ c0 + 1; omega) _).set t _).congr (fun i _ => ?_)
    rw [e']
    split <;> rfl
theorem DpB.cells (h : DpB u c0 n ti tb st) {j : Nat} (hj : j < n) : u.cell? ⟨c0, j, none⟩ = some (.int .i64 (csE (st (j + 1)))) ∧ u.cell? ⟨c0 + 1, j, none⟩ = some (.int .i64 (bsE (st (j + 1)))) ∧ u.cell? ⟨c0 + 1 + 1, j, none⟩ = some (.bool (st (j + 1)).isSome) := ⟨h.rc.cell hj, h.rb.cell hj, h.rk.cell hj⟩
theorem DpB.fz (h : DpB u c0 n ti tb st) (j : Nat) : u.frozen? ⟨c0, j, none⟩ = false ∧ u.frozen? ⟨c0 + 1, j, none⟩ = false ∧ u.frozen? ⟨c0 + 1 + 1, j, none⟩ = false := ⟨h.rc.frozen j, h.rb.frozen j, h.rk.frozen j⟩
end
section
variable {L : List It} {C : Int → Int → Int × Bool} {M : Int}
theorem bstB_bd (hM : ∀ a b, -200000000 ≤ (C a b).1 ∧ (C a b).1 ≤ 200000000) {t k : Nat} {d : Dn} (hk : k ≤ 61) (e : bst (dpD (gB C)) (gB C) t k = some d) : -100000000000 ≤ d.1 ∧ d.1 ≤ 100000000000 := by
  obtain ⟨h1, x, n, h2, h3, h4, h5⟩ := bst_from e
  have := dpD_bd (g := gB C) (M := 200000000) (fun i j n e => gB_bd hM e) (d.2.1 + 1) (Nat.lt_succ_self _) h2
  have := gB_bd hM h3
  omega
theorem dpB_bd (hM : ∀ a b, -200000000 ≤ (C a b).1 ∧ (C a b).1 ≤ 200000000) {k : Nat} {d : Dn} (hk : k ≤ 61) (e : dpD (gB C) k = some d) : (-100000000000 ≤ d.1 ∧ d.1 ≤ 100000000000) ∧ d.2.2 ≤ k := by
  have := dpD_bd (g := gB C) (M := 200000000) (fun i j n e => gB_bd hM e) (k + 1) (Nat.lt_succ_self _) e
  omega
theorem gB_at {f : Int} {k q : Nat} (hf : f = (k : Int) - 1) (h : (C f q).2 = true) : gB C k (q + 1) = some (C f q).1 := by
  have := gB_yes (C := C) (i := k) (j := q + 1) (by rw [← hf, show (((q + 1 : Nat) : Int)) - 1 = (q : Int) by omega]; exact h)
  rw [← hf, show (((q + 1 : Nat) : Int)) - 1 = (q : Int) by omega] at this
  exact this
theorem gB_not {f : Int} {k q : Nat} (hf : f = (k : Int) - 1) (h : (C f q).2 = false) : gB C k (q + 1) = none :=
  gB_no (by rw [← hf, show (((q + 1 : Nat) : Int)) - 1 = (q : Int) by omega]; exact h)
end
theorem okL_q {L : List It} {a b : Int} (h : isOk L = true) : okL L a b = hasL L a b := by simp [okL, h]
theorem bool_infoB : (Try.prog.info? 4).map (fun i => (i.zero, i.size, i.bytes)) = some (some (.bool false), 1, 1) := by kernel_rfl
set_option maxHeartbeats 8000000 in
theorem bestTable_s (w : World) (A : Option Addr) (c : Nat) (L : List It) (d t : Int) (h : TL w A L.length L) (hok : isOk L = true) (hd : inB d 1 10000 = true) (ht : inB t 0 10000 = true) :
    Calls Try.prog 97 #[.slice A L.length c, .int .i64 d, .int .i64 t] w fun e w' => e = .returned (.tuple #[.slice (some ⟨w.heap.size, 0, none⟩) L.length L.length, .slice (some ⟨w.heap.size + 1, 0, none⟩) L.length L.length, .slice (some ⟨w.heap.size + 1 + 1, 0, none⟩) L.length L.length]) ∧ DpB w' w.heap.size L.length 3 4 (dpD (gB (fun a b => coL L a b d t))) ∧ Below w.heap.size w w' := by
  obtain ⟨i0, hi0, jz0, jz1, jz2⟩ := info_parts int_info
  obtain ⟨i1, hi1, kz0, kz1, kz2⟩ := info_parts bool_infoB
  have HI := hide h
  obtain ⟨hall, ⟨l0, l1⟩, _⟩ := isOk_iff.1 hok
  have HALL := hide hall
  have HOK := hide hok
  have CB := hide (fun a b => coL_bd hall a b d t)
  have HD := hide hd
  have HT := hide ht
  clear h hall hok hd ht
  go_enter Try.func97, Try.ntmps97
  go_upto_region 4 with (first | (refine wpList_make_row _ rfl _ _ _ rfl 3 i0 (.int .i64 0) Try.underlying24 hi0 jz0 jz1 rfl .i64 .i64 L.length rfl rfl (by rw [jz2]; omega) (by omega) ?_) | (refine wpList_make_row _ rfl _ _ _ rfl 4 i1 (.bool false) Try.underlying117 hi1 kz0 kz1 rfl .i64 .i64 L.length rfl rfl (by rw [kz2]; omega) (by omega) ?_) | fail)
  have D0 : DpB (((w.alloc (.cells (madeCells #[Value.int .i64 0] L.length) 3)).alloc (.cells (madeCells #[Value.int .i64 0] L.length) 3)).alloc (.cells (madeCells #[Value.bool false] L.length) 4)) w.heap.size L.length 3 4 (tbA (gB (fun a b => coL L a b d t)) 1 0) := by
    have a1 := World.rowIs_made w (.int .i64 0) L.length 3
    have a2 := World.rowIs_made (w.alloc (.cells (madeCells #[Value.int .i64 0] L.length) 3)) (.int .i64 0) L.length 3
    have a3 := World.rowIs_made ((w.alloc (.cells (madeCells #[Value.int .i64 0] L.length) 3)).alloc (.cells (madeCells #[Value.int .i64 0] L.length) 3)) (.bool false) L.length 4
    have e1 : ∀ (u : World) (o : Obj), (u.alloc o).heap.size = u.heap.size + 1 := fun u o => by simp
    rw [e1] at a2
    rw [e1, e1] at a3
    exact ⟨((a1.alloc _).alloc _).congr (fun i _ => by rw [tbA_start]; rfl), (a2.alloc _).congr (fun i _ => by rw [tbA_start]; rfl), a3.congr (fun i _ => by rw [tbA_start]; rfl)⟩
  have HB0 : Below w.heap.size w (((w.alloc (.cells (madeCells #[Value.int .i64 0] L.length) 3)).alloc (.cells (madeCells #[Value.int .i64 0] L.length) 3)).alloc (.cells (madeCells #[Value.bool false] L.length) 4)) := by repeat' (first | exact bl_refl _ | refine bl_alloc ?_ _)
  obtain ⟨u0, hu0⟩ : ∃ u, u = (((w.alloc (.cells (madeCells #[Value.int .i64 0] L.length) 3)).alloc (.cells (madeCells #[Value.int .i64 0] L.length) 3)).alloc (.cells (madeCells #[Value.bool false] L.length) 4)) := ⟨_, rfl⟩
  rw [← hu0] at D0 HB0 ⊢
  clear hu0
  have S0 := hide D0
  have B0 := hide HB0
  clear D0 HB0
  go_wp2
  go_loopw [12] (fun i u => ∃ q : Nat, q ≤ L.length ∧ i = .int .i64 q ∧ DpB u w.heap.size L.length 3 4 (tbA (gB (fun a b => coL L a b d t)) (q + 1) 0) ∧ Below w.heap.size w u) (fun i _ => L.length - (intOf i).toNat)
  case atStart => exact ⟨0, by omega, rfl, S0.out, B0.out⟩
  case round =>
    obtain ⟨q, hq, rfl, hst, hbl⟩ := hrel
    have HST := hide hst
    have HBL := hide hbl
    clear hst hbl S0 B0
    by_cases hlt : q < L.length
    · have IB := isBreak_s wr A c L (HI.out.below HBL.out) q hlt (by omega)
      have SKIP := hide (fun (h : mayE L q = false) => tbA_skip (dpB_none (L := L) (C := fun a b => coL L a b d t) (fun a b h => (coL_has h).1) (m := q + 1) (by omega) (by rw [Nat.add_sub_cancel]; exact h)))
      obtain ⟨fb0, hfb⟩ : ∃ fb, fb = mayE L q := ⟨_, rfl⟩
      rw [← hfb] at IB SKIP
      have HIB := hide IB
      clear IB hfb
      cases fb0
      · have N := hide (SKIP.out rfl)
        clear SKIP
        go_wp2_with fail; (with_reducible refine HIB.out.mono ?_); rintro e w' ⟨rfl, rfl⟩; have B1 := HBL; have S1 := HST
        go_wp2
        go_roundw
        case rel => exact ⟨q + 1, by omega, by go_num, S1.out.congr (fun j => N.out (j + 1)), B1.out⟩
        case measure => simp [intOf] <;> omega
      · clear SKIP
        go_wp2_with fail; (with_reducible refine HIB.out.mono ?_); rintro e w' ⟨rfl, rfl⟩; have B1 := HBL; have S1 := HST
        go_wp2
        go_loopw [13] (fun i u => ∃ (k : Nat) (f : Int), k ≤ q + 1 ∧ f = (k : Int) - 1 ∧ i = .int .i64 f ∧ DpB u w.heap.size L.length 3 4 (tbA (gB (fun a b => coL L a b d t)) (q + 1) k) ∧ Below w.heap.size w u) (fun i _ => ((q : Int) - intOf i).toNat)
        case atStart => exact ⟨0, -1, Nat.zero_le _, rfl, rfl, S1.out, B1.out⟩
        case round =>
          obtain ⟨k, f, hk, hf, rfl, hst, hbl⟩ := hrel
          have hfa : f ≤ (k : Int) - 1 := by omega
          have hfb : (k : Int) - 1 ≤ f := by omega
          have HF := hide hf
          clear hf
          have HS := hide hst
          have HB := hide hbl
          clear HST HBL S1 B1 HIB hst hbl
          by_cases hkt : k < q + 1
          · have hfq : f < (q : Int) := by omega
            have hqL : (q : Int) < (L.length : Int) := by omega
            have VL := validLine_s wr A L.length c L (HI.out.below HB.out) (by omega) f q (by omega) (by omega)
            rw [okL_q HOK.out] at VL
            have NOG := hide (fun (h : (coL L f q d t).2 = false) => gB_not (C := fun a b => coL L a b d t) HF.out h)
            have YESG := hide (fun (h : (coL L f q d t).2 = true) => gB_at (C := fun a b => coL L a b d t) HF.out h)
            have HASN := hide (fun (h : hasL L f q = false) => show (coL L f q d t).2 = false from by
              cases e : (coL L f q d t).2
              · rfl
              · rw [(coL_has e).1] at h; cases h)
            have LC := hide (fun (hln : hasL L f q = true) (u : World) (hu : TL u A L.length L) => lineCost_s u A c L hu HALL.out l1 f k q (by omega) d t hln HD.out HT.out)
            have vb := CB.out f q
            have BS := hide (show bst (dpD (gB (fun a b => coL L a b d t))) (gB (fun a b => coL L a b d t)) (q + 1) (k + 1) = rx (bst (dpD (gB (fun a b => coL L a b d t))) (gB (fun a b => coL L a b d t)) (q + 1) k) (dpD (gB (fun a b => coL L a b d t)) k) (gB (fun a b => coL L a b d t) k (q + 1)) k from rfl)
            have SAME := hide (fun h => tbA_same (g := gB (fun a b => coL L a b d t)) (t := q + 1) (k := k) h)
            have PUTA := hide (fun (x : Dn) h => tbA_put (g := gB (fun a b => coL L a b d t)) (t := q + 1) (k := k) (d := x) h)
            have sa := tbA_at (g := gB (fun a b => coL L a b d t)) (t := q + 1) (k := k)
            have BB := hide (fun y hy => bstB_bd (C := fun a b => coL L a b d t) CB.out (t := q + 1) (k := k) (d := y) (by omega) hy)
            have DBK := hide (fun y hy => (dpB_bd (C := fun a b => coL L a b d t) CB.out (k := k) (d := y) (by omega) hy).1)
            obtain ⟨v, hv⟩ : ∃ v, v = (coL L f q d t).1 := ⟨_, rfl⟩
            obtain ⟨fl, hfl⟩ : ∃ v, v = (coL L f q d t).2 := ⟨_, rfl⟩
            obtain ⟨hl, hhl⟩ : ∃ v, v = hasL L f q := ⟨_, rfl⟩
            rw [← hv, ← hfl, ← hhl] at LC
            rw [← hfl] at NOG YESG HASN
            rw [← hv] at YESG vb
            rw [← hhl] at VL HASN
            have HVL := hide VL
            clear hv hfl hhl VL
            have dkx : k = 0 ∨ 0 < k := Nat.eq_zero_or_pos k
            rcases dkx with hk0 | hk0
            · obtain rfl : f = -1 := by omega
              have D0 := hide (show dpD (gB (fun a b => coL L a b d t)) k = some (0, 0, 0) by rw [hk0]; exact dpD_zero)
              have A0 := hide (show bst (dpD (gB (fun a b => coL L a b d t))) (gB (fun a b => coL L a b d t)) (q + 1) k = none by rw [hk0]; rfl)
              have hfn : ¬ ((0 : Int) ≤ -1) := by omega
              have hfd : decide ((0 : Int) ≤ -1) = false := decide_eq_false hfn
              cases hl
              · have N := hide (fun j => SAME.out (by rw [BS.out, NOG.out (HASN.out rfl), rx_no_v]) (j + 1))
                clear NOG YESG HASN LC vb BS SAME PUTA sa BB DBK D0 A0
                go_wp2_with fail; (with_reducible refine HVL.out.mono ?_); rintro e u2 ⟨rfl, hb⟩; have B2 := hide (bl_call hb HB.out); have S2 := hide (HS.out.below hb (Nat.le_refl _)); clear hb
                go_wp2
                go_roundw
                case rel => exact ⟨k + 1, 0, by omega, by omega, by first | rfl | go_num, S2.out.congr N.out, B2.out⟩
                case measure => simp [intOf] <;> omega
              · have HLC := hide (LC.out rfl)
                clear LC HASN
                cases fl
                · have N := hide (fun j => SAME.out (by rw [BS.out, NOG.out rfl, rx_no_v]) (j + 1))
                  clear NOG YESG vb BS SAME PUTA sa BB DBK D0 A0
                  go_wp2_with fail; (with_reducible refine HVL.out.mono ?_); rintro e u2 ⟨rfl, hb⟩; have B2 := hide (bl_call hb HB.out); have S2 := hide (HS.out.below hb (Nat.le_refl _)); clear hb
                  go_wp2_with fail; (with_reducible refine (HLC.out _ (HI.out.below B2.out)).mono ?_); rintro e u3 ⟨rfl, hb⟩; have B3 := hide (bl_call hb B2.out); have S3 := hide (S2.out.below hb (Nat.le_refl _)); clear hb
                  go_wp2
                  go_roundw
                  case rel => exact ⟨k + 1, 0, by omega, by omega, by first | rfl | go_num, S3.out.congr N.out, B3.out⟩
                  case measure => simp [intOf] <;> omega
                · have P := hide (fun j => PUTA.out (v, 0, 1) (by rw [BS.out, A0.out, D0.out, YESG.out rfl, rx_new, hk0]; simp) j)
                  have hz : (-1 : Int) = (((v, 0, 1) : Dn).2.1 : Int) - 1 := by simp
                  have HZ := hide hz
                  have A1 := hide (show tbA (gB (fun a b => coL L a b d t)) (q + 1) k (q + 1) = none from sa.trans A0.out)
                  clear NOG YESG BS SAME PUTA sa BB DBK D0 A0 hz
                  go_wp2_with fail; (with_reducible refine HVL.out.mono ?_); rintro e u2 ⟨rfl, hb⟩; have B2 := hide (bl_call hb HB.out); have S2 := hide (HS.out.below hb (Nat.le_refl _)); clear hb
                  go_wp2_with fail; (with_reducible refine (HLC.out _ (HI.out.below B2.out)).mono ?_); rintro e u3 ⟨rfl, hb⟩; have B3 := hide (bl_call hb B2.out); have S3 := hide (S2.out.below hb (Nat.le_refl _)); clear hb
                  obtain ⟨ct, bt, kt⟩ := S3.out.cells (j := q) (by omega); obtain ⟨fc, fb, fk⟩ := S3.out.fz q
                  rw [A1.out] at kt
                  replace kt : u3.cell? ⟨w.heap.size + 1 + 1, q, none⟩ = some (.bool false) := kt
                  have S4 := hide (S3.out.put (t := q) (v, 0, 1) (-1) HZ.out P.out)
                  have B4 := hide (bl_set (bl_set (bl_set B3.out (p := ⟨w.heap.size, q, none⟩) (Nat.le_refl _) (.int .i64 (v))) (p := ⟨w.heap.size + 1, q, none⟩) (show w.heap.size ≤ w.heap.size + 1 by omega) (.int .i64 (-1))) (p := ⟨w.heap.size + 1 + 1, q, none⟩) (show w.heap.size ≤ w.heap.size + 1 + 1 by omega) (.bool true))
                  go_wp2
                  go_roundw
                  case rel => exact ⟨k + 1, 0, by omega, by omega, by first | rfl | go_num, S4.out, B4.out⟩
                  case measure => simp [intOf] <;> omega
            · obtain ⟨m, rfl⟩ : ∃ m, k = m + 1 := ⟨k - 1, by omega⟩
              obtain rfl : f = (m : Int) := by omega
              have hmq : m < q := by omega
              have hmL : (m : Int) < (L.length : Int) := by omega
              have hf0 : (0 : Int) ≤ (m : Int) := by omega
              obtain ⟨cm, bm, km⟩ := HS.out.cells (j := m) (by omega)
              have sk := tbA_lt (g := gB (fun a b => coL L a b d t)) (t := q + 1) (k := m + 1) (j := m + 1) (by omega)
              cases dk : dpD (gB (fun a b => coL L a b d t)) (m + 1) with
              | none =>
                have N := hide (fun j => SAME.out (by rw [BS.out, dk, rx_no_d]) (j + 1))
                rw [sk, dk] at km
                replace km : wr.cell? ⟨w.heap.size + 1 + 1, m, none⟩ = some (.bool false) := km
                clear NOG YESG HASN LC vb BS SAME PUTA sa BB DBK cm bm sk dk HVL hk0
                go_wp2
                go_roundw
                case rel => exact ⟨m + 1 + 1, (m : Int) + 1, by omega, by omega, by go_num, HS.out.congr N.out, HB.out⟩
                case measure => simp [intOf] <;> omega
              | some x =>
                have xb := DBK.out x dk
                rw [sk, dk] at km cm
                replace km : wr.cell? ⟨w.heap.size + 1 + 1, m, none⟩ = some (.bool true) := km
                replace cm : wr.cell? ⟨w.heap.size, m, none⟩ = some (.int .i64 x.1) := cm
                have DK := hide dk
                have SK := hide (sk.trans dk)
                clear bm sk dk DBK
                cases hl
                · have N := hide (fun j => SAME.out (by rw [BS.out, NOG.out (HASN.out rfl), rx_no_v]) (j + 1))
                  clear NOG YESG HASN LC vb BS SAME PUTA sa BB cm hk0
                  go_wp2_with fail; (with_reducible refine HVL.out.mono ?_); rintro e u2 ⟨rfl, hb⟩; have B2 := hide (bl_call hb HB.out); have S2 := hide (HS.out.below hb (Nat.le_refl _)); clear hb
                  go_wp2
                  go_roundw
                  case rel => exact ⟨m + 1 + 1, (m : Int) + 1, by omega, by omega, by go_num, S2.out.congr N.out, B2.out⟩
                  case measure => simp [intOf] <;> omega
                · have HLC := hide (LC.out rfl)
                  have ws : IntKind.i64.wrap (v + x.1) = v + x.1 := IntWalk.i64_in _ (by omega)
                  obtain ⟨xv, hxv⟩ : ∃ z, z = x.1 := ⟨_, rfl⟩
                  have HXV := hide hxv
                  rw [← hxv] at cm ws xb
                  clear LC HASN hxv hk0
                  cases fl
                  · have N := hide (fun j => SAME.out (by rw [BS.out, NOG.out rfl, rx_no_v]) (j + 1))
                    clear NOG YESG BS SAME PUTA sa BB
                    go_wp2_with fail; (with_reducible refine HVL.out.mono ?_); rintro e u2 ⟨rfl, hb⟩; have B2 := hide (bl_call hb HB.out); have S2 := hide (HS.out.below hb (Nat.le_refl _)); clear hb
                    have cm := (S2.out.cells (j := m) (by omega)).1
                    rw [SK.out] at cm
                    replace cm : u2.cell? ⟨w.heap.size, m, none⟩ = some (.int .i64 xv) := by rw [HXV.out]; exact cm
                    go_wp2_with fail; (with_reducible refine (HLC.out _ (HI.out.below B2.out)).mono ?_); rintro e u3 ⟨rfl, hb⟩; have B3 := hide (bl_call hb B2.out); have S3 := hide (S2.out.below hb (Nat.le_refl _)); clear hb
                    have cm := (S3.out.cells (j := m) (by omega)).1
                    rw [SK.out] at cm
                    replace cm : u3.cell? ⟨w.heap.size, m, none⟩ = some (.int .i64 xv) := by rw [HXV.out]; exact cm
                    go_wp2
                    go_roundw
                    case rel => exact ⟨m + 1 + 1, (m : Int) + 1, by omega, by omega, by go_num, S3.out.congr N.out, B3.out⟩
                    case measure => simp [intOf] <;> omega
                  · have BX := hide (show bst (dpD (gB (fun a b => coL L a b d t))) (gB (fun a b => coL L a b d t)) (q + 1) (m + 1 + 1) = rx (bst (dpD (gB (fun a b => coL L a b d t))) (gB (fun a b => coL L a b d t)) (q + 1) (m + 1)) (some x) (some v) (m + 1) by rw [BS.out, YESG.out rfl, DK.out])
                    have HZ := hide (show (m : Int) = (((v + xv, m + 1, x.2.2 + 1) : Dn).2.1 : Int) - 1 by simp)
                    clear BS YESG NOG
                    cases dt : bst (dpD (gB (fun a b => coL L a b d t))) (gB (fun a b => coL L a b d t)) (q + 1) (m + 1) with
                    | none =>
                      have P := hide (fun j => PUTA.out (v + xv, m + 1, x.2.2 + 1) (by rw [BX.out, dt, rx_new, HXV.out, Int.add_comm]) j)
                      have A1 := hide (sa.trans dt)
                      clear BX SAME PUTA sa BB dt
                      go_wp2_with fail; (with_reducible refine HVL.out.mono ?_); rintro e u2 ⟨rfl, hb⟩; have B2 := hide (bl_call hb HB.out); have S2 := hide (HS.out.below hb (Nat.le_refl _)); clear hb
                      go_wp2_with fail; (with_reducible refine (HLC.out _ (HI.out.below B2.out)).mono ?_); rintro e u3 ⟨rfl, hb⟩; have B3 := hide (bl_call hb B2.out); have S3 := hide (S2.out.below hb (Nat.le_refl _)); clear hb
                      have cm := (S3.out.cells (j := m) (by omega)).1; rw [SK.out] at cm; replace cm : u3.cell? ⟨w.heap.size, m, none⟩ = some (.int .i64 xv) := by rw [HXV.out]; exact cm
                      obtain ⟨ct, bt, kt⟩ := S3.out.cells (j := q) (by omega); obtain ⟨fc, fb, fk⟩ := S3.out.fz q
                      rw [A1.out] at kt
                      replace kt : u3.cell? ⟨w.heap.size + 1 + 1, q, none⟩ = some (.bool false) := kt
                      have S4 := hide (S3.out.put (t := q) (v + xv, m + 1, x.2.2 + 1) (m : Int) HZ.out P.out)
                      have B4 := hide (bl_set (bl_set (bl_set B3.out (p := ⟨w.heap.size, q, none⟩) (Nat.le_refl _) (.int .i64 (v + xv))) (p := ⟨w.heap.size + 1, q, none⟩) (show w.heap.size ≤ w.heap.size + 1 by omega) (.int .i64 ((m : Int)))) (p := ⟨w.heap.size + 1 + 1, q, none⟩) (show w.heap.size ≤ w.heap.size + 1 + 1 by omega) (.bool true))
                      go_wp2
                      go_roundw
                      case rel => exact ⟨m + 1 + 1, (m : Int) + 1, by omega, by omega, by go_num, S4.out, B4.out⟩
                      case measure => simp [intOf] <;> omega
                    | some y =>
                      have A1 := hide (sa.trans dt)
                      obtain ⟨yv, hyv⟩ : ∃ z, z = y.1 := ⟨_, rfl⟩
                      have HYV := hide hyv
                      have yb := BB.out y dt
                      rw [← hyv] at yb
                      by_cases hlq : v + xv < yv
                      · have P := hide (fun j => PUTA.out (v + xv, m + 1, x.2.2 + 1) (by rw [BX.out, dt, rx_less (by rw [← HXV.out, ← HYV.out]; omega), HXV.out, Int.add_comm]) j)
                        have hdd : decide (v + xv < yv) = true := decide_eq_true hlq
                        clear BX SAME PUTA sa BB dt hyv
                        go_wp2_with fail; (with_reducible refine HVL.out.mono ?_); rintro e u2 ⟨rfl, hb⟩; have B2 := hide (bl_call hb HB.out); have S2 := hide (HS.out.below hb (Nat.le_refl _)); clear hb
                        go_wp2_with fail; (with_reducible refine (HLC.out _ (HI.out.below B2.out)).mono ?_); rintro e u3 ⟨rfl, hb⟩; have B3 := hide (bl_call hb B2.out); have S3 := hide (S2.out.below hb (Nat.le_refl _)); clear hb
                        have cm := (S3.out.cells (j := m) (by omega)).1; rw [SK.out] at cm; replace cm : u3.cell? ⟨w.heap.size, m, none⟩ = some (.int .i64 xv) := by rw [HXV.out]; exact cm
                        obtain ⟨ct, bt, kt⟩ := S3.out.cells (j := q) (by omega); obtain ⟨fc, fb, fk⟩ := S3.out.fz q
                        rw [A1.out] at kt ct
                        replace kt : u3.cell? ⟨w.heap.size + 1 + 1, q, none⟩ = some (.bool true) := kt
                        replace ct : u3.cell? ⟨w.heap.size, q, none⟩ = some (.int .i64 yv) := by rw [HYV.out]; exact ct
                        have S4 := hide (S3.out.put (t := q) (v + xv, m + 1, x.2.2 + 1) (m : Int) HZ.out P.out)
                        have B4 := hide (bl_set (bl_set (bl_set B3.out (p := ⟨w.heap.size, q, none⟩) (Nat.le_refl _) (.int .i64 (v + xv))) (p := ⟨w.heap.size + 1, q, none⟩) (show w.heap.size ≤ w.heap.size + 1 by omega) (.int .i64 ((m : Int)))) (p := ⟨w.heap.size + 1 + 1, q, none⟩) (show w.heap.size ≤ w.heap.size + 1 + 1 by omega) (.bool true))
                        go_wp2
                        go_roundw
                        case rel => exact ⟨m + 1 + 1, (m : Int) + 1, by omega, by omega, by go_num, S4.out, B4.out⟩
                        case measure => simp [intOf] <;> omega
                      · have N := hide (fun j => SAME.out (by rw [BX.out, dt, rx_keep (by rw [← HXV.out, ← HYV.out]; omega)]) (j + 1))
                        have hdd : decide (v + xv < yv) = false := decide_eq_false hlq
                        clear BX SAME PUTA sa BB dt hyv HZ
                        go_wp2_with fail; (with_reducible refine HVL.out.mono ?_); rintro e u2 ⟨rfl, hb⟩; have B2 := hide (bl_call hb HB.out); have S2 := hide (HS.out.below hb (Nat.le_refl _)); clear hb
                        go_wp2_with fail; (with_reducible refine (HLC.out _ (HI.out.below B2.out)).mono ?_); rintro e u3 ⟨rfl, hb⟩; have B3 := hide (bl_call hb B2.out); have S3 := hide (S2.out.below hb (Nat.le_refl _)); clear hb
                        have cm := (S3.out.cells (j := m) (by omega)).1; rw [SK.out] at cm; replace cm : u3.cell? ⟨w.heap.size, m, none⟩ = some (.int .i64 xv) := by rw [HXV.out]; exact cm
                        obtain ⟨ct, bt, kt⟩ := S3.out.cells (j := q) (by omega); obtain ⟨fc, fb, fk⟩ := S3.out.fz q
                        rw [A1.out] at kt ct
                        replace kt : u3.cell? ⟨w.heap.size + 1 + 1, q, none⟩ = some (.bool true) := kt
                        replace ct : u3.cell? ⟨w.heap.size, q, none⟩ = some (.int .i64 yv) := by rw [HYV.out]; exact ct
                        go_wp2
                        go_roundw
                        case rel => exact ⟨m + 1 + 1, (m : Int) + 1, by omega, by omega, by go_num, S3.out.congr N.out, B3.out⟩
                        case measure => simp [intOf] <;> omega
          · have hkq : k = q + 1 := by omega
            have N := hide (show DpB wr w.heap.size L.length 3 4 (tbA (gB (fun a b => coL L a b d t)) (q + 1 + 1) 0) from HS.out.congr (fun j => by rw [hkq]; exact tbA_next (by omega) (j + 1)))
            have g0 : ¬ f < (q : Int) := by omega
            clear hkq HS
            go_wp2
            go_roundw
            case rel => exact ⟨q + 1, by omega, by go_num, N.out, HB.out⟩
            case measure => simp [intOf] <;> omega
    · obtain rfl : q = L.length := by omega
      have N := hide (show DpB wr w.heap.size L.length 3 4 (dpD (gB (fun a b => coL L a b d t))) from ⟨HST.out.rc.congr (fun i hi => by rw [tbA_lt (by omega)]), HST.out.rb.congr (fun i hi => by rw [tbA_lt (by omega)]), HST.out.rk.congr (fun i hi => by rw [tbA_lt (by omega)])⟩)
      clear HST
      go_wp2
      refine bodyPost_ret (v := .tuple #[.slice (some ⟨w.heap.size, 0, none⟩) L.length L.length, .slice (some ⟨w.heap.size + 1, 0, none⟩) L.length L.length, .slice (some ⟨w.heap.size + 1 + 1, 0, none⟩) L.length L.length]) (by simp [results, Try.results97, go_sem]) rfl ⟨rfl, N.out, HBL.out⟩
end Go.Proofs.Ytafddofajfcffaa

/- BestBreaks in the model. -/
namespace Go.Proofs.Ytafddofajfcffaa
open Go.ChangeShapes Go.WideShapes Go.ChangeAt Go.RowKit
set_option linter.unusedVariables false
set_option linter.unusedSimpArgs false
set_option maxRecDepth 10000

theorem OL.none_capB {w : World} {e : TypeId} {B : Nat} {A : Option Addr} {c : Nat} {l : List Int} (h : OL w e B A c l) : A = none → c = 0 := fun e => by
  subst e
  rcases h.2 with ⟨h1, _⟩ | ⟨g, cap, cur, h1, _⟩
  · injection h1
  · cases h1
set_option maxHeartbeats 4000000 in
theorem BestBreaks_s (w : World) (A : Option Addr) (n c : Nat) (L : List It) (d t : Int) (h : TL w A n L) (hn : n ≤ 1048576) :
    Calls Try.prog 48 #[.slice A n c, .int .i64 d, .int .i64 t] w (RetW w (bbV L d t)) := by
  obtain ⟨i0, hi0, jz0, jz1, jz2⟩ := info_parts int_info
  obtain rfl : n = L.length := h.1
  have HI := hide h
  have VI := fun (u : World) (hu : TL u A L.length L) => validItems_s u A L.length c L hu (by omega)
  have H0 : Hid (OL (w.alloc (.cells #[] 3)) 3 w.heap.size (some ⟨w.heap.size, 0, none⟩) 0 []) := hide (by
    have := OL.lit (w := w) (e := 3) (B := w.heap.size) (Nat.le_refl _) [] (by simp)
    simpa using this)
  clear h
  cases hok : isOk L
  · have O := hide (bbV_no (d := d) (t := t) hok)
    rw [hok] at VI
    replace VI := hide VI
    clear hok
    go_enter Try.func48, Try.ntmps48
    go_wp2_with (go_at_call 86; (with_reducible refine (VI.out _ (HI.out.alloc _)).mono ?_); rintro e u1 ⟨rfl, hb⟩; have HB1 := hide (bl_call hb (bl_alloc (bl_refl w) (.cells #[] 3))); have H1 := hide (H0.out.below hb); clear hb)
    refine bodyPost_ret (v := .tuple #[.slice none 0 0, .int .i64 0, .bool false]) (by simp [results, Try.results48, go_sem]) rfl ?_
    exact RetW.no O.out HB1.out
  cases q1 : inB d 1 10000
  · have O := hide (bbV_arg (L := L) (d := d) (t := t) (by rw [q1]; rfl))
    rw [hok] at VI
    replace VI := hide VI
    clear hok
    go_enter Try.func48, Try.ntmps48
    go_wp2_with (first | (go_at_call 86; (with_reducible refine (VI.out _ (HI.out.alloc _)).mono ?_); rintro e u1 ⟨rfl, hb⟩; have HB1 := hide (bl_call hb (bl_alloc (bl_refl w) (.cells #[] 3))); have H1 := hide (H0.out.below hb); clear hb) | (go_at_call 69; refine (validWidth_ss _ _).mono ?_; rintro e w' ⟨rfl, rfl⟩))
    refine bodyPost_ret (v := .tuple #[.slice none 0 0, .int .i64 0, .bool false]) (by simp [results, Try.results48, go_sem]) rfl ?_
    exact RetW.no O.out HB1.out
  cases q2 : inB t 0 10000
  · have O := hide (bbV_arg (L := L) (d := d) (t := t) (by rw [q2]; simp))
    rw [hok] at VI
    replace VI := hide VI
    clear hok
    go_enter Try.func48, Try.ntmps48
    go_wp2_with (first | (go_at_call 86; (with_reducible refine (VI.out _ (HI.out.alloc _)).mono ?_); rintro e u1 ⟨rfl, hb⟩; have HB1 := hide (bl_call hb (bl_alloc (bl_refl w) (.cells #[] 3))); have H1 := hide (H0.out.below hb); clear hb) | (go_at_call 69; refine (validWidth_ss _ _).mono ?_; rintro e w' ⟨rfl, rfl⟩) | (go_at_call 96; refine (inRange_any _ _ _ _).mono ?_; rintro e w' ⟨rfl, rfl⟩))
    refine bodyPost_ret (v := .tuple #[.slice none 0 0, .int .i64 0, .bool false]) (by simp [results, Try.results48, go_sem]) rfl ?_
    exact RetW.no O.out HB1.out
  have E := hide (bbV_yes (d := d) (t := t) hok)
  have BT := hide (fun (u : World) (hu : TL u A L.length L) => bestTable_s u A c L d t hu hok q1 q2)
  obtain ⟨hall, ⟨l0, l1⟩, _⟩ := isOk_iff.1 hok
  have CB := hide (fun a b => coL_bd hall a b d t)
  rw [hok] at VI
  replace VI := hide VI
  obtain ⟨r, hr⟩ : ∃ r, L.length = r + 1 := ⟨L.length - 1, by omega⟩
  have HR := hide hr
  have CAST : (L.length : Int) - 1 = (r : Int) := by omega
  have CASTw : IntKind.i64.wrap (r : Int) = (r : Int) := IntWalk.i64_in _ (by omega)
  have r1 : (r : Int) < (L.length : Int) := by omega
  have r2 : r < L.length := by omega
  have r0 : (0 : Int) ≤ (r : Int) := by omega
  clear hr hall hok
  go_enter Try.func48, Try.ntmps48
  go_upto_region 4 with (first | (go_at_call 86; (with_reducible refine (VI.out _ (HI.out.alloc _)).mono ?_); rintro e u1 ⟨rfl, hb⟩; have HB1 := hide (bl_call hb (bl_alloc (bl_refl w) (.cells #[] 3))); have H1 := hide (H0.out.below hb); clear hb) | (go_at_call 69; refine (validWidth_ss _ _).mono ?_; rintro e w' ⟨rfl, rfl⟩) | (go_at_call 96; refine (inRange_any _ _ _ _).mono ?_; rintro e w' ⟨rfl, rfl⟩) | fail)
  clear q1 q2
  go_wp2_with fail
  (with_reducible refine (BT.out _ (HI.out.below HB1.out)).mono ?_)
  rintro e u2 ⟨rfl, hst, hb⟩
  have HST := hide hst
  have HBL := hide (bl_call hb HB1.out)
  have HOL := hide (H1.out.below hb)
  have hc0 : w.heap.size ≤ u1.heap.size := HB1.out.size
  obtain ⟨c0, hc⟩ : ∃ c0, c0 = u1.heap.size := ⟨_, rfl⟩
  rw [← hc] at HST hc0 ⊢
  obtain ⟨_, _, kN⟩ := HST.out.cells (j := r) r2
  rw [← HR.out] at kN
  clear BT VI H0 H1 HB1 hst hb hc
  cases dN : dpD (gB (fun a b => coL L a b d t)) L.length with
  | none =>
    rw [dN] at kN
    replace kN : u2.cell? ⟨c0 + 1 + 1, r, none⟩ = some (.bool false) := kN
    have E2 := hide (E.out.trans (show dpR (gB (fun a b => coL L a b d t)) ndB L.length = ([], 0, false) by unfold dpR; rw [dN]))
    clear dN
    go_wp2
    refine bodyPost_ret (v := .tuple #[.slice none 0 0, .int .i64 0, .bool false]) (by simp [results, Try.results48, go_sem]) rfl ?_
    exact RetW.no E2.out HBL.out
  | some dn =>
    rw [dN] at kN
    replace kN : u2.cell? ⟨c0 + 1 + 1, r, none⟩ = some (.bool true) := kN
    have E2 := hide (E.out.trans (show dpR (gB (fun a b => coL L a b d t)) ndB L.length = (bkL (gB (fun a b => coL L a b d t)) ndB dn.2.2 L.length, dn.1, true) by unfold dpR; rw [dN]))
    have hP := (dpB_bd CB.out (k := L.length) (by omega) dN).2
    have DN := hide dN
    obtain ⟨F, hF⟩ : ∃ F, F = bkL (gB (fun a b => coL L a b d t)) ndB dn.2.2 L.length := ⟨_, rfl⟩
    rw [← hF] at E2
    have HF := hide hF
    clear dN hF E
    go_wp2
    clear kN
    go_loopw [9, 14] (fun v i u => ∃ (j : Nat) (x : Dn) (A' : Option Addr) (cc q : Nat) (l : List Int) (f : Int), j ≤ L.length ∧ dpD (gB (fun a b => coL L a b d t)) j = some x ∧ i = .int .i64 f ∧ f = (j : Int) - 1 ∧ v = .slice A' q cc ∧ q = l.length ∧ x.2.2 + q = dn.2.2 ∧ F = bkL (gB (fun a b => coL L a b d t)) ndB x.2.2 j ++ l ∧ OL u 3 w.heap.size A' cc l ∧ DpB u c0 L.length 3 4 (dpD (gB (fun a b => coL L a b d t))) ∧ Below w.heap.size w u) (fun _ i _ => (intOf i + 1).toNat)
    case atStart => exact ⟨L.length, dn, some ⟨w.heap.size, 0, none⟩, 0, 0, [], r, Nat.le_refl _, DN.out, rfl, CAST.symm, rfl, rfl, by omega, by rw [HF.out, List.append_nil], HOL.out, HST.out, HBL.out⟩
    case round =>
      obtain ⟨j, x, A', cc, q, l, f, hj, hd, rfl, hf, rfl, hq, hp, hl, hol, hst, hbl⟩ := hrel
      have hfa : f ≤ (j : Int) - 1 := by omega
      have hfb : (j : Int) - 1 ≤ f := by omega
      have HQ := hide hq
      have HL := hide hl
      have HD := hide hd
      have HO := hide hol
      have HS := hide hst
      have HB := hide hbl
      have HP := hide hp
      have hql : q ≤ 61 := by omega
      have hz := hbl.size
      clear hq hl hd hol hst hbl HST HOL HBL HF hf hp
      by_cases hj0 : 0 < j
      · obtain ⟨m, rfl⟩ : ∃ m, j = m + 1 := ⟨j - 1, by omega⟩
        obtain rfl : f = (m : Int) := by omega
        obtain ⟨hb1, y, n', hy, _, _, hx5⟩ := dpD_from hj0 HD.out
        have HX5 := hide hx5
        have HY := hide hy
        have hmL : (m : Int) < (L.length : Int) := by omega
        have hm0 : (0 : Int) ≤ (m : Int) := by omega
        have BF := hide (show bkL (gB (fun a b => coL L a b d t)) ndB x.2.2 (m + 1) = bkL (gB (fun a b => coL L a b d t)) ndB y.2.2 x.2.1 ++ [(m : Int)] by
          rw [HX5.out]
          show bkL _ _ _ (bfN _ (m + 1)) ++ [ndB (m + 1)] = _
          rw [bfN_of HD.out, show ndB (m + 1) = (m : Int) by show (((m + 1 : Nat) : Int)) - 1 = (m : Int); omega])
        have H1 := hide (show OL (wr.alloc (.cells #[.int .i64 m] 3)) 3 wr.heap.size (some ⟨wr.heap.size, 0, none⟩) 1 [(m : Int)] from by
          have := OL.lit (w := wr) (e := 3) (B := wr.heap.size) (Nat.le_refl _) [(m : Int)] (by simp [maxLen])
          simpa using this)
        have HIL := hide (show IL (wr.alloc (.cells #[.int .i64 m] 3)) A' q l by rw [HQ.out]; exact (HO.out.alloc _).reads)
        have HNC := hide HO.out.none_capB
        have HBa := hide (bl_alloc HB.out (.cells #[.int .i64 m] 3))
        have sB := hide (show bsE (dpD (gB (fun a b => coL L a b d t)) (m + 1)) = (x.2.1 : Int) - 1 by rw [HD.out]; rfl)
        have hbx : x.2.1 ≤ L.length := by omega
        have hza : (wr.alloc (.cells #[.int .i64 m] 3)).heap.size = wr.heap.size + 1 := by simp
        clear hy HO HD hx5
        go_wp2_with (at_builtin; go_loud (refine wpList_append_list rfl (.tmp 53) (.tmp 54) _ rfl 3 i0 Try.underlying24 hi0 jz0 jz1 jz2 wr.heap.size (some ⟨wr.heap.size, 0, none⟩) 1 1 [(m : Int)] rfl rfl H1.out A' q cc l rfl HIL.out HNC.out (by omega) (by omega) ?_); intro A2 c2 u3 ho2 hb2 hg2; have HO2 := hide (ho2.more hz); have HS2 := hide (HS.out.below ((bl_alloc (bl_refl wr) (.cells #[.int .i64 m] 3)).trans hb2) (Nat.le_refl _)); have HB2 := hide (HBa.out.trans (hb2.mono hz)); have kb : u3.cell? ⟨c0 + 1, m, none⟩ = some (.int .i64 ((x.2.1 : Int) - 1)) := (by have h7 := (HS2.out.cells (j := m) (by omega)).2.1; rw [sB.out] at h7; exact h7); clear ho2 hb2 hg2)
        go_roundw
        case rel => exact ⟨x.2.1, y, A2, c2, 1 + q, [(m : Int)] ++ l, (x.2.1 : Int) - 1, hbx, HY.out, rfl, rfl, rfl, by rw [List.length_append, ← HQ.out]; rfl, by have := HX5.out; have := HP.out; omega, by rw [HL.out, BF.out, List.append_assoc], HO2.out, HS2.out, HB2.out⟩
        case measure => simp [intOf] <;> omega
      · obtain rfl : j = 0 := by omega
        obtain rfl : f = -1 := by omega
        have := dpD_zero_of HD.out
        subst this
        have E3 := hide (E2.out.trans (by rw [HL.out]; rfl : (F, dn.1, true) = (l, dn.1, true)))
        obtain ⟨cN, _, _⟩ := HS.out.cells (j := r) r2
        rw [← HR.out, DN.out] at cN
        replace cN : wr.cell? ⟨c0, r, none⟩ = some (.int .i64 dn.1) := cN
        clear HS HL hz HD hfa hfb
        go_wp2
        go_quiet (fail)
        go_wp2
        refine bodyPost_ret (v := .tuple #[.slice A' q cc, .int .i64 dn.1, .bool true]) (by simp [results, Try.results48, go_sem]) rfl ?_
        rw [E3.out]
        exact ⟨A', cc, by rw [HQ.out], HO.out.drewN _, bl_drewN HB.out _⟩
end Go.Proofs.Ytafddofajfcffaa
