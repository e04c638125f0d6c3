/- The costs of lines as closures, and the totals of given breaks, in the program. -/
import Derived.Test.YtmncdpiojhgcdaaTotL
import Derived.Test.YtmncdpiojhgcdaaTotD
import Derived.Test.YtmncdpiojhgcdaaSg
import Derived.Deep.RegionHeld3
import Derived.Deep.CutRange
import Derived.Test.YtmncdpiojhgcdaaSb
namespace Go.Proofs.Ytmncdpiojhgcdaa
open Go.ChangeShapes Go.WideShapes Go.ChangeAt Go.RowKit
set_option linter.unusedVariables false
set_option linter.unusedSimpArgs false
open Classical

theorem PS.cells {u : World} {B gp g c1 gs gf gb : Nat} {L : List It} (h : PS u B gp g c1 gs gf gb L) : u.cell? ⟨gp, 0, none⟩ = some (.slice (some ⟨g, 0, none⟩) L.length c1) ∧ u.cell? ⟨gp, 1, none⟩ = some (.slice (some ⟨gs, 0, none⟩) (L.length + 1) (L.length + 1)) ∧ u.cell? ⟨gp, 2, none⟩ = some (.slice (some ⟨gf, 0, none⟩) (L.length + 1) (L.length + 1)) ∧ u.cell? ⟨gp, 3, none⟩ = some (.slice (some ⟨gb, 0, none⟩) (L.length + 1) (L.length + 1)) := ⟨h.k0, h.k1, h.k2, h.k3⟩
/-- A measured paragraph that is copied into another variable. -/
theorem PS.copy {u : World} {B gp g c1 gs gf gb : Nat} {L : List It} (h : PS u B gp g c1 gs gf gb L) : PS (u.alloc (.cells #[.slice (some ⟨g, 0, none⟩) L.length c1, .slice (some ⟨gs, 0, none⟩) (L.length + 1) (L.length + 1), .slice (some ⟨gf, 0, none⟩) (L.length + 1) (L.length + 1), .slice (some ⟨gb, 0, none⟩) (L.length + 1) (L.length + 1)] 82)) B u.heap.size g c1 gs gf gb L := ps_made h.row h.pr
theorem sameWidth_i (d : Int) (w : World) :
    Calls Try.prog 80 #[.int .i64 d] w fun e w' => e = .returned (.func (.func 131) #[] #[.pointer (some ⟨w.heap.size, 0, none⟩)]) ∧ w.alloc (.cells #[.int .i64 d] 3) = w' := by
  go_enter Try.func80, Try.ntmps80
  go_wp2
  go_ret
  exact ⟨rfl, rfl⟩
theorem same1_i (x d : Int) (b : Nat) (w : World) (h : w.cell? ⟨b, 0, none⟩ = some (.int .i64 d)) :
    Calls Try.prog 131 #[.int .i64 x, .pointer (some ⟨b, 0, none⟩)] w fun e w' => e = .returned (.int .i64 d) ∧ w = w' := by
  go_enter Try.func131, Try.ntmps131
  go_wp2
  go_ret
  exact ⟨rfl, rfl⟩
theorem costBy_i (w : World) (v0 v1 v2 v3 : Value) (F : Nat) (qs : Array Value) (t : Int) :
    Calls Try.prog 79 #[.agg #[v0, v1, v2, v3], .func (.func F) #[] qs, .int .i64 t] w fun e w' => e = .returned (.func (.func 130) #[] #[.pointer (some ⟨w.heap.size, 0, none⟩), .pointer (some ⟨w.heap.size + 1, 0, none⟩), .pointer (some ⟨w.heap.size + 1 + 1, 0, none⟩)]) ∧ ((w.alloc (.cells #[v0, v1, v2, v3] 82)).alloc (.cells #[.func (.func F) #[] qs] 100)).alloc (.cells #[.int .i64 t] 3) = w' := by
  go_enter Try.func79, Try.ntmps79
  go_wp2
  go_ret
  exact ⟨rfl, rfl⟩
set_option maxRecDepth 8000 in
set_option maxHeartbeats 4000000 in
/-- The cost of a line, all lines having one width. -/
theorem lines1_i (w : World) {B gp b4 b5 bw g c1 gs gf gb : Nat} (L : List It) (hps : PS w B gp g c1 gs gf gb L) (hall : ∀ i, i < L.length → itOk (tg L i) = true) (h1 : 1 ≤ L.length ∧ L.length ≤ 60) (x a b d t : Int) (wa : -9223372036854775808 ≤ a ∧ a ≤ 9223372036854775807) (wb : -9223372036854775808 ≤ b ∧ b ≤ 9223372036854775807)
    (k4 : w.cell? ⟨b4, 0, none⟩ = some (.func (.func 131) #[] #[.pointer (some ⟨bw, 0, none⟩)])) (k5 : w.cell? ⟨b5, 0, none⟩ = some (.int .i64 t)) (kw : w.cell? ⟨bw, 0, none⟩ = some (.int .i64 d)) :
    Calls Try.prog 130 #[.int .i64 x, .int .i64 a, .int .i64 b, .pointer (some ⟨gp, 0, none⟩), .pointer (some ⟨b4, 0, none⟩), .pointer (some ⟨b5, 0, none⟩)] w fun e w' => e = .returned (.tuple #[.int .i64 (coL L a b d t).1, .bool (coL L a b d t).2]) ∧ Below w.heap.size w w' := by
  have k0 := hps.k0
  have k1 := hps.k1
  have k2 := hps.k2
  have k3 := hps.k3
  have HC := hide (fun (u : World) (hu : Below w.heap.size w u) => cost_i u L (hps.below hu) hall h1 a b d t wa wb)
  obtain ⟨v, hv⟩ : ∃ v, v = coL L a b d t := ⟨_, rfl⟩
  rw [← hv] at HC ⊢
  obtain ⟨v1, v2⟩ := v
  clear hv hps hall
  go_enter Try.func130, Try.ntmps130
  go_upto_region 1 with fail
  have S0 := bl_drew (bl_refl w)
  have kwd : w.drew.cell? ⟨bw, 0, none⟩ = some (.int .i64 d) := kw
  refine wp_region_held_drew (S := fun u : World => Below w.heap.size w u) (by kernel_rfl) (S0) (fun hHeld => ?_)
  refine tky 0 (hy := by (intro w_ hSw; (try dsimp only at hSw); have k0 := keep_cell hSw k0; have k1 := keep_cell hSw k1; have k2 := keep_cell hSw k2; have k3 := keep_cell hSw k3; go_simp; (try (with_reducible rfl)))) (h := ?_); (try simp only [Act.put, tkd, tke, tkf])
  (first | refine tky 1 (h := ?_) | refine tkn 1 (h := ?_)); (try simp only [Act.put, tkd, tke, tkf])
  (first | refine tky 2 (h := ?_) | refine tkn 2 (h := ?_)); (try simp only [Act.put, tkd, tke, tkf])
  refine tky 3 (hy := by (intro w_ hSw; (try dsimp only at hSw); have k4 := keep_cell hSw k4; go_simp; (try (with_reducible rfl)))) (h := ?_); (try simp only [Act.put, tkd, tke, tkf])
  (first | refine tky 4 (h := ?_) | refine tkn 4 (h := ?_)); (try simp only [Act.put, tkd, tke, tkf])
  refine tky 6 (hy := by (intro w_ hSw; (try dsimp only at hSw); have k5 := keep_cell hSw k5; go_simp; (try (with_reducible rfl)))) (h := ?_); (try simp only [Act.put, tkd, tke, tkf])
  refine wpAnyH_ready (rs := [5]) (by kernel_rfl) (by simp) ?_; refine AllReadyH.cons (o := ?_) ?_ (fun K hK => ?_) AllReadyH.nil; rotate_left 1; (next => simp only [List.getElem?_toArray, List.getElem?_cons_succ, List.getElem?_cons_zero]; rfl); go_simp
  go_at_call 131
  (with_reducible refine (same1_i _ d bw _ kwd).mono ?_)
  rintro e w' ⟨rfl, rfl⟩
  (try go_wp2_with fail); refine hK.out _ _ (S0) (fun hHeld => ?_); clear hK K; (try simp only [Act.put, List.setIfInBounds_toArray, List.set_cons_zero, List.set_cons_succ])
  refine wpAnyH_ready (rs := [7]) (by kernel_rfl) (by simp) ?_; refine AllReadyH.cons (o := ?_) ?_ (fun K hK => ?_) AllReadyH.nil; rotate_left 1; (next => simp only [List.getElem?_toArray, List.getElem?_cons_succ, List.getElem?_cons_zero]; rfl); go_simp
  go_at_call 69
  (with_reducible refine (HC.out _ (bl_drew (bl_refl _))).mono ?_)
  rintro e u1 ⟨rfl, hb⟩
  (try (with_reducible have hb := bl_undrew hb))
  (try go_wp2_with fail); refine hK.out _ _ (hb) (fun hHeld => ?_); clear hK K; (try simp only [Act.put, List.setIfInBounds_toArray, List.set_cons_zero, List.set_cons_succ])
  (first | refine tky 8 (h := ?_) | refine tkn 8 (h := ?_)); (try simp only [Act.put, tkd, tke, tkf])
  (first | refine tky 9 (h := ?_) | refine tkn 9 (h := ?_)); (try simp only [Act.put, tkd, tke, tkf])
  (first | refine tky 10 (h := ?_) | refine tkn 10 (h := ?_)); (try simp only [Act.put, tkd, tke, tkf])
  (first | refine tky 11 (h := ?_) | refine tkn 11 (h := ?_)); (try simp only [Act.put, tkd, tke, tkf])
  refine wpAnyH_done (by kernel_rfl) ?_ _
  go_wp2
  go_ret2
  exact ⟨rfl, hb⟩
set_option maxRecDepth 8000 in
set_option maxHeartbeats 4000000 in
theorem div1_i (w : World) {B gp g c1 gs gf gb : Nat} (L : List It) (hps : PS w B gp g c1 gs gf gb L) (hall : ∀ i, i < L.length → itOk (tg L i) = true) (h1 : 1 ≤ L.length ∧ L.length ≤ 60) (x a b : Int) (wa : -9223372036854775808 ≤ a ∧ a ≤ 9223372036854775807) (wb : -9223372036854775808 ≤ b ∧ b ≤ 9223372036854775807) :
    Calls Try.prog 137 #[.int .i64 x, .int .i64 a, .int .i64 b, .pointer (some ⟨gp, 0, none⟩)] w fun e w' => e = .returned (.tuple #[.int .i64 0, .bool (hasL L a b)]) ∧ Below w.heap.size w w' := by
  have k0 := hps.k0
  have k1 := hps.k1
  have k2 := hps.k2
  have k3 := hps.k3
  have HC := hide (hps.hasLine hall h1 a b wa wb)
  clear hps hall wa wb
  go_enter Try.func137, Try.ntmps137
  go_wp2_with fail
  (with_reducible refine HC.out.mono ?_)
  rintro e u1 ⟨rfl, hb⟩
  go_wp2
  go_ret2
  exact ⟨rfl, hb⟩
/-- What p.totalCost answers. -/
noncomputable def ptO (L : List It) (E : List Int) (C : Nat → Int → Int → Int × Bool) : Int × Bool := if endB L E then toO (-1) E C else (0, false)
theorem ptO_no {L : List It} {E : List Int} {C : Nat → Int → Int → Int × Bool} (h : endB L E = false) : ptO L E C = (0, false) := by unfold ptO; rw [h]; rfl
theorem ptO_yes {L : List It} {E : List Int} {C : Nat → Int → Int → Int × Bool} (h : endB L E = true) : ptO L E C = toO (-1) E C := by unfold ptO; rw [if_pos h]
theorem cbV_ok {L : List It} {E : List Int} {C : Nat → Int → Int → Int × Bool} (h : isOk L = true) : cbV L E C = ptO L E C := by unfold cbV ptO; rw [h, Bool.true_and]
set_option maxRecDepth 8000 in
set_option maxHeartbeats 4000000 in
theorem ptotal_lines (w : World) {B gp g c1 gs gf gb : Nat} (L : List It) (hps : PS w B gp g c1 gs gf gb L) (h1 : 1 ≤ L.length ∧ L.length ≤ 60) (A : Option Addr) (m c : Nat) (E : List Int) (hE : IL w A m E) (hm : m ≤ 1048576) (C : Nat → Int → Int → Int × Bool) (qs : Array Value)
    (HT : ∀ u, Below w.heap.size w u → Calls Try.prog 129 #[.int .i64 (-1), .slice A E.length c, .func (.func 130) #[] qs] u fun e w' => e = .returned (.tuple #[.int .i64 (toO (-1) E C).1, .bool (toO (-1) E C).2]) ∧ Below u.heap.size u w') :
    Calls Try.prog 78 #[.agg #[.slice (some ⟨g, 0, none⟩) L.length c1, .slice (some ⟨gs, 0, none⟩) (L.length + 1) (L.length + 1), .slice (some ⟨gf, 0, none⟩) (L.length + 1) (L.length + 1), .slice (some ⟨gb, 0, none⟩) (L.length + 1) (L.length + 1)], .slice A m c, .func (.func 130) #[] qs] w fun e w' => e = .returned (.tuple #[.int .i64 (ptO L E C).1, .bool (ptO L E C).2]) ∧ Below w.heap.size w w' := by
  obtain rfl : m = E.length := hE.1
  have HP := hide hps.copy
  have k0 := HP.out.k0
  have k1 := HP.out.k1
  have k2 := HP.out.k2
  have k3 := HP.out.k3
  have HB0 := hide (bl_alloc (bl_refl w) (.cells #[.slice (some ⟨g, 0, none⟩) L.length c1, .slice (some ⟨gs, 0, none⟩) (L.length + 1) (L.length + 1), .slice (some ⟨gf, 0, none⟩) (L.length + 1) (L.length + 1), .slice (some ⟨gb, 0, none⟩) (L.length + 1) (L.length + 1)] 82))
  have HTT := hide HT
  clear hps HT
  rcases Nat.eq_zero_or_pos E.length with h0 | h0
  · have O := hide (ptO_no (L := L) (E := E) (C := C) (by rw [List.eq_nil_of_length_eq_zero h0]; exact endB_nil h1.1))
    have g0 : ((E.length : Int) == 0) = true := beq_iff_eq.2 (by omega)
    clear hE h0
    go_enter Try.func78, Try.ntmps78
    go_upto_region 1 with fail
    refine wp_region_held_drew (S := fun u : World => u.cell? ⟨w.heap.size, 0, none⟩ = some (.slice (some ⟨g, 0, none⟩) L.length c1) ∧ u.cell? ⟨w.heap.size, 1, none⟩ = some (.slice (some ⟨gs, 0, none⟩) (L.length + 1) (L.length + 1)) ∧ u.cell? ⟨w.heap.size, 2, none⟩ = some (.slice (some ⟨gf, 0, none⟩) (L.length + 1) (L.length + 1)) ∧ u.cell? ⟨w.heap.size, 3, none⟩ = some (.slice (some ⟨gb, 0, none⟩) (L.length + 1) (L.length + 1))) (by kernel_rfl) (by first | (simp [go_sem, *]; done) | exact ⟨k0, k1, k2, k3⟩) (fun hHeld => ?_)
    (first | refine tky 0 (h := ?_) | refine tkn 0 (h := ?_)); (try simp only [Act.put, tkd, tke, tkf]); (first | refine tky 1 (h := ?_) | refine tkn 1 (h := ?_)); (try simp only [Act.put, tkd, tke, tkf]); (first | refine tky 2 (h := ?_) | refine tkn 2 (h := ?_)); (try simp only [Act.put, tkd, tke, tkf]); (first | refine tky 3 (h := ?_) | refine tkn 3 (h := ?_)); (try simp only [Act.put, tkd, tke, tkf]); (first | refine tky 4 (h := ?_) | refine tkn 4 (h := ?_)); (try simp only [Act.put, tkd, tke, tkf]); (first | refine tky 5 (h := ?_) | refine tkn 5 (h := ?_)); (try simp only [Act.put, tkd, tke, tkf]); (first | refine tky 6 (h := ?_) | refine tkn 6 (h := ?_)); (try simp only [Act.put, tkd, tke, tkf]); (first | refine tky 7 (h := ?_) | refine tkn 7 (h := ?_)); (try simp only [Act.put, tkd, tke, tkf]); (first | refine tky 8 (h := ?_) | refine tkn 8 (h := ?_)); (try simp only [Act.put, tkd, tke, tkf]); (first | refine tky 9 (h := ?_) | refine tkn 9 (h := ?_)); (try simp only [Act.put, tkd, tke, tkf]); (first | refine tky 10 (h := ?_) | refine tkn 10 (h := ?_)); (try simp only [Act.put, tkd, tke, tkf])
    (first | refine tky 11 (h := ?_) | refine tkn 11 (h := ?_)); (try simp only [Act.put, tkd, tke, tkf])
    (first | refine tky 12 (h := ?_) | refine tkn 12 (h := ?_)); (try simp only [Act.put, tkd, tke, tkf])
    (first | refine tky 13 (h := ?_) | refine tkn 13 (h := ?_)); (try simp only [Act.put, tkd, tke, tkf])
    refine wpAnyH_done (by kernel_rfl) ?_ _
    go_wp2
    go_ret2
    exact ⟨by rw [O.out]; rfl, bl_drew HB0.out⟩
  · obtain ⟨b, o, rfl, hb0, c0⟩ := hE.at_ (i := E.length - 1) (by omega)
    have FL := frm_last h0
    have g0 : ((E.length : Int) == 0) = false := beq_eq_false_iff_ne.2 (by omega)
    have CAST : ((E.length : Int) - 1) = ((E.length - 1 : Nat) : Int) := by omega
    have wE : IntKind.i64.wrap ((E.length : Int) - 1) = ((E.length - 1 : Nat) : Int) := by rw [← CAST]; exact IntWalk.i64_in _ (by omega)
    have c0 : (w.alloc (.cells #[.slice (some ⟨g, 0, none⟩) L.length c1, .slice (some ⟨gs, 0, none⟩) (L.length + 1) (L.length + 1), .slice (some ⟨gf, 0, none⟩) (L.length + 1) (L.length + 1), .slice (some ⟨gb, 0, none⟩) (L.length + 1) (L.length + 1)] 82)).cell? ⟨b, o + (E.length - 1), none⟩ = _ := keep_alloc c0 _
    obtain ⟨y, hy⟩ : ∃ y, y = ng E (E.length - 1) := ⟨_, rfl⟩
    rw [← hy] at c0 FL
    have hlt : E.length - 1 < E.length := by omega
    have hlt2 : ((E.length - 1 : Nat) : Int) < (E.length : Int) := by omega
    have hlt0 : (0 : Int) ≤ ((E.length - 1 : Nat) : Int) := by omega
    obtain ⟨r, hr⟩ : ∃ r, r = E.length - 1 := ⟨_, rfl⟩
    rw [← hr] at c0 CAST wE hlt hlt2 hlt0
    have wr' : IntKind.i64.wrap (r : Int) = (r : Int) := IntWalk.i64_in _ (by omega)
    obtain ⟨ml, hml⟩ : ∃ m, m = L.length := ⟨_, rfl⟩
    have NO := hide (fun (h : y ≠ (L.length : Int) - 1) => ptO_no (L := L) (E := E) (C := C) (decide_eq_false (by rw [FL]; exact h)))
    have YES := hide (fun (h : y = (L.length : Int) - 1) => ptO_yes (L := L) (E := E) (C := C) (decide_eq_true (by rw [FL]; exact h)))
    clear hE hy hr FL hml
    have hl1000 : L.length ≤ 1000 := by omega
    by_cases hq : y = (L.length : Int) - 1
    · have O := hide (YES.out hq)
      have g1 : (y != (L.length : Int) - 1) = false := by simp [hq]
      have g2 : (y == (L.length : Int) - 1) = true := by simp [hq]
      clear YES NO hq h0
      go_enter Try.func78, Try.ntmps78
      go_upto_region 1 with fail
      refine wp_region_held_drew (S := fun u : World => u.cell? ⟨w.heap.size, 0, none⟩ = some (.slice (some ⟨g, 0, none⟩) L.length c1) ∧ u.cell? ⟨w.heap.size, 1, none⟩ = some (.slice (some ⟨gs, 0, none⟩) (L.length + 1) (L.length + 1)) ∧ u.cell? ⟨w.heap.size, 2, none⟩ = some (.slice (some ⟨gf, 0, none⟩) (L.length + 1) (L.length + 1)) ∧ u.cell? ⟨w.heap.size, 3, none⟩ = some (.slice (some ⟨gb, 0, none⟩) (L.length + 1) (L.length + 1)) ∧ u.cell? ⟨b, o + r, none⟩ = some (.int .i64 y)) (by kernel_rfl) (by first | (simp [go_sem, *]; done) | exact ⟨k0, k1, k2, k3, c0⟩) (fun hHeld => ?_)
      (first | refine tky 0 (h := ?_) | refine tkn 0 (h := ?_)); (try simp only [Act.put, tkd, tke, tkf]); (first | refine tky 1 (h := ?_) | refine tkn 1 (h := ?_)); (try simp only [Act.put, tkd, tke, tkf]); (first | refine tky 2 (h := ?_) | refine tkn 2 (h := ?_)); (try simp only [Act.put, tkd, tke, tkf]); (first | refine tky 3 (h := ?_) | refine tkn 3 (h := ?_)); (try simp only [Act.put, tkd, tke, tkf]); (first | refine tky 4 (h := ?_) | refine tkn 4 (h := ?_)); (try simp only [Act.put, tkd, tke, tkf]); (first | refine tky 5 (h := ?_) | refine tkn 5 (h := ?_)); (try simp only [Act.put, tkd, tke, tkf]); (first | refine tky 6 (h := ?_) | refine tkn 6 (h := ?_)); (try simp only [Act.put, tkd, tke, tkf]); (first | refine tky 7 (h := ?_) | refine tkn 7 (h := ?_)); (try simp only [Act.put, tkd, tke, tkf]); (first | refine tky 8 (h := ?_) | refine tkn 8 (h := ?_)); (try simp only [Act.put, tkd, tke, tkf]); (first | refine tky 9 (h := ?_) | refine tkn 9 (h := ?_)); (try simp only [Act.put, tkd, tke, tkf]); (first | refine tky 10 (h := ?_) | refine tkn 10 (h := ?_)); (try simp only [Act.put, tkd, tke, tkf])
      refine wpAnyH_ready (rs := [11]) (by kernel_rfl) (by simp) ?_; refine AllReadyH.cons (o := ?_) ?_ (fun K hK => ?_) AllReadyH.nil; rotate_left 1; (next => simp only [List.getElem?_toArray, List.getElem?_cons_succ, List.getElem?_cons_zero]; rfl); go_simp
      go_at_call 128
      (with_reducible refine (last_i _ _ _ _ hl1000).mono ?_)
      rintro e u1 ⟨rfl, hb⟩
      (try (with_reducible have hb := bl_undrew hb))
      have k0 := keep_cell hb k0; have k1 := keep_cell hb k1; have k2 := keep_cell hb k2; have k3 := keep_cell hb k3
      have c0 := keep_cell hb c0
      have HB1 := hide (bl_call hb HB0.out)
      clear hb
      (try go_wp2_with fail); refine hK.out _ _ (⟨k0, k1, k2, k3, c0⟩) (fun hHeld => ?_); clear hK K; (try simp only [Act.put, List.setIfInBounds_toArray, List.set_cons_zero, List.set_cons_succ])
      (first | refine tky 12 (h := ?_) | refine tkn 12 (h := ?_)); (try simp only [Act.put, tkd, tke, tkf])
      (first | refine tky 13 (h := ?_) | refine tkn 13 (h := ?_)); (try simp only [Act.put, tkd, tke, tkf])
      refine wpAnyH_done (by kernel_rfl) ?_ _
      go_wp2_with fail
      (with_reducible refine (HTT.out _ HB1.out).mono ?_)
      rintro e u2 ⟨rfl, hb⟩
      have HB2 := hide (bl_call hb HB1.out)
      clear hb k0 k1 k2 k3 c0
      go_wp2
      go_ret2
      exact ⟨by rw [O.out]; first | done | rfl, HB2.out⟩
    · have O := hide (NO.out hq)
      have g1 : (y != (L.length : Int) - 1) = true := by simp [hq]
      have g2 : (y == (L.length : Int) - 1) = false := by simp [hq]
      clear YES NO hq h0
      go_enter Try.func78, Try.ntmps78
      go_upto_region 1 with fail
      refine wp_region_held_drew (S := fun u : World => u.cell? ⟨w.heap.size, 0, none⟩ = some (.slice (some ⟨g, 0, none⟩) L.length c1) ∧ u.cell? ⟨w.heap.size, 1, none⟩ = some (.slice (some ⟨gs, 0, none⟩) (L.length + 1) (L.length + 1)) ∧ u.cell? ⟨w.heap.size, 2, none⟩ = some (.slice (some ⟨gf, 0, none⟩) (L.length + 1) (L.length + 1)) ∧ u.cell? ⟨w.heap.size, 3, none⟩ = some (.slice (some ⟨gb, 0, none⟩) (L.length + 1) (L.length + 1)) ∧ u.cell? ⟨b, o + r, none⟩ = some (.int .i64 y)) (by kernel_rfl) (by first | (simp [go_sem, *]; done) | exact ⟨k0, k1, k2, k3, c0⟩) (fun hHeld => ?_)
      (first | refine tky 0 (h := ?_) | refine tkn 0 (h := ?_)); (try simp only [Act.put, tkd, tke, tkf]); (first | refine tky 1 (h := ?_) | refine tkn 1 (h := ?_)); (try simp only [Act.put, tkd, tke, tkf]); (first | refine tky 2 (h := ?_) | refine tkn 2 (h := ?_)); (try simp only [Act.put, tkd, tke, tkf]); (first | refine tky 3 (h := ?_) | refine tkn 3 (h := ?_)); (try simp only [Act.put, tkd, tke, tkf]); (first | refine tky 4 (h := ?_) | refine tkn 4 (h := ?_)); (try simp only [Act.put, tkd, tke, tkf]); (first | refine tky 5 (h := ?_) | refine tkn 5 (h := ?_)); (try simp only [Act.put, tkd, tke, tkf]); (first | refine tky 6 (h := ?_) | refine tkn 6 (h := ?_)); (try simp only [Act.put, tkd, tke, tkf]); (first | refine tky 7 (h := ?_) | refine tkn 7 (h := ?_)); (try simp only [Act.put, tkd, tke, tkf]); (first | refine tky 8 (h := ?_) | refine tkn 8 (h := ?_)); (try simp only [Act.put, tkd, tke, tkf]); (first | refine tky 9 (h := ?_) | refine tkn 9 (h := ?_)); (try simp only [Act.put, tkd, tke, tkf]); (first | refine tky 10 (h := ?_) | refine tkn 10 (h := ?_)); (try simp only [Act.put, tkd, tke, tkf])
      refine wpAnyH_ready (rs := [11]) (by kernel_rfl) (by simp) ?_; refine AllReadyH.cons (o := ?_) ?_ (fun K hK => ?_) AllReadyH.nil; rotate_left 1; (next => simp only [List.getElem?_toArray, List.getElem?_cons_succ, List.getElem?_cons_zero]; rfl); go_simp
      go_at_call 128
      (with_reducible refine (last_i _ _ _ _ hl1000).mono ?_)
      rintro e u1 ⟨rfl, hb⟩
      (try (with_reducible have hb := bl_undrew hb))
      have k0 := keep_cell hb k0; have k1 := keep_cell hb k1; have k2 := keep_cell hb k2; have k3 := keep_cell hb k3
      have c0 := keep_cell hb c0
      have HB1 := hide (bl_call hb HB0.out)
      clear hb
      (try go_wp2_with fail); refine hK.out _ _ (⟨k0, k1, k2, k3, c0⟩) (fun hHeld => ?_); clear hK K; (try simp only [Act.put, List.setIfInBounds_toArray, List.set_cons_zero, List.set_cons_succ])
      (first | refine tky 12 (h := ?_) | refine tkn 12 (h := ?_)); (try simp only [Act.put, tkd, tke, tkf])
      (first | refine tky 13 (h := ?_) | refine tkn 13 (h := ?_)); (try simp only [Act.put, tkd, tke, tkf])
      refine wpAnyH_done (by kernel_rfl) ?_ _
      go_wp2
      go_ret2
      exact ⟨by rw [O.out]; rfl, HB1.out⟩
set_option maxRecDepth 8000 in
set_option maxHeartbeats 4000000 in
theorem ptotal_div (w : World) {B gp g c1 gs gf gb : Nat} (L : List It) (hps : PS w B gp g c1 gs gf gb L) (h1 : 1 ≤ L.length ∧ L.length ≤ 60) (A : Option Addr) (m c : Nat) (E : List Int) (hE : IL w A m E) (hm : m ≤ 1048576) (C : Nat → Int → Int → Int × Bool) (qs : Array Value)
    (HT : ∀ u, Below w.heap.size w u → Calls Try.prog 129 #[.int .i64 (-1), .slice A E.length c, .func (.func 137) #[] qs] u fun e w' => e = .returned (.tuple #[.int .i64 (toO (-1) E C).1, .bool (toO (-1) E C).2]) ∧ Below u.heap.size u w') :
    Calls Try.prog 78 #[.agg #[.slice (some ⟨g, 0, none⟩) L.length c1, .slice (some ⟨gs, 0, none⟩) (L.length + 1) (L.length + 1), .slice (some ⟨gf, 0, none⟩) (L.length + 1) (L.length + 1), .slice (some ⟨gb, 0, none⟩) (L.length + 1) (L.length + 1)], .slice A m c, .func (.func 137) #[] qs] w fun e w' => e = .returned (.tuple #[.int .i64 (ptO L E C).1, .bool (ptO L E C).2]) ∧ Below w.heap.size w w' := by
  obtain rfl : m = E.length := hE.1
  have HP := hide hps.copy
  have k0 := HP.out.k0
  have k1 := HP.out.k1
  have k2 := HP.out.k2
  have k3 := HP.out.k3
  have HB0 := hide (bl_alloc (bl_refl w) (.cells #[.slice (some ⟨g, 0, none⟩) L.length c1, .slice (some ⟨gs, 0, none⟩) (L.length + 1) (L.length + 1), .slice (some ⟨gf, 0, none⟩) (L.length + 1) (L.length + 1), .slice (some ⟨gb, 0, none⟩) (L.length + 1) (L.length + 1)] 82))
  have HTT := hide HT
  clear hps HT
  rcases Nat.eq_zero_or_pos E.length with h0 | h0
  · have O := hide (ptO_no (L := L) (E := E) (C := C) (by rw [List.eq_nil_of_length_eq_zero h0]; exact endB_nil h1.1))
    have g0 : ((E.length : Int) == 0) = true := beq_iff_eq.2 (by omega)
    clear hE h0
    go_enter Try.func78, Try.ntmps78
    go_upto_region 1 with fail
    refine wp_region_held_drew (S := fun u : World => u.cell? ⟨w.heap.size, 0, none⟩ = some (.slice (some ⟨g, 0, none⟩) L.length c1) ∧ u.cell? ⟨w.heap.size, 1, none⟩ = some (.slice (some ⟨gs, 0, none⟩) (L.length + 1) (L.length + 1)) ∧ u.cell? ⟨w.heap.size, 2, none⟩ = some (.slice (some ⟨gf, 0, none⟩) (L.length + 1) (L.length + 1)) ∧ u.cell? ⟨w.heap.size, 3, none⟩ = some (.slice (some ⟨gb, 0, none⟩) (L.length + 1) (L.length + 1))) (by kernel_rfl) (by first | (simp [go_sem, *]; done) | exact ⟨k0, k1, k2, k3⟩) (fun hHeld => ?_)
    (first | refine tky 0 (h := ?_) | refine tkn 0 (h := ?_)); (try simp only [Act.put, tkd, tke, tkf]); (first | refine tky 1 (h := ?_) | refine tkn 1 (h := ?_)); (try simp only [Act.put, tkd, tke, tkf]); (first | refine tky 2 (h := ?_) | refine tkn 2 (h := ?_)); (try simp only [Act.put, tkd, tke, tkf]); (first | refine tky 3 (h := ?_) | refine tkn 3 (h := ?_)); (try simp only [Act.put, tkd, tke, tkf]); (first | refine tky 4 (h := ?_) | refine tkn 4 (h := ?_)); (try simp only [Act.put, tkd, tke, tkf]); (first | refine tky 5 (h := ?_) | refine tkn 5 (h := ?_)); (try simp only [Act.put, tkd, tke, tkf]); (first | refine tky 6 (h := ?_) | refine tkn 6 (h := ?_)); (try simp only [Act.put, tkd, tke, tkf]); (first | refine tky 7 (h := ?_) | refine tkn 7 (h := ?_)); (try simp only [Act.put, tkd, tke, tkf]); (first | refine tky 8 (h := ?_) | refine tkn 8 (h := ?_)); (try simp only [Act.put, tkd, tke, tkf]); (first | refine tky 9 (h := ?_) | refine tkn 9 (h := ?_)); (try simp only [Act.put, tkd, tke, tkf]); (first | refine tky 10 (h := ?_) | refine tkn 10 (h := ?_)); (try simp only [Act.put, tkd, tke, tkf])
    (first | refine tky 11 (h := ?_) | refine tkn 11 (h := ?_)); (try simp only [Act.put, tkd, tke, tkf])
    (first | refine tky 12 (h := ?_) | refine tkn 12 (h := ?_)); (try simp only [Act.put, tkd, tke, tkf])
    (first | refine tky 13 (h := ?_) | refine tkn 13 (h := ?_)); (try simp only [Act.put, tkd, tke, tkf])
    refine wpAnyH_done (by kernel_rfl) ?_ _
    go_wp2
    go_ret2
    exact ⟨by rw [O.out]; rfl, bl_drew HB0.out⟩
  · obtain ⟨b, o, rfl, hb0, c0⟩ := hE.at_ (i := E.length - 1) (by omega)
    have FL := frm_last h0
    have g0 : ((E.length : Int) == 0) = false := beq_eq_false_iff_ne.2 (by omega)
    have CAST : ((E.length : Int) - 1) = ((E.length - 1 : Nat) : Int) := by omega
    have wE : IntKind.i64.wrap ((E.length : Int) - 1) = ((E.length - 1 : Nat) : Int) := by rw [← CAST]; exact IntWalk.i64_in _ (by omega)
    have c0 : (w.alloc (.cells #[.slice (some ⟨g, 0, none⟩) L.length c1, .slice (some ⟨gs, 0, none⟩) (L.length + 1) (L.length + 1), .slice (some ⟨gf, 0, none⟩) (L.length + 1) (L.length + 1), .slice (some ⟨gb, 0, none⟩) (L.length + 1) (L.length + 1)] 82)).cell? ⟨b, o + (E.length - 1), none⟩ = _ := keep_alloc c0 _
    obtain ⟨y, hy⟩ : ∃ y, y = ng E (E.length - 1) := ⟨_, rfl⟩
    rw [← hy] at c0 FL
    have hlt : E.length - 1 < E.length := by omega
    have hlt2 : ((E.length - 1 : Nat) : Int) < (E.length : Int) := by omega
    have hlt0 : (0 : Int) ≤ ((E.length - 1 : Nat) : Int) := by omega
    obtain ⟨r, hr⟩ : ∃ r, r = E.length - 1 := ⟨_, rfl⟩
    rw [← hr] at c0 CAST wE hlt hlt2 hlt0
    have wr' : IntKind.i64.wrap (r : Int) = (r : Int) := IntWalk.i64_in _ (by omega)
    obtain ⟨ml, hml⟩ : ∃ m, m = L.length := ⟨_, rfl⟩
    have NO := hide (fun (h : y ≠ (L.length : Int) - 1) => ptO_no (L := L) (E := E) (C := C) (decide_eq_false (by rw [FL]; exact h)))
    have YES := hide (fun (h : y = (L.length : Int) - 1) => ptO_yes (L := L) (E := E) (C := C) (decide_eq_true (by rw [FL]; exact h)))
    clear hE hy hr FL hml
    have hl1000 : L.length ≤ 1000 := by omega
    by_cases hq : y = (L.length : Int) - 1
    · have O := hide (YES.out hq)
      have g1 : (y != (L.length : Int) - 1) = false := by simp [hq]
      have g2 : (y == (L.length : Int) - 1) = true := by simp [hq]
      clear YES NO hq h0
      go_enter Try.func78, Try.ntmps78
      go_upto_region 1 with fail
      refine wp_region_held_drew (S := fun u : World => u.cell? ⟨w.heap.size, 0, none⟩ = some (.slice (some ⟨g, 0, none⟩) L.length c1) ∧ u.cell? ⟨w.heap.size, 1, none⟩ = some (.slice (some ⟨gs, 0, none⟩) (L.length + 1) (L.length + 1)) ∧ u.cell? ⟨w.heap.size, 2, none⟩ = some (.slice (some ⟨gf, 0, none⟩) (L.length + 1) (L.length + 1)) ∧ u.cell? ⟨w.heap.size, 3, none⟩ = some (.slice (some ⟨gb, 0, none⟩) (L.length + 1) (L.length + 1)) ∧ u.cell? ⟨b, o + r, none⟩ = some (.int .i64 y)) (by kernel_rfl) (by first | (simp [go_sem, *]; done) | exact ⟨k0, k1, k2, k3, c0⟩) (fun hHeld => ?_)
      (first | refine tky 0 (h := ?_) | refine tkn 0 (h := ?_)); (try simp only [Act.put, tkd, tke, tkf]); (first | refine tky 1 (h := ?_) | refine tkn 1 (h := ?_)); (try simp only [Act.put, tkd, tke, tkf]); (first | refine tky 2 (h := ?_) | refine tkn 2 (h := ?_)); (try simp only [Act.put, tkd, tke, tkf]); (first | refine tky 3 (h := ?_) | refine tkn 3 (h := ?_)); (try simp only [Act.put, tkd, tke, tkf]); (first | refine tky 4 (h := ?_) | refine tkn 4 (h := ?_)); (try simp only [Act.put, tkd, tke, tkf]); (first | refine tky 5 (h := ?_) | refine tkn 5 (h := ?_)); (try simp only [Act.put, tkd, tke, tkf]); (first | refine tky 6 (h := ?_) | refine tkn 6 (h := ?_)); (try simp only [Act.put, tkd, tke, tkf]); (first | refine tky 7 (h := ?_) | refine tkn 7 (h := ?_)); (try simp only [Act.put, tkd, tke, tkf]); (first | refine tky 8 (h := ?_) | refine tkn 8 (h := ?_)); (try simp only [Act.put, tkd, tke, tkf]); (first | refine tky 9 (h := ?_) | refine tkn 9 (h := ?_)); (try simp only [Act.put, tkd, tke, tkf]); (first | refine tky 10 (h := ?_) | refine tkn 10 (h := ?_)); (try simp only [Act.put, tkd, tke, tkf])
      refine wpAnyH_ready (rs := [11]) (by kernel_rfl) (by simp) ?_; refine AllReadyH.cons (o := ?_) ?_ (fun K hK => ?_) AllReadyH.nil; rotate_left 1; (next => simp only [List.getElem?_toArray, List.getElem?_cons_succ, List.getElem?_cons_zero]; rfl); go_simp
      go_at_call 128
      (with_reducible refine (last_i _ _ _ _ hl1000).mono ?_)
      rintro e u1 ⟨rfl, hb⟩
      (try (with_reducible have hb := bl_undrew hb))
      have k0 := keep_cell hb k0; have k1 := keep_cell hb k1; have k2 := keep_cell hb k2; have k3 := keep_cell hb k3
      have c0 := keep_cell hb c0
      have HB1 := hide (bl_call hb HB0.out)
      clear hb
      (try go_wp2_with fail); refine hK.out _ _ (⟨k0, k1, k2, k3, c0⟩) (fun hHeld => ?_); clear hK K; (try simp only [Act.put, List.setIfInBounds_toArray, List.set_cons_zero, List.set_cons_succ])
      (first | refine tky 12 (h := ?_) | refine tkn 12 (h := ?_)); (try simp only [Act.put, tkd, tke, tkf])
      (first | refine tky 13 (h := ?_) | refine tkn 13 (h := ?_)); (try simp only [Act.put, tkd, tke, tkf])
      refine wpAnyH_done (by kernel_rfl) ?_ _
      go_wp2_with fail
      (with_reducible refine (HTT.out _ HB1.out).mono ?_)
      rintro e u2 ⟨rfl, hb⟩
      have HB2 := hide (bl_call hb HB1.out)
      clear hb k0 k1 k2 k3 c0
      go_wp2
      go_ret2
      exact ⟨by rw [O.out]; first | done | rfl, HB2.out⟩
    · have O := hide (NO.out hq)
      have g1 : (y != (L.length : Int) - 1) = true := by simp [hq]
      have g2 : (y == (L.length : Int) - 1) = false := by simp [hq]
      clear YES NO hq h0
      go_enter Try.func78, Try.ntmps78
      go_upto_region 1 with fail
      refine wp_region_held_drew (S := fun u : World => u.cell? ⟨w.heap.size, 0, none⟩ = some (.slice (some ⟨g, 0, none⟩) L.length c1) ∧ u.cell? ⟨w.heap.size, 1, none⟩ = some (.slice (some ⟨gs, 0, none⟩) (L.length + 1) (L.length + 1)) ∧ u.cell? ⟨w.heap.size, 2, none⟩ = some (.slice (some ⟨gf, 0, none⟩) (L.length + 1) (L.length + 1)) ∧ u.cell? ⟨w.heap.size, 3, none⟩ = some (.slice (some ⟨gb, 0, none⟩) (L.length + 1) (L.length + 1)) ∧ u.cell? ⟨b, o + r, none⟩ = some (.int .i64 y)) (by kernel_rfl) (by first | (simp [go_sem, *]; done) | exact ⟨k0, k1, k2, k3, c0⟩) (fun hHeld => ?_)
      (first | refine tky 0 (h := ?_) | refine tkn 0 (h := ?_)); (try simp only [Act.put, tkd, tke, tkf]); (first | refine tky 1 (h := ?_) | refine tkn 1 (h := ?_)); (try simp only [Act.put, tkd, tke, tkf]); (first | refine tky 2 (h := ?_) | refine tkn 2 (h := ?_)); (try simp only [Act.put, tkd, tke, tkf]); (first | refine tky 3 (h := ?_) | refine tkn 3 (h := ?_)); (try simp only [Act.put, tkd, tke, tkf]); (first | refine tky 4 (h := ?_) | refine tkn 4 (h := ?_)); (try simp only [Act.put, tkd, tke, tkf]); (first | refine tky 5 (h := ?_) | refine tkn 5 (h := ?_)); (try simp only [Act.put, tkd, tke, tkf]); (first | refine tky 6 (h := ?_) | refine tkn 6 (h := ?_)); (try simp only [Act.put, tkd, tke, tkf]); (first | refine tky 7 (h := ?_) | refine tkn 7 (h := ?_)); (try simp only [Act.put, tkd, tke, tkf]); (first | refine tky 8 (h := ?_) | refine tkn 8 (h := ?_)); (try simp only [Act.put, tkd, tke, tkf]); (first | refine tky 9 (h := ?_) | refine tkn 9 (h := ?_)); (try simp only [Act.put, tkd, tke, tkf]); (first | refine tky 10 (h := ?_) | refine tkn 10 (h := ?_)); (try simp only [Act.put, tkd, tke, tkf])
      refine wpAnyH_ready (rs := [11]) (by kernel_rfl) (by simp) ?_; refine AllReadyH.cons (o := ?_) ?_ (fun K hK => ?_) AllReadyH.nil; rotate_left 1; (next => simp only [List.getElem?_toArray, List.getElem?_cons_succ, List.getElem?_cons_zero]; rfl); go_simp
      go_at_call 128
      (with_reducible refine (last_i _ _ _ _ hl1000).mono ?_)
      rintro e u1 ⟨rfl, hb⟩
      (try (with_reducible have hb := bl_undrew hb))
      have k0 := keep_cell hb k0; have k1 := keep_cell hb k1; have k2 := keep_cell hb k2; have k3 := keep_cell hb k3
      have c0 := keep_cell hb c0
      have HB1 := hide (bl_call hb HB0.out)
      clear hb
      (try go_wp2_with fail); refine hK.out _ _ (⟨k0, k1, k2, k3, c0⟩) (fun hHeld => ?_); clear hK K; (try simp only [Act.put, List.setIfInBounds_toArray, List.set_cons_zero, List.set_cons_succ])
      (first | refine tky 12 (h := ?_) | refine tkn 12 (h := ?_)); (try simp only [Act.put, tkd, tke, tkf])
      (first | refine tky 13 (h := ?_) | refine tkn 13 (h := ?_)); (try simp only [Act.put, tkd, tke, tkf])
      refine wpAnyH_done (by kernel_rfl) ?_ _
      go_wp2
      go_ret2
      exact ⟨by rw [O.out]; rfl, HB1.out⟩
set_option maxRecDepth 8000 in
set_option maxHeartbeats 4000000 in
theorem divides_i (w : World) {B gp g c1 gs gf gb : Nat} (L : List It) (hps : PS w B gp g c1 gs gf gb L) (hall : ∀ i, i < L.length → itOk (tg L i) = true) (h1 : 1 ≤ L.length ∧ L.length ≤ 60) (A : Option Addr) (m c : Nat) (E : List Int) (hE : IL w A m E) (hm : m ≤ 1048576) (hwf : okW E) :
    Calls Try.prog 92 #[.agg #[.slice (some ⟨g, 0, none⟩) L.length c1, .slice (some ⟨gs, 0, none⟩) (L.length + 1) (L.length + 1), .slice (some ⟨gf, 0, none⟩) (L.length + 1) (L.length + 1), .slice (some ⟨gb, 0, none⟩) (L.length + 1) (L.length + 1)], .slice A m c] w fun e w' => e = .returned (.bool (ptO L E (fun _ a b => (0, hasL L a b))).2) ∧ Below w.heap.size w w' := by
  obtain rfl : m = E.length := hE.1
  have HP := hide hps.copy
  have k0 := HP.out.k0
  have k1 := HP.out.k1
  have k2 := HP.out.k2
  have k3 := HP.out.k3
  have HB0 := hide (bl_alloc (bl_refl w) (.cells #[.slice (some ⟨g, 0, none⟩) L.length c1, .slice (some ⟨gs, 0, none⟩) (L.length + 1) (L.length + 1), .slice (some ⟨gf, 0, none⟩) (L.length + 1) (L.length + 1), .slice (some ⟨gb, 0, none⟩) (L.length + 1) (L.length + 1)] 82))
  have PT := hide (ptotal_div (w.alloc (.cells #[.slice (some ⟨g, 0, none⟩) L.length c1, .slice (some ⟨gs, 0, none⟩) (L.length + 1) (L.length + 1), .slice (some ⟨gf, 0, none⟩) (L.length + 1) (L.length + 1), .slice (some ⟨gb, 0, none⟩) (L.length + 1) (L.length + 1)] 82)) L HP.out h1 A E.length c E (hE.alloc _) hm (fun _ a b => (0, hasL L a b)) #[.pointer (some ⟨w.heap.size, 0, none⟩)] (fun u hu => total_div u A c E ((hE.alloc _).below hu) hm (-1) (fun _ a b => (0, hasL L a b)) (.pointer (some ⟨w.heap.size, 0, none⟩)) (fun _ _ _ => by simp) (fun v hv i x => div1_i v L ((HP.out.below hu).below hv) hall h1 i _ _ (frm_wf hwf (by have := x.isLt; omega)) (hwf _ x.isLt))))
  obtain ⟨r, hr⟩ : ∃ r, r = ptO L E (fun _ a b => (0, hasL L a b)) := ⟨_, rfl⟩
  rw [← hr] at PT ⊢
  obtain ⟨r1, r2⟩ := r
  clear hps hE hwf hall hr
  go_enter Try.func92, Try.ntmps92
  go_wp2_with fail
  (with_reducible refine PT.out.mono ?_)
  rintro e u2 ⟨rfl, hb⟩
  have HB2 := hide (bl_call hb HB0.out)
  clear hb k0 k1 k2 k3
  go_wp2
  go_ret
  exact ⟨rfl, HB2.out⟩
set_option maxRecDepth 8000 in
set_option maxHeartbeats 4000000 in
theorem ValidBreaks_i (w : World) (A B : Option Addr) (n c m c' : Nat) (L : List It) (E : List Int) (h : TL w A n L) (hn : n ≤ 1048576) (hE : IL w B m E) (hm : m ≤ 1048576) (hwf : okW E) :
    Calls Try.prog 49 #[.slice A n c, .slice B m c'] w fun e w' => e = .returned (.bool (vbO L E)) ∧ Below w.heap.size w w' := by
  have ME := hide (measure_i w A n c L h (by omega))
  obtain rfl : n = L.length := h.1
  have HE := hide hE
  rw [vbO_eq]
  clear h hE
  cases hok : isOk L
  · have O := hide (cbV_no (L := L) (E := E) (C := fun _ a b => (0, hasL L a b)) (by rw [hok]; rfl))
    rw [hok] at ME
    clear hok
    go_enter Try.func49, Try.ntmps49
    go_wp2_with fail
    (with_reducible refine ME.out.mono ?_)
    rintro e u1 ⟨v, rfl, hv, hv0, hb⟩
    obtain rfl := hv0 (by trivial)
    have HB1 := hide hb
    clear hv hv0 hb
    go_wp2
    go_ret
    exact ⟨by rw [O.out]; rfl, bl_alloc HB1.out _⟩
  · have HK := isOk_iff.1 hok
    have HALL := hide HK.1
    have hl60 := HK.2.1
    rw [hok] at ME
    rw [cbV_ok hok]
    obtain ⟨r, hr⟩ : ∃ r, r = ptO L E (fun _ a b => (0, hasL L a b)) := ⟨_, rfl⟩
    have HR := hide hr
    rw [← hr]
    clear HK hok hr
    go_enter Try.func49, Try.ntmps49
    go_wp2_with fail
    (with_reducible refine ME.out.mono ?_)
    rintro e u1 ⟨v, rfl, hv, hv0, hb⟩
    obtain ⟨g, c1, gs, gf, gb, rfl, hrow, hpr⟩ := hv (by trivial)
    have HPS := hide (ps_made hrow hpr)
    have HB1 := hide (bl_alloc hb (.cells #[.slice (some ⟨g, 0, none⟩) L.length c1, .slice (some ⟨gs, 0, none⟩) (L.length + 1) (L.length + 1), .slice (some ⟨gf, 0, none⟩) (L.length + 1) (L.length + 1), .slice (some ⟨gb, 0, none⟩) (L.length + 1) (L.length + 1)] 82))
    have HD := hide (divides_i _ L HPS.out HALL.out hl60 B m c' E (HE.out.below HB1.out) hm hwf)
    rw [← HR.out] at HD
    clear hv hv0 hb hrow hpr
    have k0 := HPS.out.k0
    have k1 := HPS.out.k1
    have k2 := HPS.out.k2
    have k3 := HPS.out.k3
    go_wp2_with fail
    (with_reducible refine HD.out.mono ?_)
    rintro e u2 ⟨rfl, hb⟩
    have HB2 := hide (bl_call hb HB1.out)
    clear hb k0 k1 k2 k3
    go_wp2
    go_ret
    exact ⟨rfl, HB2.out⟩
set_option maxRecDepth 8000 in
set_option maxHeartbeats 4000000 in
theorem CheckBreaks_i (w : World) (A B : Option Addr) (n c m c' : Nat) (L : List It) (E : List Int) (d t : Int) (h : TL w A n L) (hn : n ≤ 1048576) (hE : IL w B m E) (hm : m ≤ 1048576) (hwf : okW E) :
    Calls Try.prog 24 #[.slice A n c, .int .i64 d, .int .i64 t, .slice B m c'] w fun e w' => e = .returned (.tuple #[.int .i64 (cbO L d t E).1, .bool (cbO L d t E).2]) ∧ Below w.heap.size w w' := by
  have ME := hide (measure_i w A n c L h (by omega))
  obtain rfl : n = L.length := h.1
  obtain rfl : m = E.length := hE.1
  have HE := hide hE
  rw [cbO_eq]
  clear h hE
  cases hok : isOk L
  · have O := hide (cbV_no (L := L) (E := E) (C := fun _ a b => coL L a b d t) (by rw [hok]; rfl))
    rw [hok] at ME
    clear hok
    go_enter Try.func24, Try.ntmps24
    go_wp2_with fail
    (with_reducible refine ME.out.mono ?_)
    rintro e u1 ⟨v, rfl, hv, hv0, hb⟩
    obtain rfl := hv0 (by trivial)
    have HB1 := hide hb
    clear hv hv0 hb
    go_wp2
    go_ret2
    exact ⟨by rw [O.out]; rfl, bl_alloc HB1.out _⟩
  · have HK := isOk_iff.1 hok
    have HALL := hide HK.1
    have hl60 := HK.2.1
    rw [hok] at ME
    rw [cbV_ok hok]
    have CB := hide (fun p q => coL_bd HALL.out p q d t)
    obtain ⟨r, hr⟩ : ∃ r, r = ptO L E (fun _ a b => coL L a b d t) := ⟨_, rfl⟩
    have HR := hide hr
    rw [← hr]
    obtain ⟨r1, r2⟩ := r
    clear HK hok hr
    go_enter Try.func24, Try.ntmps24
    go_wp2_with fail
    (with_reducible refine ME.out.mono ?_)
    rintro e u1 ⟨v, rfl, hv, hv0, hb⟩
    obtain ⟨g, c1, gs, gf, gb, rfl, hrow, hpr⟩ := hv (by trivial)
    have HPS := hide (ps_made hrow hpr)
    have HB1 := hide (bl_alloc hb (.cells #[.slice (some ⟨g, 0, none⟩) L.length c1, .slice (some ⟨gs, 0, none⟩) (L.length + 1) (L.length + 1), .slice (some ⟨gf, 0, none⟩) (L.length + 1) (L.length + 1), .slice (some ⟨gb, 0, none⟩) (L.length + 1) (L.length + 1)] 82))
    clear hv hv0 hb hrow hpr
    have k0 := HPS.out.k0
    have k1 := HPS.out.k1
    have k2 := HPS.out.k2
    have k3 := HPS.out.k3
    go_upto_region 4 with fail
    obtain ⟨W, hW⟩ : ∃ W, W = u1.alloc (.cells #[.slice (some ⟨g, 0, none⟩) L.length c1, .slice (some ⟨gs, 0, none⟩) (L.length + 1) (L.length + 1), .slice (some ⟨gf, 0, none⟩) (L.length + 1) (L.length + 1), .slice (some ⟨gb, 0, none⟩) (L.length + 1) (L.length + 1)] 82) := ⟨_, rfl⟩
    have hp1 : u1.heap.size < W.heap.size := by rw [hW]; simp
    rw [← hW] at HPS HB1 k0 k1 k2 k3
    have PT := hide (fun (u : World) (hu : Below W.heap.size W u) (b2 b3 b4 bw : Nat) (hp : PS u w.heap.size b2 g c1 gs gf gb L) (e3 : u.cell? ⟨b3, 0, none⟩ = some (.func (.func 131) #[] #[.pointer (some ⟨bw, 0, none⟩)])) (e4 : u.cell? ⟨b4, 0, none⟩ = some (.int .i64 t)) (ew : u.cell? ⟨bw, 0, none⟩ = some (.int .i64 d)) =>
      ptotal_lines u L hp hl60 B E.length c' E ((HE.out.below HB1.out).below hu) hm (fun _ a b => coL L a b d t) #[.pointer (some ⟨b2, 0, none⟩), .pointer (some ⟨b3, 0, none⟩), .pointer (some ⟨b4, 0, none⟩)] (fun v hv => by
        exact total_lines v B c' E (((HE.out.below HB1.out).below hu).below hv) hm (-1) (fun _ a b => coL L a b d t) _ _ _ (fun _ p q => by have := CB.out p q; show -8000000000 ≤ (coL L p q d t).1 ∧ (coL L p q d t).1 ≤ 8000000000; omega) (fun y hy i x => lines1_i y L ((hp.below hv).below hy) HALL.out hl60 i _ _ d t (frm_wf hwf (by have := x.isLt; omega)) (hwf _ x.isLt) (keep_cell hy (keep_cell hv e3)) (keep_cell hy (keep_cell hv e4)) (keep_cell hy (keep_cell hv ew)))))
    rw [← HR.out] at PT
    rw [← hW]
    have HWW := hide hW
    clear hW
    have S0 := bl_drew (bl_refl W)
    clear hwf
    refine wp_region_held_drew (S := fun u : World => Below W.heap.size W u) (by kernel_rfl) (S0) (fun hHeld => ?_)
    refine tky 0 (hy := by (intro w_ hSw; (try dsimp only at hSw); have k0 := keep_cell hSw k0; have k1 := keep_cell hSw k1; have k2 := keep_cell hSw k2; have k3 := keep_cell hSw k3; go_simp; (try (with_reducible rfl)))) (h := ?_); (try simp only [Act.put, tkd, tke, tkf])
    (first | refine tky 1 (h := ?_) | refine tkn 1 (h := ?_)); (try simp only [Act.put, tkd, tke, tkf])
    refine tky 2 (hy := by (intro w_ hSw; (try dsimp only at hSw); have k0 := keep_cell hSw k0; have k1 := keep_cell hSw k1; have k2 := keep_cell hSw k2; have k3 := keep_cell hSw k3; go_simp; (try (with_reducible rfl)))) (h := ?_); (try simp only [Act.put, tkd, tke, tkf])
    (first | refine tky 3 (h := ?_) | refine tkn 3 (h := ?_)); (try simp only [Act.put, tkd, tke, tkf])
    (first | refine tky 5 (h := ?_) | refine tkn 5 (h := ?_)); (try simp only [Act.put, tkd, tke, tkf])
    refine wpAnyH_ready (rs := [4]) (by kernel_rfl) (by simp) ?_; refine AllReadyH.cons (o := ?_) ?_ (fun K hK => ?_) AllReadyH.nil; rotate_left 1; (next => simp only [List.getElem?_toArray, List.getElem?_cons_succ, List.getElem?_cons_zero]; rfl); go_simp
    go_at_call 80
    (with_reducible refine (sameWidth_i _ _).mono ?_)
    rintro e w' ⟨rfl, rfl⟩
    (try go_wp2_with fail); refine hK.out _ _ ((by repeat' (first | exact bl_refl _ | refine bl_drew ?_ | refine bl_alloc ?_ _))) (fun hHeld => ?_); clear hK K; (try simp only [Act.put, List.setIfInBounds_toArray, List.set_cons_zero, List.set_cons_succ])
    refine wpAnyH_ready (rs := [6]) (by kernel_rfl) (by simp) ?_; refine AllReadyH.cons (o := ?_) ?_ (fun K hK => ?_) AllReadyH.nil; rotate_left 1; (next => simp only [List.getElem?_toArray, List.getElem?_cons_succ, List.getElem?_cons_zero]; rfl); go_simp
    go_at_call 79
    (with_reducible refine (costBy_i _ _ _ _ _ _ _ _).mono ?_)
    rintro e w' ⟨rfl, rfl⟩
    (try go_wp2_with fail); refine hK.out _ _ ((by repeat' (first | exact bl_refl _ | refine bl_drew ?_ | refine bl_alloc ?_ _))) (fun hHeld => ?_); clear hK K; (try simp only [Act.put, List.setIfInBounds_toArray, List.set_cons_zero, List.set_cons_succ])
    refine wpAnyH_ready (rs := [7]) (by kernel_rfl) (by simp) ?_; refine AllReadyH.cons (o := ?_) ?_ (fun K hK => ?_) AllReadyH.nil; rotate_left 1; (next => simp only [List.getElem?_toArray, List.getElem?_cons_succ, List.getElem?_cons_zero]; rfl); go_simp
    go_at_call 78
    (with_reducible refine (PT.out _ ?_ _ _ _ W.heap.size ?_ ?_ ?_ ?_).mono ?_)
    · exact (by repeat' (first | exact bl_refl _ | refine bl_drew ?_ | refine bl_alloc ?_ _))
    · have h5 := (HPS.out.below (bl_alloc (bl_refl _) (.cells #[.int .i64 d] 3))).copy
      rw [show (W.alloc (.cells #[.int .i64 d] 3)).heap.size = W.heap.size + 1 by simp] at h5
      refine h5.below ?_
      exact (by repeat' (first | exact bl_refl _ | refine bl_drew ?_ | refine bl_alloc ?_ _))
    · simp [go_sem]
    · simp [go_sem]
    · simp [go_sem]
    rintro e u2 ⟨rfl, hb⟩
    have HB2 := hide (bl_call hb (show Below W.heap.size W _ from (by repeat' (first | exact bl_refl _ | refine bl_drew ?_ | refine bl_alloc ?_ _))))
    clear hb
    (try go_wp2_with fail); refine hK.out _ _ (HB2.out) (fun hHeld => ?_); clear hK K; (try simp only [Act.put, List.setIfInBounds_toArray, List.set_cons_zero, List.set_cons_succ])
    (first | refine tky 8 (h := ?_) | refine tkn 8 (h := ?_)); (try simp only [Act.put, tkd, tke, tkf])
    (first | refine tky 9 (h := ?_) | refine tkn 9 (h := ?_)); (try simp only [Act.put, tkd, tke, tkf])
    (first | refine tky 10 (h := ?_) | refine tkn 10 (h := ?_)); (try simp only [Act.put, tkd, tke, tkf])
    (first | refine tky 11 (h := ?_) | refine tkn 11 (h := ?_)); (try simp only [Act.put, tkd, tke, tkf])
    refine wpAnyH_done (by kernel_rfl) ?_ _
    go_wp2
    go_ret2
    exact ⟨rfl, bl_call HB2.out HB1.out⟩
end Go.Proofs.Ytmncdpiojhgcdaa
