/- The lengths and the boxes of lines, in the program. -/
import Derived.Test.YtafddofajfcffaaLg
import Derived.Test.YtafddofajfcffaaLnM
namespace Go.Proofs.Ytafddofajfcffaa
open Go.ChangeShapes Go.WideShapes Go.ChangeAt Go.RowKit
set_option linter.unusedVariables false

/-- The methods of a measured paragraph, at any world behind. -/
theorem pr_mono {w : World} {B B' gs gf gb n : Nat} {S : List Gp} {F X : List Int} (h : PR w B gs gf gb S F X n) (hb : B' ≤ B) : PR w B' gs gf gb S F X n := ⟨World.ownsRow.mono h.1 hb, World.ownsRow.mono h.2.1 hb, World.ownsRow.mono h.2.2 hb⟩
theorem PS.hasLine {u : World} {B gp g c1 gs gf gb : Nat} {L : List It} (h : PS u B gp g c1 gs gf gb L) (hall : ∀ i, i < L.length → itOk (tg L i) = true) (h1 : 1 ≤ L.length ∧ L.length ≤ 60) (a b : Int) (wa : -9223372036854775808 ≤ a ∧ a ≤ 9223372036854775807) (wb : -9223372036854775808 ≤ b ∧ b ≤ 9223372036854775807) :
    Calls Try.prog 74 #[.agg #[.slice (some ⟨g, 0, none⟩) L.length c1, .slice (some ⟨gs, 0, none⟩) (L.length + 1) (L.length + 1), .slice (some ⟨gf, 0, none⟩) (L.length + 1) (L.length + 1), .slice (some ⟨gb, 0, none⟩) (L.length + 1) (L.length + 1)], .int .i64 a, .int .i64 b] u fun e w' => e = .returned (.bool (hasL L a b)) ∧ Below u.heap.size u w' :=
  hasLine_i u _ _ L hall h1.1 h1.2 rfl h.row h.pr.2.1 a b wa wb
theorem PS.lineGlue {u : World} {B gp g c1 gs gf gb : Nat} {L : List It} (h : PS u B gp g c1 gs gf gb L) (hall : ∀ i, i < L.length → itOk (tg L i) = true) (h1 : 1 ≤ L.length ∧ L.length ≤ 60) (a : Int) (p q : Nat) (hp : a + 1 = (p : Int)) (hpl : p ≤ L.length) (hq : q < L.length) :
    Calls Try.prog 112 #[.agg #[.slice (some ⟨g, 0, none⟩) L.length c1, .slice (some ⟨gs, 0, none⟩) (L.length + 1) (L.length + 1), .slice (some ⟨gf, 0, none⟩) (L.length + 1) (L.length + 1), .slice (some ⟨gb, 0, none⟩) (L.length + 1) (L.length + 1)], .int .i64 a, .int .i64 q] u fun e w' => e = .returned (gv (sW L q - sW L (min (fBx L p) q) + atW (tg L q)) (sT L q - sT L (min (fBx L p) q)) (sS L q - sS L (min (fBx L p) q))) ∧ Below u.heap.size u w' :=
  lineGlue_i u _ L hall h1.2 rfl h.row h.pr.1 h.pr.2.2 a p q hp hpl hq
theorem PS.start {u : World} {B gp g c1 gs gf gb : Nat} {L : List It} (h : PS u B gp g c1 gs gf gb L) (h1 : 1 ≤ L.length ∧ L.length ≤ 60) (a : Int) (p q : Nat) (hp : a + 1 = (p : Int)) (hpl : p ≤ L.length) (hq : q ≤ L.length) :
    Calls Try.prog 121 #[.agg #[.slice (some ⟨g, 0, none⟩) L.length c1, .slice (some ⟨gs, 0, none⟩) (L.length + 1) (L.length + 1), .slice (some ⟨gf, 0, none⟩) (L.length + 1) (L.length + 1), .slice (some ⟨gb, 0, none⟩) (L.length + 1) (L.length + 1)], .int .i64 a, .int .i64 q] u fun e w' => e = .returned (.int .i64 ((min (fBx L p) q : Nat) : Int)) ∧ Below u.heap.size u w' :=
  start_i u _ _ _ L h1.2 rfl h.pr.2.2 a p q hp hpl hq

/-- What LineGlue answers. -/
noncomputable def lgO (L : List It) (a b : Int) : Value := if okL L a b then .tuple #[gv (lgW L a b) (lgT L a b) (lgS L a b), .bool true] else .tuple #[gv 0 0 0, .bool false]
theorem lgO_no {L : List It} {a b : Int} (h : okL L a b = false) : lgO L a b = .tuple #[gv 0 0 0, .bool false] := by simp [lgO, h]
theorem lgO_yes {L : List It} {a b : Int} {p q : Nat} (h : okL L a b = true) (hp : a + 1 = (p : Int)) (hq : b = (q : Int)) : lgO L a b = .tuple #[gv (sW L q - sW L (min (fBx L p) q) + atW (tg L q)) (sT L q - sT L (min (fBx L p) q)) (sS L q - sS L (min (fBx L p) q)), .bool true] := by
  unfold lgO
  rw [if_pos h]
  unfold lgW lgT lgS stA
  rw [hp, hq]; rfl
set_option maxRecDepth 8000 in
set_option maxHeartbeats 4000000 in
theorem LineGlue_i (w : World) (A : Option Addr) (n c : Nat) (L : List It) (h : TL w A n L) (hn : n ≤ 1048576) (a b : Int) (wa : -9223372036854775808 ≤ a ∧ a ≤ 9223372036854775807) (wb : -9223372036854775808 ≤ b ∧ b ≤ 9223372036854775807) :
    Calls Try.prog 62 #[.slice A n c, .int .i64 a, .int .i64 b] w fun e w' => e = .returned (lgO L a b) ∧ Below w.heap.size w w' := by
  have ME := hide (measure_i (w.alloc (.cells #[.int .i64 0, .int .i64 0, .int .i64 0] 70)) A n c L (h.alloc _) (by omega))
  obtain rfl : n = L.length := h.1
  clear h
  have r0 : (w.alloc (.cells #[.int .i64 0, .int .i64 0, .int .i64 0] 70)).cell? ⟨w.heap.size, 0, none⟩ = some (.int .i64 0) := by simp [go_sem]
  have r1 : (w.alloc (.cells #[.int .i64 0, .int .i64 0, .int .i64 0] 70)).cell? ⟨w.heap.size, 1, none⟩ = some (.int .i64 0) := by simp [go_sem]
  have r2 : (w.alloc (.cells #[.int .i64 0, .int .i64 0, .int .i64 0] 70)).cell? ⟨w.heap.size, 2, none⟩ = some (.int .i64 0) := by simp [go_sem]
  have f0 : (w.alloc (.cells #[.int .i64 0, .int .i64 0, .int .i64 0] 70)).frozen? ⟨w.heap.size, 0, none⟩ = false := by simp [go_sem]
  have f1 : (w.alloc (.cells #[.int .i64 0, .int .i64 0, .int .i64 0] 70)).frozen? ⟨w.heap.size, 1, none⟩ = false := by simp [go_sem]
  have f2 : (w.alloc (.cells #[.int .i64 0, .int .i64 0, .int .i64 0] 70)).frozen? ⟨w.heap.size, 2, none⟩ = false := by simp [go_sem]
  have lx : w.heap.size < (w.alloc (.cells #[.int .i64 0, .int .i64 0, .int .i64 0] 70)).heap.size := by simp
  have HB0 := hide (bl_alloc (bl_refl w) (.cells #[.int .i64 0, .int .i64 0, .int .i64 0] 70))
  have HBZ := hide (show w.heap.size ≤ (w.alloc (.cells #[.int .i64 0, .int .i64 0, .int .i64 0] 70)).heap.size by simp)
  cases hok : isOk L
  · have E := hide (lgO_no (L := L) (a := a) (b := b) (by simp [okL, hok]))
    rw [hok] at ME
    clear hok wa wb
    go_enter Try.func62, Try.ntmps62
    go_wp2_with fail
    (with_reducible refine ME.out.mono ?_)
    rintro e u1 ⟨v, rfl, hv, hv0, hb⟩
    obtain rfl := hv0 (by trivial)
    have r0 := keep_cell hb r0; have r1 := keep_cell hb r1; have r2 := keep_cell hb r2; have f0 := (hb.frozen (p := ⟨w.heap.size, 0, none⟩) lx).trans f0; have f1 := (hb.frozen (p := ⟨w.heap.size, 1, none⟩) lx).trans f1; have f2 := (hb.frozen (p := ⟨w.heap.size, 2, none⟩) lx).trans f2; have lx := Nat.lt_of_lt_of_le lx hb.size
    have HB1 := hide (bl_call hb HB0.out)
    clear hv hv0 hb
    go_wp2
    refine bodyPost_ret (v := .tuple #[gv 0 0 0, .bool false]) (by simp [results, Try.results62, go_sem, *]) rfl ⟨by rw [E.out], ?_⟩
    have hb9 := HB1.out
    (repeat' (first | with_reducible exact bl_refl _ | with_reducible assumption | with_reducible refine bl_alloc ?_ _ | with_reducible refine bl_set ?_ ?_ _ | with_reducible refine bl_drewN ?_ _ | with_reducible refine bl_drew ?_ | with_reducible refine bl_call (by assumption) ?_))
    (all_goals (first | omega | (simp; done) | (simp; omega)))
  · have HK := isOk_iff.1 hok
    have HALL := hide HK.1
    have hl60 := HK.2.1
    rw [hok] at ME
    clear HK
    cases hh : hasL L a b
    · have E := hide (lgO_no (L := L) (a := a) (b := b) (by simp [okL, hh]))
      clear hok
      go_enter Try.func62, Try.ntmps62
      go_wp2_with fail
      (with_reducible refine ME.out.mono ?_)
      rintro e u1 ⟨v, rfl, hv, hv0, hb⟩
      obtain ⟨g, c1, gs, gf, gb, rfl, hrow, hpr⟩ := hv (by trivial)
      have HPS := hide (ps_made hrow hpr)
      have r0 := keep_cell hb r0; have r1 := keep_cell hb r1; have r2 := keep_cell hb r2; have f0 := (hb.frozen (p := ⟨w.heap.size, 0, none⟩) lx).trans f0; have f1 := (hb.frozen (p := ⟨w.heap.size, 1, none⟩) lx).trans f1; have f2 := (hb.frozen (p := ⟨w.heap.size, 2, none⟩) lx).trans f2; have lx := Nat.lt_of_lt_of_le lx hb.size
      have HB1 := hide (bl_call hb HB0.out)
      have PH := HPS.out.hasLine HALL.out hl60 a b wa wb
      rw [hh] at PH
      have HPH := hide PH
      clear hv hv0 hb hrow hpr hh PH wa wb
      have r0 := keep_alloc r0 (.cells #[.slice (some ⟨g, 0, none⟩) L.length c1, .slice (some ⟨gs, 0, none⟩) (L.length + 1) (L.length + 1), .slice (some ⟨gf, 0, none⟩) (L.length + 1) (L.length + 1), .slice (some ⟨gb, 0, none⟩) (L.length + 1) (L.length + 1)] 92); have r1 := keep_alloc r1 (.cells #[.slice (some ⟨g, 0, none⟩) L.length c1, .slice (some ⟨gs, 0, none⟩) (L.length + 1) (L.length + 1), .slice (some ⟨gf, 0, none⟩) (L.length + 1) (L.length + 1), .slice (some ⟨gb, 0, none⟩) (L.length + 1) (L.length + 1)] 92); have r2 := keep_alloc r2 (.cells #[.slice (some ⟨g, 0, none⟩) L.length c1, .slice (some ⟨gs, 0, none⟩) (L.length + 1) (L.length + 1), .slice (some ⟨gf, 0, none⟩) (L.length + 1) (L.length + 1), .slice (some ⟨gb, 0, none⟩) (L.length + 1) (L.length + 1)] 92); have f0 := (World.frozen?_alloc_past (.cells #[.slice (some ⟨g, 0, none⟩) L.length c1, .slice (some ⟨gs, 0, none⟩) (L.length + 1) (L.length + 1), .slice (some ⟨gf, 0, none⟩) (L.length + 1) (L.length + 1), .slice (some ⟨gb, 0, none⟩) (L.length + 1) (L.length + 1)] 92) w.heap.size 0 lx).trans f0; have f1 := (World.frozen?_alloc_past (.cells #[.slice (some ⟨g, 0, none⟩) L.length c1, .slice (some ⟨gs, 0, none⟩) (L.length + 1) (L.length + 1), .slice (some ⟨gf, 0, none⟩) (L.length + 1) (L.length + 1), .slice (some ⟨gb, 0, none⟩) (L.length + 1) (L.length + 1)] 92) w.heap.size 1 lx).trans f1; have f2 := (World.frozen?_alloc_past (.cells #[.slice (some ⟨g, 0, none⟩) L.length c1, .slice (some ⟨gs, 0, none⟩) (L.length + 1) (L.length + 1), .slice (some ⟨gf, 0, none⟩) (L.length + 1) (L.length + 1), .slice (some ⟨gb, 0, none⟩) (L.length + 1) (L.length + 1)] 92) w.heap.size 2 lx).trans f2
      have HB1 := hide (bl_alloc HB1.out (.cells #[.slice (some ⟨g, 0, none⟩) L.length c1, .slice (some ⟨gs, 0, none⟩) (L.length + 1) (L.length + 1), .slice (some ⟨gf, 0, none⟩) (L.length + 1) (L.length + 1), .slice (some ⟨gb, 0, none⟩) (L.length + 1) (L.length + 1)] 92))
      have lx : w.heap.size < (u1.alloc (.cells #[.slice (some ⟨g, 0, none⟩) L.length c1, .slice (some ⟨gs, 0, none⟩) (L.length + 1) (L.length + 1), .slice (some ⟨gf, 0, none⟩) (L.length + 1) (L.length + 1), .slice (some ⟨gb, 0, none⟩) (L.length + 1) (L.length + 1)] 92)).heap.size := Nat.lt_of_lt_of_le lx (by simp)
      have k0 := HPS.out.k0
      have k1 := HPS.out.k1
      have k2 := HPS.out.k2
      have k3 := HPS.out.k3
      go_wp2_with fail
      (with_reducible refine HPH.out.mono ?_)
      rintro e u2 ⟨rfl, hb⟩
      have r0 := keep_cell hb r0; have r1 := keep_cell hb r1; have r2 := keep_cell hb r2; have f0 := (hb.frozen (p := ⟨w.heap.size, 0, none⟩) lx).trans f0; have f1 := (hb.frozen (p := ⟨w.heap.size, 1, none⟩) lx).trans f1; have f2 := (hb.frozen (p := ⟨w.heap.size, 2, none⟩) lx).trans f2; have lx := Nat.lt_of_lt_of_le lx hb.size
      have HB2 := hide (bl_call hb HB1.out)
      clear hb k0 k1 k2 k3
      go_wp2
      refine bodyPost_ret (v := .tuple #[gv 0 0 0, .bool false]) (by simp [results, Try.results62, go_sem, *]) rfl ⟨by rw [E.out], ?_⟩
      have hb9 := HB2.out
      (repeat' (first | with_reducible exact bl_refl _ | with_reducible assumption | with_reducible refine bl_alloc ?_ _ | with_reducible refine bl_set ?_ ?_ _ | with_reducible refine bl_drewN ?_ _ | with_reducible refine bl_drew ?_ | with_reducible refine bl_call (by assumption) ?_))
      (all_goals (first | omega | (simp; done) | (simp; omega)))
    · have hol : okL L a b = true := by simp [okL, hok, hh]
      obtain ⟨p, q, hp, rfl, hpq, hq, _⟩ := hasL_of hh
      have E := hide (lgO_yes hol hp rfl)
      clear hok hol
      go_enter Try.func62, Try.ntmps62
      go_wp2_with fail
      (with_reducible refine ME.out.mono ?_)
      rintro e u1 ⟨v, rfl, hv, hv0, hb⟩
      obtain ⟨g, c1, gs, gf, gb, rfl, hrow, hpr⟩ := hv (by trivial)
      have HPS := hide (ps_made hrow hpr)
      have r0 := keep_cell hb r0; have r1 := keep_cell hb r1; have r2 := keep_cell hb r2; have f0 := (hb.frozen (p := ⟨w.heap.size, 0, none⟩) lx).trans f0; have f1 := (hb.frozen (p := ⟨w.heap.size, 1, none⟩) lx).trans f1; have f2 := (hb.frozen (p := ⟨w.heap.size, 2, none⟩) lx).trans f2; have lx := Nat.lt_of_lt_of_le lx hb.size
      have HB1 := hide (bl_call hb HB0.out)
      have PH := HPS.out.hasLine HALL.out hl60 a q wa wb
      rw [hh] at PH
      have HPH := hide PH
      have HLG := hide (fun (u : World) (hu : PS u w.heap.size u1.heap.size g c1 gs gf gb L) => hu.lineGlue HALL.out hl60 a p q hp (by omega) hq)
      clear hv hv0 hb hrow hpr hh PH wa wb hp
      have r0 := keep_alloc r0 (.cells #[.slice (some ⟨g, 0, none⟩) L.length c1, .slice (some ⟨gs, 0, none⟩) (L.length + 1) (L.length + 1), .slice (some ⟨gf, 0, none⟩) (L.length + 1) (L.length + 1), .slice (some ⟨gb, 0, none⟩) (L.length + 1) (L.length + 1)] 92); have r1 := keep_alloc r1 (.cells #[.slice (some ⟨g, 0, none⟩) L.length c1, .slice (some ⟨gs, 0, none⟩) (L.length + 1) (L.length + 1), .slice (some ⟨gf, 0, none⟩) (L.length + 1) (L.length + 1), .slice (some ⟨gb, 0, none⟩) (L.length + 1) (L.length + 1)] 92); have r2 := keep_alloc r2 (.cells #[.slice (some ⟨g, 0, none⟩) L.length c1, .slice (some ⟨gs, 0, none⟩) (L.length + 1) (L.length + 1), .slice (some ⟨gf, 0, none⟩) (L.length + 1) (L.length + 1), .slice (some ⟨gb, 0, none⟩) (L.length + 1) (L.length + 1)] 92); have f0 := (World.frozen?_alloc_past (.cells #[.slice (some ⟨g, 0, none⟩) L.length c1, .slice (some ⟨gs, 0, none⟩) (L.length + 1) (L.length + 1), .slice (some ⟨gf, 0, none⟩) (L.length + 1) (L.length + 1), .slice (some ⟨gb, 0, none⟩) (L.length + 1) (L.length + 1)] 92) w.heap.size 0 lx).trans f0; have f1 := (World.frozen?_alloc_past (.cells #[.slice (some ⟨g, 0, none⟩) L.length c1, .slice (some ⟨gs, 0, none⟩) (L.length + 1) (L.length + 1), .slice (some ⟨gf, 0, none⟩) (L.length + 1) (L.length + 1), .slice (some ⟨gb, 0, none⟩) (L.length + 1) (L.length + 1)] 92) w.heap.size 1 lx).trans f1; have f2 := (World.frozen?_alloc_past (.cells #[.slice (some ⟨g, 0, none⟩) L.length c1, .slice (some ⟨gs, 0, none⟩) (L.length + 1) (L.length + 1), .slice (some ⟨gf, 0, none⟩) (L.length + 1) (L.length + 1), .slice (some ⟨gb, 0, none⟩) (L.length + 1) (L.length + 1)] 92) w.heap.size 2 lx).trans f2
      have HB1 := hide (bl_alloc HB1.out (.cells #[.slice (some ⟨g, 0, none⟩) L.length c1, .slice (some ⟨gs, 0, none⟩) (L.length + 1) (L.length + 1), .slice (some ⟨gf, 0, none⟩) (L.length + 1) (L.length + 1), .slice (some ⟨gb, 0, none⟩) (L.length + 1) (L.length + 1)] 92))
      have lx : w.heap.size < (u1.alloc (.cells #[.slice (some ⟨g, 0, none⟩) L.length c1, .slice (some ⟨gs, 0, none⟩) (L.length + 1) (L.length + 1), .slice (some ⟨gf, 0, none⟩) (L.length + 1) (L.length + 1), .slice (some ⟨gb, 0, none⟩) (L.length + 1) (L.length + 1)] 92)).heap.size := Nat.lt_of_lt_of_le lx (by simp)
      have HPS := hide (show PS _ w.heap.size u1.heap.size g c1 gs gf gb L from ⟨HPS.out.k0, HPS.out.k1, HPS.out.k2, HPS.out.k3, World.ownsRow.mono HPS.out.row HBZ.out, pr_mono HPS.out.pr HBZ.out⟩)
      have k0 := HPS.out.k0
      have k1 := HPS.out.k1
      have k2 := HPS.out.k2
      have k3 := HPS.out.k3
      go_wp2_with fail
      (with_reducible refine HPH.out.mono ?_)
      rintro e u2 ⟨rfl, hb⟩
      have r0 := keep_cell hb r0; have r1 := keep_cell hb r1; have r2 := keep_cell hb r2; have f0 := (hb.frozen (p := ⟨w.heap.size, 0, none⟩) lx).trans f0; have f1 := (hb.frozen (p := ⟨w.heap.size, 1, none⟩) lx).trans f1; have f2 := (hb.frozen (p := ⟨w.heap.size, 2, none⟩) lx).trans f2; have lx := Nat.lt_of_lt_of_le lx hb.size
      have HB2 := hide (bl_call hb HB1.out)
      have k0 := keep_cell hb k0
      have k1 := keep_cell hb k1
      have k2 := keep_cell hb k2
      have k3 := keep_cell hb k3
      have HPS2 := hide (HPS.out.below hb)
      clear hb
      go_wp2_with fail
      (with_reducible refine (HLG.out _ HPS2.out).mono ?_)
      rintro e u3 ⟨rfl, hb⟩
      have r0 := keep_cell hb r0; have r1 := keep_cell hb r1; have r2 := keep_cell hb r2; have f0 := (hb.frozen (p := ⟨w.heap.size, 0, none⟩) lx).trans f0; have f1 := (hb.frozen (p := ⟨w.heap.size, 1, none⟩) lx).trans f1; have f2 := (hb.frozen (p := ⟨w.heap.size, 2, none⟩) lx).trans f2; have lx := Nat.lt_of_lt_of_le lx hb.size
      have HB3 := hide (bl_call hb HB2.out)
      clear hb k0 k1 k2 k3
      obtain ⟨z0, hz0⟩ : ∃ z, z = sW L q - sW L (min (fBx L p) q) + atW (tg L q) := ⟨_, rfl⟩
      obtain ⟨z1, hz1⟩ : ∃ z, z = sT L q - sT L (min (fBx L p) q) := ⟨_, rfl⟩
      obtain ⟨z2, hz2⟩ : ∃ z, z = sS L q - sS L (min (fBx L p) q) := ⟨_, rfl⟩
      rw [← hz0, ← hz1, ← hz2] at E ⊢
      clear hz0 hz1 hz2
      go_wp2
      refine bodyPost_ret (v := .tuple #[gv z0 z1 z2, .bool true]) (by simp [results, Try.results62, go_sem, *]) rfl ⟨by rw [E.out], ?_⟩
      have hb9 := HB3.out
      (repeat' (first | with_reducible exact bl_refl _ | with_reducible assumption | with_reducible refine bl_alloc ?_ _ | with_reducible refine bl_set ?_ ?_ _ | with_reducible refine bl_drewN ?_ _ | with_reducible refine bl_drew ?_ | with_reducible refine bl_call (by assumption) ?_))
      (all_goals (first | omega | (simp; done) | (simp; omega)))
end Go.Proofs.Ytafddofajfcffaa
