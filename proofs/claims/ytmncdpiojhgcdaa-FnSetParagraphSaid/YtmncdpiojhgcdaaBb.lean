/- BestBreaks and LeastLines in the program. -/
import Derived.Test.YtmncdpiojhgcdaaPlc
import Derived.Test.YtmncdpiojhgcdaaSb
namespace Go.Proofs.Ytmncdpiojhgcdaa
open Go.ChangeShapes Go.WideShapes Go.ChangeAt Go.RowKit
set_option linter.unusedVariables false
set_option linter.unusedSimpArgs false

/-- What a function leaves that returns a list that it made, a number and whether it succeeded. -/
def RetW (w : World) (o : List Int × Int × Bool) (e : Ending) (w' : World) : Prop := ∃ A c, e = .returned (.tuple #[.slice A o.1.length c, .int .i64 o.2.1, .bool o.2.2]) ∧ OL w' 3 w.heap.size A c o.1 ∧ Below w.heap.size w w'
theorem RetW.no {w w' : World} {o : List Int × Int × Bool} (h : o = ([], 0, false)) (hb : Below w.heap.size w w') : RetW w o (.returned (.tuple #[.slice none 0 0, .int .i64 0, .bool false])) w' := by
  subst h
  exact ⟨none, 0, rfl, OL.nil _ _ _, hb⟩
theorem RetW.up {w u w' : World} {o : List Int × Int × Bool} {e : Ending} (h : RetW u o e w') (hb : Below w.heap.size w u) : RetW w o e w' := by
  obtain ⟨A, c, h1, h2, h3⟩ := h
  exact ⟨A, c, h1, h2.more hb.size, bl_call h3 hb⟩
theorem least_lines (w : World) {B gp g c1 gs gf gb : Nat} (L : List It) (hps : PS w B gp g c1 gs gf gb L) (ok : isOk L = true) (C : Int → Int → Int × Bool) (hC : ∀ a b, (C a b).2 = true → hasL L a b = true) (hM : ∀ a b, -200000000 ≤ (C a b).1 ∧ (C a b).1 ≤ 200000000) (q1 q2 q3 : Value)
    (HC : ∀ u, Below w.heap.size w u → ∀ (x a b : Int), (-1 ≤ a ∧ a ≤ 60) → (-1 ≤ b ∧ b ≤ 60) → Calls Try.prog 130 #[.int .i64 x, .int .i64 a, .int .i64 b, q1, q2, q3] u fun e u' => e = .returned (.tuple #[.int .i64 (C a b).1, .bool (C a b).2]) ∧ Below u.heap.size u u') :
    Calls Try.prog 70 #[.int .i64 (-1), .func (.func 122) #[] #[.pointer (some ⟨gp, 0, none⟩)], .func (.func 130) #[] #[q1, q2, q3], .bool false] w (RetW w (dpR (gB C) ndB L.length)) := by
  have DP := isDp_lines (L := L) hC
  obtain ⟨n0, n1, n2, n3⟩ := nbB_top ok
  have hl60 := (isOk_iff.1 ok).2.1.2
  have hR := lwR_dp DP n2
  rw [n1] at hR
  have BD : ∀ j d, dpD (gB C) j = some d → d.2.2 ≤ j ∧ -(200000000 * (d.2.2 : Int)) ≤ d.1 ∧ d.1 ≤ 200000000 * d.2.2 := fun j d e => dpD_bd (g := gB C) (M := 200000000) (fun i j n e => gB_bd hM e) (j + 1) (Nat.lt_succ_self j) e
  have := leastWay_i w (-1) 122 130 #[.pointer (some ⟨gp, 0, none⟩)] #[q1, q2, q3] (fun _ a b => C a b) false (plB L) (nbB L)
    (places_seq w L hps ok) (enters_of Try.func122 (by kernel_rfl) rfl)
    (fun k u hk hb hws => by
      have hlen := lwS_len DP (k := k) (by omega)
      have hpk := piB_mono (L := L) (k := k) (m := nbB L) (Nat.le_refl _) (by omega)
      rw [n1] at hpk
      have hlw := lwS_dp DP (k := k) (by omega)
      have hpos := lwS_pos (C := fun _ a b => C a b) (cnt := false) (start := -1) (pl := plB L) (k := k)
      have HW : ∀ i, i < (lwS (fun _ a b => C a b) false (-1) (plB L) k).1.length → ∃ j d, j < piB L k + 1 ∧ dpD (gB C) j = some d ∧ tg (lwS (fun _ a b => C a b) false (-1) (plB L) k).1 i = wyN (gB C) ndB j d := fun i hi => by
        rw [hlw] at hi ⊢
        obtain ⟨j, d, e1, e2, _, e4⟩ := Wn_at hi
        exact ⟨j, d, e1, e2, e4⟩
      refine extend_lines u (w.heap.size + 1) (w.heap.size + 1 + 1) _ _ false _ (fun _ a b => C a b) _ _ _ hws hpos.1 (by omega) hpos.2 ?_ ?_ ?_
      · intro i hi
        obtain ⟨j, d, e1, e2, e3⟩ := HW i hi
        rw [e3]
        have := BD j d e2
        simp only [wyN]
        omega
      · intro i a b
        have := hM a b
        show -1000000000000 ≤ (C a b).1 ∧ (C a b).1 ≤ 1000000000000
        omega
      · intro v hv i _ hi
        obtain ⟨j, d, e1, e2, e3⟩ := HW i hi
        rw [e3]
        obtain ⟨q, a1, _, _, _, a5⟩ := piB_at hk
        rw [a5]
        have hb2 : Below w.heap.size w v := hb.trans (hv.mono (by omega))
        exact HC v hb2 _ ((j : Int) - 1) q (by omega) (by omega))
    (by have h1 := lwS_len DP (k := nbB L) (Nat.le_refl _)
        rw [n1] at h1
        omega)
    (lw_ok DP n2 (K := 1000000) (by rw [n1]; omega) (fun j d _ e => (BD j d e).1))
  rw [hR] at this
  exact this
theorem least_counts (w : World) {B gp g c1 gs gf gb : Nat} (L : List It) (hps : PS w B gp g c1 gs gf gb L) (ok : isOk L = true) (C : Int → Int → Int × Bool) (hC : ∀ a b, (C a b).2 = true → hasL L a b = true) (hM : ∀ a b, -200000000 ≤ (C a b).1 ∧ (C a b).1 ≤ 200000000) (q1 q2 q3 : Value)
    (HC : ∀ u, Below w.heap.size w u → ∀ (x a b : Int), (-1 ≤ a ∧ a ≤ 60) → (-1 ≤ b ∧ b ≤ 60) → Calls Try.prog 68 #[.int .i64 x, .int .i64 a, .int .i64 b, q1, q2, q3] u fun e u' => e = .returned (.tuple #[.int .i64 (C a b).1, .bool (C a b).2]) ∧ Below u.heap.size u u') :
    Calls Try.prog 70 #[.int .i64 (-1), .func (.func 122) #[] #[.pointer (some ⟨gp, 0, none⟩)], .func (.func 68) #[] #[q1, q2, q3], .bool false] w (RetW w (dpR (gB C) ndB L.length)) := by
  have DP := isDp_lines (L := L) hC
  obtain ⟨n0, n1, n2, n3⟩ := nbB_top ok
  have hl60 := (isOk_iff.1 ok).2.1.2
  have hR := lwR_dp DP n2
  rw [n1] at hR
  have BD : ∀ j d, dpD (gB C) j = some d → d.2.2 ≤ j ∧ -(200000000 * (d.2.2 : Int)) ≤ d.1 ∧ d.1 ≤ 200000000 * d.2.2 := fun j d e => dpD_bd (g := gB C) (M := 200000000) (fun i j n e => gB_bd hM e) (j + 1) (Nat.lt_succ_self j) e
  have := leastWay_i w (-1) 122 68 #[.pointer (some ⟨gp, 0, none⟩)] #[q1, q2, q3] (fun _ a b => C a b) false (plB L) (nbB L)
    (places_seq w L hps ok) (enters_of Try.func122 (by kernel_rfl) rfl)
    (fun k u hk hb hws => by
      have hlen := lwS_len DP (k := k) (by omega)
      have hpk := piB_mono (L := L) (k := k) (m := nbB L) (Nat.le_refl _) (by omega)
      rw [n1] at hpk
      have hlw := lwS_dp DP (k := k) (by omega)
      have hpos := lwS_pos (C := fun _ a b => C a b) (cnt := false) (start := -1) (pl := plB L) (k := k)
      have HW : ∀ i, i < (lwS (fun _ a b => C a b) false (-1) (plB L) k).1.length → ∃ j d, j < piB L k + 1 ∧ dpD (gB C) j = some d ∧ tg (lwS (fun _ a b => C a b) false (-1) (plB L) k).1 i = wyN (gB C) ndB j d := fun i hi => by
        rw [hlw] at hi ⊢
        obtain ⟨j, d, e1, e2, _, e4⟩ := Wn_at hi
        exact ⟨j, d, e1, e2, e4⟩
      refine extend_counts u (w.heap.size + 1) (w.heap.size + 1 + 1) _ _ false _ (fun _ a b => C a b) _ _ _ hws hpos.1 (by omega) hpos.2 ?_ ?_ ?_
      · intro i hi
        obtain ⟨j, d, e1, e2, e3⟩ := HW i hi
        rw [e3]
        have := BD j d e2
        simp only [wyN]
        omega
      · intro i a b
        have := hM a b
        show -1000000000000 ≤ (C a b).1 ∧ (C a b).1 ≤ 1000000000000
        omega
      · intro v hv i _ hi
        obtain ⟨j, d, e1, e2, e3⟩ := HW i hi
        rw [e3]
        obtain ⟨q, a1, _, _, _, a5⟩ := piB_at hk
        rw [a5]
        have hb2 : Below w.heap.size w v := hb.trans (hv.mono (by omega))
        exact HC v hb2 _ ((j : Int) - 1) q (by omega) (by omega))
    (by have h1 := lwS_len DP (k := nbB L) (Nat.le_refl _)
        rw [n1] at h1
        omega)
    (lw_ok DP n2 (K := 1000000) (by rw [n1]; omega) (fun j d _ e => (BD j d e).1))
  rw [hR] at this
  exact this
set_option maxRecDepth 8000 in
set_option maxHeartbeats 4000000 in
theorem BestBreaks_i (w : World) (A : Option Addr) (n c : Nat) (L : List It) (d t : Int) (h : TL w A n L) (hn : n ≤ 1048576) :
    Calls Try.prog 26 #[.slice A n c, .int .i64 d, .int .i64 t] w (RetW w (bbV L d t)) := by
  have ME := hide (measure_i w A n c L h (by omega))
  obtain rfl : n = L.length := h.1
  clear h
  cases hok : isOk L
  · have O := hide (bbV_no (d := d) (t := t) hok)
    rw [hok] at ME
    clear hok
    go_enter Try.func26, Try.ntmps26
    go_wp2_with fail
    (with_reducible refine ME.out.mono ?_)
    rintro e u1 ⟨v, rfl, hv, hv0, hb⟩
    obtain rfl := hv0 (by trivial)
    have HB1 := hide hb
    clear hv hv0 hb
    go_wp2
    refine bodyPost_ret (v := .tuple #[.slice none 0 0, .int .i64 0, .bool false]) (by simp [results, Try.results26, go_sem]) rfl ?_
    exact RetW.no O.out (bl_alloc HB1.out _)
  · have HK := isOk_iff.1 hok
    have HALL := hide HK.1
    have hl60 := HK.2.1
    have HOK := hide hok
    have O := hide (bbV_yes (d := d) (t := t) hok)
    rw [hok] at ME
    rw [O.out]
    obtain ⟨R, hR⟩ : ∃ R, R = dpR (gB fun a b => coL L a b d t) ndB L.length := ⟨_, rfl⟩
    rw [← hR]
    have HR := hide hR
    clear hR
    have CB := hide (fun p q => coL_bd HALL.out p q d t)
    clear HK hok
    go_enter Try.func26, Try.ntmps26
    go_wp2_with fail
    (with_reducible refine ME.out.mono ?_)
    rintro e u1 ⟨v, rfl, hv, hv0, hb⟩
    obtain ⟨g, c1, gs, gf, gb, rfl, hrow, hpr⟩ := hv (by trivial)
    have HPS := hide (ps_made hrow hpr)
    have HB1 := hide (bl_alloc hb (.cells #[.slice (some ⟨g, 0, none⟩) L.length c1, .slice (some ⟨gs, 0, none⟩) (L.length + 1) (L.length + 1), .slice (some ⟨gf, 0, none⟩) (L.length + 1) (L.length + 1), .slice (some ⟨gb, 0, none⟩) (L.length + 1) (L.length + 1)] 82))
    clear hv hv0 hb hrow hpr
    have k0 := HPS.out.k0
    have k1 := HPS.out.k1
    have k2 := HPS.out.k2
    have k3 := HPS.out.k3
    go_upto_region 4 with fail
    obtain ⟨W, hW⟩ : ∃ W, W = u1.alloc (.cells #[.slice (some ⟨g, 0, none⟩) L.length c1, .slice (some ⟨gs, 0, none⟩) (L.length + 1) (L.length + 1), .slice (some ⟨gf, 0, none⟩) (L.length + 1) (L.length + 1), .slice (some ⟨gb, 0, none⟩) (L.length + 1) (L.length + 1)] 82) := ⟨_, rfl⟩
    rw [← hW] at HPS HB1 k0 k1 k2 k3
    have LP := hide (fun (u : World) (hu : Below W.heap.size W u) (b1 b2 b3 b4 bw : Nat) (hp1 : PS u w.heap.size b1 g c1 gs gf gb L) (hp2 : PS u w.heap.size b2 g c1 gs gf gb L) (e3 : u.cell? ⟨b3, 0, none⟩ = some (.func (.func 131) #[] #[.pointer (some ⟨bw, 0, none⟩)])) (e4 : u.cell? ⟨b4, 0, none⟩ = some (.int .i64 t)) (ew : u.cell? ⟨bw, 0, none⟩ = some (.int .i64 d)) =>
      least_lines u L hp1 HOK.out (fun a b => coL L a b d t) cl_has CB.out (.pointer (some ⟨b2, 0, none⟩)) (.pointer (some ⟨b3, 0, none⟩)) (.pointer (some ⟨b4, 0, none⟩)) (fun v hv x a b wa wb => lines1_i v L (hp2.below hv) HALL.out hl60 x a b d t (by omega) (by omega) (keep_cell hv e3) (keep_cell hv e4) (keep_cell hv ew)))
    rw [← HR.out] at LP
    rw [← hW]
    have HWW := hide hW
    clear hW CB O HOK ME HR
    have S0 := bl_drew (bl_refl W)
    refine wp_region_held_drew (S := fun u : World => Below W.heap.size W u) (by kernel_rfl) (S0) (fun hHeld => ?_)
    refine tkY (i := 0) (oi := ?_) (v := ?_) ?_ (by kernel_rfl) ?_ ?_ ?_ (by assumption) ?_; rotate_left 2; (next => simp only [tka, tkb, tkc]; rfl); (next => exact fun _ _ _ h => h); (next => rfl); (next => intro w_ hSw; (try dsimp only at hSw); have k0 := keep_cell hSw k0; have k1 := keep_cell hSw k1; have k2 := keep_cell hSw k2; have k3 := keep_cell hSw k3; go_simp; (try (with_reducible rfl))); (try simp only [Act.put, tkd, tke, tkf])
    refine tkY (i := 2) (oi := ?_) (v := ?_) ?_ (by kernel_rfl) ?_ ?_ ?_ (by assumption) ?_; rotate_left 2; (next => simp only [tka, tkb, tkc]; rfl); (next => exact fun _ _ _ h => h); (next => rfl); (next => intro w_ hSw; (try dsimp only at hSw); have k0 := keep_cell hSw k0; have k1 := keep_cell hSw k1; have k2 := keep_cell hSw k2; have k3 := keep_cell hSw k3; go_simp; (try (with_reducible rfl))); (try simp only [Act.put, tkd, tke, tkf])
    (first | refine tky 3 (h := ?_) | refine tkn 3 (h := ?_)); (try simp only [Act.put, tkd, tke, tkf])
    (first | refine tky 5 (h := ?_) | refine tkn 5 (h := ?_)); (try simp only [Act.put, tkd, tke, tkf])
    refine wpAnyH_ready (rs := [1]) (by kernel_rfl) (by simp) ?_; refine AllReadyH.cons (o := ?_) ?_ (fun K hK => ?_) AllReadyH.nil; rotate_left 1; (next => simp only [List.getElem?_toArray, List.getElem?_cons_succ, List.getElem?_cons_zero]; rfl); go_simp
    go_at_call 71
    (with_reducible refine (places_i _ _ _ _ _).mono ?_)
    rintro e w' ⟨rfl, rfl⟩
    (try go_wp2_with fail); refine hK.out _ _ ((by repeat' (first | exact bl_refl _ | refine bl_drew ?_ | refine bl_alloc ?_ _))) (fun hHeld => ?_); clear hK K; (try simp only [Act.put, List.setIfInBounds_toArray, List.set_cons_zero, List.set_cons_succ])
    refine wpAnyH_ready (rs := [4]) (by kernel_rfl) (by simp) ?_; refine AllReadyH.cons (o := ?_) ?_ (fun K hK => ?_) AllReadyH.nil; rotate_left 1; (next => simp only [List.getElem?_toArray, List.getElem?_cons_succ, List.getElem?_cons_zero]; rfl); go_simp
    go_at_call 80
    (with_reducible refine (sameWidth_i _ _).mono ?_)
    rintro e w' ⟨rfl, rfl⟩
    (try go_wp2_with fail); refine hK.out _ _ ((by repeat' (first | exact bl_refl _ | refine bl_drew ?_ | refine bl_alloc ?_ _))) (fun hHeld => ?_); clear hK K; (try simp only [Act.put, List.setIfInBounds_toArray, List.set_cons_zero, List.set_cons_succ])
    refine wpAnyH_ready (rs := [6]) (by kernel_rfl) (by simp) ?_; refine AllReadyH.cons (o := ?_) ?_ (fun K hK => ?_) AllReadyH.nil; rotate_left 1; (next => simp only [List.getElem?_toArray, List.getElem?_cons_succ, List.getElem?_cons_zero]; rfl); go_simp
    go_at_call 79
    (with_reducible refine (costBy_i _ _ _ _ _ _ _ _).mono ?_)
    rintro e w' ⟨rfl, rfl⟩
    (try go_wp2_with fail); refine hK.out _ _ ((by repeat' (first | exact bl_refl _ | refine bl_drew ?_ | refine bl_alloc ?_ _))) (fun hHeld => ?_); clear hK K; (try simp only [Act.put, List.setIfInBounds_toArray, List.set_cons_zero, List.set_cons_succ])
    refine wpAnyH_ready (rs := [7]) (by kernel_rfl) (by simp) ?_; refine AllReadyH.cons (o := ?_) ?_ (fun K hK => ?_) AllReadyH.nil; rotate_left 1; (next => simp only [List.getElem?_toArray, List.getElem?_cons_succ, List.getElem?_cons_zero]; rfl); go_simp
    go_at_call 70
    (with_reducible refine (LP.out _ ?_ _ _ _ _ (W.heap.size + 1) ?_ ?_ ?_ ?_ ?_).mono ?_)
    · exact (by repeat' (first | exact bl_refl _ | refine bl_drew ?_ | refine bl_alloc ?_ _))
    · have h5 := HPS.out.copy
      refine h5.below ?_
      exact (by repeat' (first | exact bl_refl _ | refine bl_drew ?_ | refine bl_alloc ?_ _))
    · have h5 := ((HPS.out.below (bl_alloc (bl_refl _) (.cells #[.slice (some ⟨g, 0, none⟩) L.length c1, .slice (some ⟨gs, 0, none⟩) (L.length + 1) (L.length + 1), .slice (some ⟨gf, 0, none⟩) (L.length + 1) (L.length + 1), .slice (some ⟨gb, 0, none⟩) (L.length + 1) (L.length + 1)] 82))).below (bl_alloc (bl_refl _) (.cells #[.int .i64 d] 3))).copy
      rw [show ((W.alloc (.cells #[.slice (some ⟨g, 0, none⟩) L.length c1, .slice (some ⟨gs, 0, none⟩) (L.length + 1) (L.length + 1), .slice (some ⟨gf, 0, none⟩) (L.length + 1) (L.length + 1), .slice (some ⟨gb, 0, none⟩) (L.length + 1) (L.length + 1)] 82)).alloc (.cells #[.int .i64 d] 3)).heap.size = W.heap.size + 1 + 1 by simp] at h5
      refine h5.below ?_
      exact (by repeat' (first | exact bl_refl _ | refine bl_drew ?_ | refine bl_alloc ?_ _))
    · simp [go_sem]
    · simp [go_sem]
    · simp [go_sem]
    rintro e u2 hret
    obtain ⟨A2, c2, rfl, ho2, hb⟩ := hret.up (show Below W.heap.size W _ from (by repeat' (first | exact bl_refl _ | refine bl_drew ?_ | refine bl_alloc ?_ _)))
    have HO2 := hide (ho2.more HB1.out.size)
    have HB2 := hide hb
    clear hb ho2
    obtain ⟨R1, R2, R3⟩ := R
    (try go_wp2_with fail); refine hK.out _ _ (HB2.out) (fun hHeld => ?_); clear hK K; (try simp only [Act.put, List.setIfInBounds_toArray, List.set_cons_zero, List.set_cons_succ])
    (first | refine tky 8 (h := ?_) | refine tkn 8 (h := ?_)); (try simp only [Act.put, tkd, tke, tkf])
    (first | refine tky 9 (h := ?_) | refine tkn 9 (h := ?_)); (try simp only [Act.put, tkd, tke, tkf])
    (first | refine tky 10 (h := ?_) | refine tkn 10 (h := ?_)); (try simp only [Act.put, tkd, tke, tkf])
    (first | refine tky 11 (h := ?_) | refine tkn 11 (h := ?_)); (try simp only [Act.put, tkd, tke, tkf])
    (first | refine tky 12 (h := ?_) | refine tkn 12 (h := ?_)); (try simp only [Act.put, tkd, tke, tkf])
    (first | refine tky 13 (h := ?_) | refine tkn 13 (h := ?_)); (try simp only [Act.put, tkd, tke, tkf])
    refine wpAnyH_done (by kernel_rfl) ?_ _
    go_wp2
    refine bodyPost_ret (v := .tuple #[.slice A2 R1.length c2, .int .i64 R2, .bool R3]) (by simp [results, Try.results26, go_sem]) rfl ?_
    exact ⟨A2, c2, rfl, HO2.out, bl_call HB2.out HB1.out⟩
end Go.Proofs.Ytmncdpiojhgcdaa
