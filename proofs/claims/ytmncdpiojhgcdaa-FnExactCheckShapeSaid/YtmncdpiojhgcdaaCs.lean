/- The costs of the lines of a shape as closures, and CheckShape, in the program. -/
import Derived.Test.YtmncdpiojhgcdaaCb
import Derived.Test.YtmncdpiojhgcdaaShapeI
namespace Go.Proofs.Ytmncdpiojhgcdaa
open Go.ChangeShapes Go.WideShapes Go.ChangeAt Go.RowKit
set_option linter.unusedVariables false
set_option linter.unusedSimpArgs false
open Classical

/-- The width of a line of a shape. -/
def wdt (S : List Int) (i : Nat) : Int := ng S (min i (S.length - 1))
theorem wdt_bd {S : List Int} (h : okShape S = true) (i : Nat) : 1 ≤ wdt S i ∧ wdt S i ≤ 10000 := by
  obtain ⟨h1, h2⟩ := okShape_iff.1 h
  exact h2 _ (by omega)
/-- What CheckShape answers. -/
noncomputable def csO (L : List It) (S : List Int) (t : Int) (E : List Int) : Int × Bool := if okShape S then cbV L E (fun i a b => coL L a b (wdt S i) t) else (0, false)
theorem csO_bad {L : List It} {S : List Int} {t : Int} {E : List Int} (h : okShape S = false) : csO L S t E = (0, false) := by unfold csO; rw [h]; rfl
theorem csO_ok {L : List It} {S : List Int} {t : Int} {E : List Int} (h : okShape S = true) : csO L S t E = cbV L E (fun i a b => coL L a b (wdt S i) t) := by unfold csO; rw [if_pos h]
theorem csO_no {L : List It} {S : List Int} {t : Int} {E : List Int} (h : isOk L = false) : csO L S t E = (0, false) := by
  unfold csO
  split
  · exact cbV_no (by rw [h]; rfl)
  · rfl
/-- A shape of one width. -/
theorem csO_one {L : List It} {d t : Int} {E : List Int} : csO L [d] t E = cbO L d t E := by
  cases q : okShape [d]
  · rw [csO_bad q, cbO_eq]
    have hd : inB d 1 10000 = false := by
      cases e : inB d 1 10000
      · rfl
      · have : okShape [d] = true := by
          rw [okShape_iff]
          refine ⟨by simp, fun j hj => ?_⟩
          have := inB_iff.1 e
          simp at hj
          subst hj
          exact this
        rw [q] at this; cases this
    rcases Nat.eq_zero_or_pos E.length with h0 | h0
    · cases o : isOk L
      · rw [cbV_no (by rw [o]; rfl)]
      · rw [List.eq_nil_of_length_eq_zero h0, cbV_no (by rw [endB_nil (okB_last o).1]; simp)]
    · rw [cbV_bad (k := 0) h0]
      intro _
      show (coL L _ _ d t).2 = false
      cases e : (coL L (frm (-1) E 0) (ng E 0) d t).2
      · rfl
      · rw [(coL_has e).2.1] at hd; cases hd
  · rw [csO_ok q, cbO_eq]
    refine cbV_congr fun _ i a b => ?_
    rw [show wdt [d] i = d from by unfold wdt; rw [show min i ([d].length - 1) = 0 from by simp]; rfl]
theorem widthsOf_i (w : World) (A : Option Addr) (m c k : Nat) (hk : m = k + 1) (hm : m ≤ 12) :
    Calls Try.prog 88 #[.slice A m c] w fun e w' => e = .returned (.func (.func 134) #[] #[.pointer (some ⟨w.heap.size, 0, none⟩), .pointer (some ⟨w.heap.size + 1, 0, none⟩)]) ∧ (w.alloc (.cells #[.slice A m c] 30)).alloc (.cells #[.int .i64 k] 3) = w' := by
  have e1 : (m : Int) - 1 = (k : Int) := by omega
  have hw : IntKind.i64.wrap (k : Int) = (k : Int) := IntWalk.i64_in _ (by omega)
  clear hk
  go_enter Try.func88, Try.ntmps88
  go_wp2
  go_ret
  exact ⟨rfl, rfl⟩
theorem widths1_i (w : World) (A : Option Addr) (c b2 b3 k : Nat) (S : List Int) (i : Nat) (hS : IL w A S.length S) (hk : S.length = k + 1) (hl : S.length ≤ 12) (h2 : w.cell? ⟨b2, 0, none⟩ = some (.slice A S.length c)) (h3 : w.cell? ⟨b3, 0, none⟩ = some (.int .i64 k)) :
    Calls Try.prog 134 #[.int .i64 i, .pointer (some ⟨b2, 0, none⟩), .pointer (some ⟨b3, 0, none⟩)] w fun e w' => e = .returned (.int .i64 (wdt S i)) ∧ w = w' := by
  rcases (by omega : i ≤ k ∨ k < i) with h | h
  · obtain ⟨b, o, rfl, _, hc⟩ := hS.at_ (i := i) (by omega)
    have E := hide (show wdt S i = ng S i from by unfold wdt; rw [show min i (S.length - 1) = i from by omega])
    have h' : (i : Int) ≤ (k : Int) := by omega
    have h4 : i < S.length := by omega
    have h4' : (i : Int) < (S.length : Int) := by omega
    clear hk hS
    go_enter Try.func134, Try.ntmps134
    go_wp2
    go_ret
    exact ⟨by rw [E.out]; rfl, rfl⟩
  · obtain ⟨b, o, rfl, _, hc⟩ := hS.at_ (i := k) (by omega)
    have E := hide (show wdt S i = ng S k from by unfold wdt; rw [show min i (S.length - 1) = k from by omega])
    have h' : ¬ (i : Int) ≤ (k : Int) := by omega
    have h4 : k < S.length := by omega
    have h4' : (k : Int) < (S.length : Int) := by omega
    clear hk hS
    go_enter Try.func134, Try.ntmps134
    go_wp2
    go_ret
    exact ⟨by rw [E.out]; rfl, rfl⟩
set_option maxRecDepth 8000 in
set_option maxHeartbeats 4000000 in
/-- The cost of a line of a shape. -/
theorem shape1_i (w : World) {B gp b4 b5 b2 b3 g c1 gs gf gb : Nat} (L : List It) (hps : PS w B gp g c1 gs gf gb L) (hall : ∀ i, i < L.length → itOk (tg L i) = true) (h1 : 1 ≤ L.length ∧ L.length ≤ 60) (A : Option Addr) (c k : Nat) (S : List Int) (hS : IL w A S.length S) (hk : S.length = k + 1) (hl : S.length ≤ 12) (x : Nat) (a b t : Int) (wa : -9223372036854775808 ≤ a ∧ a ≤ 9223372036854775807) (wb : -9223372036854775808 ≤ b ∧ b ≤ 9223372036854775807)
    (k4 : w.cell? ⟨b4, 0, none⟩ = some (.func (.func 134) #[] #[.pointer (some ⟨b2, 0, none⟩), .pointer (some ⟨b3, 0, none⟩)])) (k5 : w.cell? ⟨b5, 0, none⟩ = some (.int .i64 t)) (kw : w.cell? ⟨b2, 0, none⟩ = some (.slice A S.length c)) (kx : w.cell? ⟨b3, 0, none⟩ = some (.int .i64 k)) :
    Calls Try.prog 130 #[.int .i64 x, .int .i64 a, .int .i64 b, .pointer (some ⟨gp, 0, none⟩), .pointer (some ⟨b4, 0, none⟩), .pointer (some ⟨b5, 0, none⟩)] w fun e w' => e = .returned (.tuple #[.int .i64 (coL L a b (wdt S x) t).1, .bool (coL L a b (wdt S x) t).2]) ∧ Below w.heap.size w w' := by
  have k0 := hps.k0
  have k1 := hps.k1
  have k2 := hps.k2
  have k3 := hps.k3
  have WC := hide (widths1_i w.drew A c b2 b3 k S x (hS.below (bl_drew (bl_refl w))) hk hl kw kx)
  have HC := hide (fun (u : World) (hu : Below w.heap.size w u) => cost_i u L (hps.below hu) hall h1 a b (wdt S x) t wa wb)
  obtain ⟨v, hv⟩ : ∃ v, v = coL L a b (wdt S x) t := ⟨_, rfl⟩
  rw [← hv] at HC ⊢
  obtain ⟨v1, v2⟩ := v
  obtain ⟨d, hd⟩ : ∃ d, d = wdt S x := ⟨_, rfl⟩
  rw [← hd] at WC HC
  clear hv hd hps hall hS hk kw kx
  go_enter Try.func130, Try.ntmps130
  go_upto_region 1 with fail
  have S0 := bl_drew (bl_refl w)
  refine wp_region_held_drew (S := fun u : World => Below w.heap.size w u) (by kernel_rfl) (S0) (fun hHeld => ?_)
  refine tky 0 (hy := by (intro w_ hSw; (try dsimp only at hSw); have k0 := keep_cell hSw k0; have k1 := keep_cell hSw k1; have k2 := keep_cell hSw k2; have k3 := keep_cell hSw k3; go_simp; (try (with_reducible rfl)))) (h := ?_); (try simp only [Act.put, tkd, tke, tkf])
  (first | refine tky 1 (h := ?_) | refine tkn 1 (h := ?_)); (try simp only [Act.put, tkd, tke, tkf])
  (first | refine tky 2 (h := ?_) | refine tkn 2 (h := ?_)); (try simp only [Act.put, tkd, tke, tkf])
  refine tky 3 (hy := by (intro w_ hSw; (try dsimp only at hSw); have k4 := keep_cell hSw k4; go_simp; (try (with_reducible rfl)))) (h := ?_); (try simp only [Act.put, tkd, tke, tkf])
  (first | refine tky 4 (h := ?_) | refine tkn 4 (h := ?_)); (try simp only [Act.put, tkd, tke, tkf])
  refine tky 6 (hy := by (intro w_ hSw; (try dsimp only at hSw); have k5 := keep_cell hSw k5; go_simp; (try (with_reducible rfl)))) (h := ?_); (try simp only [Act.put, tkd, tke, tkf])
  refine wpAnyH_ready (rs := [5]) (by kernel_rfl) (by simp) ?_; refine AllReadyH.cons (o := ?_) ?_ (fun K hK => ?_) AllReadyH.nil; rotate_left 1; (next => simp only [List.getElem?_toArray, List.getElem?_cons_succ, List.getElem?_cons_zero]; rfl); go_simp
  go_at_call 134
  (with_reducible refine WC.out.mono ?_)
  rintro e w' ⟨rfl, rfl⟩
  (try go_wp2_with fail); refine hK.out _ _ (S0) (fun hHeld => ?_); clear hK K; (try simp only [Act.put, List.setIfInBounds_toArray, List.set_cons_zero, List.set_cons_succ])
  refine wpAnyH_ready (rs := [7]) (by kernel_rfl) (by simp) ?_; refine AllReadyH.cons (o := ?_) ?_ (fun K hK => ?_) AllReadyH.nil; rotate_left 1; (next => simp only [List.getElem?_toArray, List.getElem?_cons_succ, List.getElem?_cons_zero]; rfl); go_simp
  go_at_call 69
  (with_reducible refine (HC.out _ (bl_drew (bl_refl _))).mono ?_)
  rintro e u1 ⟨rfl, hb⟩
  (try (with_reducible have hb := bl_undrew hb))
  (try go_wp2_with fail); refine hK.out _ _ (hb) (fun hHeld => ?_); clear hK K; (try simp only [Act.put, List.setIfInBounds_toArray, List.set_cons_zero, List.set_cons_succ])
  (first | refine tky 8 (h := ?_) | refine tkn 8 (h := ?_)); (try simp only [Act.put, tkd, tke, tkf])
  (first | refine tky 9 (h := ?_) | refine tkn 9 (h := ?_)); (try simp only [Act.put, tkd, tke, tkf])
  (first | refine tky 10 (h := ?_) | refine tkn 10 (h := ?_)); (try simp only [Act.put, tkd, tke, tkf])
  (first | refine tky 11 (h := ?_) | refine tkn 11 (h := ?_)); (try simp only [Act.put, tkd, tke, tkf])
  refine wpAnyH_done (by kernel_rfl) ?_ _
  go_wp2
  go_ret2
  exact ⟨rfl, hb⟩
set_option maxRecDepth 8000 in
set_option maxHeartbeats 4000000 in
theorem CheckShape_i (w : World) (A B D : Option Addr) (n c m c' sn cs : Nat) (L : List It) (E S : List Int) (t : Int) (h : TL w A n L) (hn : n ≤ 1048576) (hS : IL w D sn S) (hsn : sn ≤ 1048576) (hE : IL w B m E) (hm : m ≤ 1048576) (hwf : okW E) :
    Calls Try.prog 33 #[.slice A n c, .slice D sn cs, .int .i64 t, .slice B m c'] w fun e w' => e = .returned (.tuple #[.int .i64 (csO L S t E).1, .bool (csO L S t E).2]) ∧ Below w.heap.size w w' := by
  have ME := hide (measure_i w A n c L h (by omega))
  obtain rfl : n = L.length := h.1
  obtain rfl : m = E.length := hE.1
  obtain rfl : sn = S.length := hS.1
  have HE := hide hE
  have HS := hide hS
  clear h hE hS
  cases hok : isOk L
  · have O := hide (csO_no (L := L) (S := S) (t := t) (E := E) hok)
    rw [hok] at ME
    clear hok
    go_enter Try.func33, Try.ntmps33
    go_wp2_with fail
    (with_reducible refine ME.out.mono ?_)
    rintro e u1 ⟨v, rfl, hv, hv0, hb⟩
    obtain rfl := hv0 (by trivial)
    have HB1 := hide hb
    clear hv hv0 hb
    go_wp2
    go_ret2
    exact ⟨by rw [O.out]; rfl, bl_alloc HB1.out _⟩
  have HK := isOk_iff.1 hok
  have HALL := hide HK.1
  have hl60 := HK.2.1
  rw [hok] at ME
  have VS := hide (fun (u : World) (hu : Below w.heap.size w u) => validShape_i u D S.length cs S (HS.out.below hu) (by omega))
  cases hsh : okShape S
  · have O := hide (csO_bad (L := L) (t := t) (E := E) hsh)
    rw [hsh] at VS
    clear hok hsh HK
    go_enter Try.func33, Try.ntmps33
    go_wp2_with fail
    (with_reducible refine ME.out.mono ?_)
    rintro e u1 ⟨v, rfl, hv, hv0, hb⟩
    obtain ⟨g, c1, gs, gf, gb, rfl, hrow, hpr⟩ := hv (by trivial)
    have HB1 := hide (bl_alloc hb (.cells #[.slice (some ⟨g, 0, none⟩) L.length c1, .slice (some ⟨gs, 0, none⟩) (L.length + 1) (L.length + 1), .slice (some ⟨gf, 0, none⟩) (L.length + 1) (L.length + 1), .slice (some ⟨gb, 0, none⟩) (L.length + 1) (L.length + 1)] 82))
    clear hv hv0 hb hrow hpr
    go_wp2_with fail
    (with_reducible refine (VS.out _ HB1.out).mono ?_)
    rintro e w' ⟨rfl, rfl⟩
    go_wp2
    go_ret2
    exact ⟨by rw [O.out]; rfl, HB1.out⟩
  · have hs12 := (okShape_iff.1 hsh).1.2
    have hs1 := (okShape_iff.1 hsh).1.1
    rw [hsh] at VS
    rw [csO_ok hsh, cbV_ok hok]
    have CB := hide (fun i p q => coL_bd HALL.out p q (wdt S i) t)
    obtain ⟨k, hk⟩ : ∃ k, S.length = k + 1 := ⟨S.length - 1, by omega⟩
    have WO := hide (fun (u : World) => widthsOf_i u D S.length cs k hk (by omega))
    have HKK := hide hk
    obtain ⟨r, hr⟩ : ∃ r, r = ptO L E (fun i a b => coL L a b (wdt S i) t) := ⟨_, rfl⟩
    have HR := hide hr
    rw [← hr]
    obtain ⟨r1, r2⟩ := r
    clear HK hok hr hk hsh
    go_enter Try.func33, Try.ntmps33
    go_wp2_with fail
    (with_reducible refine ME.out.mono ?_)
    rintro e u1 ⟨v, rfl, hv, hv0, hb⟩
    obtain ⟨g, c1, gs, gf, gb, rfl, hrow, hpr⟩ := hv (by trivial)
    have HPS := hide (ps_made hrow hpr)
    have HB1 := hide (bl_alloc hb (.cells #[.slice (some ⟨g, 0, none⟩) L.length c1, .slice (some ⟨gs, 0, none⟩) (L.length + 1) (L.length + 1), .slice (some ⟨gf, 0, none⟩) (L.length + 1) (L.length + 1), .slice (some ⟨gb, 0, none⟩) (L.length + 1) (L.length + 1)] 82))
    clear hv hv0 hb hrow hpr
    have k0 := HPS.out.k0
    have k1 := HPS.out.k1
    have k2 := HPS.out.k2
    have k3 := HPS.out.k3
    go_upto_region 4 with (go_at_call 87; (with_reducible refine (VS.out _ HB1.out).mono ?_); rintro e w' ⟨rfl, rfl⟩)
    obtain ⟨W, hW⟩ : ∃ W, W = u1.alloc (.cells #[.slice (some ⟨g, 0, none⟩) L.length c1, .slice (some ⟨gs, 0, none⟩) (L.length + 1) (L.length + 1), .slice (some ⟨gf, 0, none⟩) (L.length + 1) (L.length + 1), .slice (some ⟨gb, 0, none⟩) (L.length + 1) (L.length + 1)] 82) := ⟨_, rfl⟩
    have hp1 : u1.heap.size < W.heap.size := by rw [hW]; simp
    rw [← hW] at HPS HB1 k0 k1 k2 k3
    have PT := hide (fun (u : World) (hu : Below W.heap.size W u) (b2 b3 b4 bw bk : Nat) (hp : PS u w.heap.size b2 g c1 gs gf gb L) (e3 : u.cell? ⟨b3, 0, none⟩ = some (.func (.func 134) #[] #[.pointer (some ⟨bw, 0, none⟩), .pointer (some ⟨bk, 0, none⟩)])) (e4 : u.cell? ⟨b4, 0, none⟩ = some (.int .i64 t)) (ew : u.cell? ⟨bw, 0, none⟩ = some (.slice D S.length cs)) (ek : u.cell? ⟨bk, 0, none⟩ = some (.int .i64 k)) =>
      ptotal_lines u L hp hl60 B E.length c' E ((HE.out.below HB1.out).below hu) hm (fun i a b => coL L a b (wdt S i) t) #[.pointer (some ⟨b2, 0, none⟩), .pointer (some ⟨b3, 0, none⟩), .pointer (some ⟨b4, 0, none⟩)] (fun v hv => by
        exact total_lines v B c' E (((HE.out.below HB1.out).below hu).below hv) hm (-1) (fun i a b => coL L a b (wdt S i) t) _ _ _ (fun i p q => by have := CB.out i p q; show -8000000000 ≤ (coL L p q (wdt S i) t).1 ∧ (coL L p q (wdt S i) t).1 ≤ 8000000000; omega) (fun y hy i x => shape1_i y L ((hp.below hv).below hy) HALL.out hl60 D cs k S ((((HS.out.below HB1.out).below hu).below hv).below hy) HKK.out hs12 i _ _ t (frm_wf hwf (by have := x.isLt; omega)) (hwf _ x.isLt) (keep_cell hy (keep_cell hv e3)) (keep_cell hy (keep_cell hv e4)) (keep_cell hy (keep_cell hv ew)) (keep_cell hy (keep_cell hv ek)))))
    rw [← HR.out] at PT
    rw [← hW]
    have HWW := hide hW
    clear hW
    have S0 := bl_drew (bl_refl W)
    clear hwf
    refine wp_region_held_drew (S := fun u : World => Below W.heap.size W u) (by kernel_rfl) (S0) (fun hHeld => ?_)
    refine tky 0 (hy := by (intro w_ hSw; (try dsimp only at hSw); have k0 := keep_cell hSw k0; have k1 := keep_cell hSw k1; have k2 := keep_cell hSw k2; have k3 := keep_cell hSw k3; go_simp; (try (with_reducible rfl)))) (h := ?_); (try simp only [Act.put, tkd, tke, tkf])
    (first | refine tky 1 (h := ?_) | refine tkn 1 (h := ?_)); (try simp only [Act.put, tkd, tke, tkf])
    refine tky 2 (hy := by (intro w_ hSw; (try dsimp only at hSw); have k0 := keep_cell hSw k0; have k1 := keep_cell hSw k1; have k2 := keep_cell hSw k2; have k3 := keep_cell hSw k3; go_simp; (try (with_reducible rfl)))) (h := ?_); (try simp only [Act.put, tkd, tke, tkf])
    (first | refine tky 3 (h := ?_) | refine tkn 3 (h := ?_)); (try simp only [Act.put, tkd, tke, tkf])
    (first | refine tky 5 (h := ?_) | refine tkn 5 (h := ?_)); (try simp only [Act.put, tkd, tke, tkf])
    refine wpAnyH_ready (rs := [4]) (by kernel_rfl) (by simp) ?_; refine AllReadyH.cons (o := ?_) ?_ (fun K hK => ?_) AllReadyH.nil; rotate_left 1; (next => simp only [List.getElem?_toArray, List.getElem?_cons_succ, List.getElem?_cons_zero]; rfl); go_simp
    go_at_call 88
    (with_reducible refine (WO.out _).mono ?_)
    rintro e w' ⟨rfl, rfl⟩
    (try go_wp2_with fail); refine hK.out _ _ ((by repeat' (first | exact bl_refl _ | refine bl_drew ?_ | refine bl_alloc ?_ _))) (fun hHeld => ?_); clear hK K; (try simp only [Act.put, List.setIfInBounds_toArray, List.set_cons_zero, List.set_cons_succ])
    refine wpAnyH_ready (rs := [6]) (by kernel_rfl) (by simp) ?_; refine AllReadyH.cons (o := ?_) ?_ (fun K hK => ?_) AllReadyH.nil; rotate_left 1; (next => simp only [List.getElem?_toArray, List.getElem?_cons_succ, List.getElem?_cons_zero]; rfl); go_simp
    go_at_call 79
    (with_reducible refine (costBy_i _ _ _ _ _ _ _ _).mono ?_)
    rintro e w' ⟨rfl, rfl⟩
    (try go_wp2_with fail); refine hK.out _ _ ((by repeat' (first | exact bl_refl _ | refine bl_drew ?_ | refine bl_alloc ?_ _))) (fun hHeld => ?_); clear hK K; (try simp only [Act.put, List.setIfInBounds_toArray, List.set_cons_zero, List.set_cons_succ])
    refine wpAnyH_ready (rs := [7]) (by kernel_rfl) (by simp) ?_; refine AllReadyH.cons (o := ?_) ?_ (fun K hK => ?_) AllReadyH.nil; rotate_left 1; (next => simp only [List.getElem?_toArray, List.getElem?_cons_succ, List.getElem?_cons_zero]; rfl); go_simp
    go_at_call 78
    (with_reducible refine (PT.out _ ?_ _ _ _ W.heap.size (W.heap.size + 1) ?_ ?_ ?_ ?_ ?_).mono ?_)
    · exact (by repeat' (first | exact bl_refl _ | refine bl_drew ?_ | refine bl_alloc ?_ _))
    · have h5 := (HPS.out.below (bl_alloc (bl_alloc (bl_refl _) (.cells #[.slice D S.length cs] 30)) (.cells #[.int .i64 k] 3))).copy
      rw [show ((W.alloc (.cells #[.slice D S.length cs] 30)).alloc (.cells #[.int .i64 k] 3)).heap.size = W.heap.size + 1 + 1 by simp] at h5
      refine h5.below ?_
      exact (by repeat' (first | exact bl_refl _ | refine bl_drew ?_ | refine bl_alloc ?_ _))
    · simp [go_sem]
    · simp [go_sem]
    · simp [go_sem]
    · simp [go_sem]
    rintro e u2 ⟨rfl, hb⟩
    have HB2 := hide (bl_call hb (show Below W.heap.size W _ from (by repeat' (first | exact bl_refl _ | refine bl_drew ?_ | refine bl_alloc ?_ _))))
    clear hb
    (try go_wp2_with fail); refine hK.out _ _ (HB2.out) (fun hHeld => ?_); clear hK K; (try simp only [Act.put, List.setIfInBounds_toArray, List.set_cons_zero, List.set_cons_succ])
    (first | refine tky 8 (h := ?_) | refine tkn 8 (h := ?_)); (try simp only [Act.put, tkd, tke, tkf])
    (first | refine tky 9 (h := ?_) | refine tkn 9 (h := ?_)); (try simp only [Act.put, tkd, tke, tkf])
    (first | refine tky 10 (h := ?_) | refine tkn 10 (h := ?_)); (try simp only [Act.put, tkd, tke, tkf])
    (first | refine tky 11 (h := ?_) | refine tkn 11 (h := ?_)); (try simp only [Act.put, tkd, tke, tkf])
    refine wpAnyH_done (by kernel_rfl) ?_ _
    go_wp2
    go_ret2
    exact ⟨rfl, bl_call HB2.out HB1.out⟩
end Go.Proofs.Ytmncdpiojhgcdaa
