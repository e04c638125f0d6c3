/- BestPages in its model: a table of least costs. -/
import Derived.Test.YtkclecfjpabplaaBpg
import Derived.Test.YtkclecfjpabplaaApp
import Derived.BigQuiet
import Derived.Deep.OwnRows
namespace Go.Proofs.Ytkclecfjpabplaa
open Go.ChangeShapes Go.WideShapes Go.ChangeAt Go.RowKit
set_option linter.unusedVariables false
set_option linter.unusedSimpArgs false
open Classical
set_option maxRecDepth 4000

theorem OL.none_capb {w : World} {e : TypeId} {B : Nat} {A : Option Addr} {c : Nat} {l : List Int} (h : OL w e B A c l) : A = none → c = 0 := fun e => by
  subst e
  rcases h.2 with ⟨h1, _⟩ | ⟨g, cap, cur, h1, _⟩
  · injection h1
  · cases h1
def csD (st : Nat → Option Dn) (j : Nat) : Int := match st j with
  | some d => d.1
  | none => 0
def bsD (st : Nat → Option Dn) (j : Nat) : Nat := match st j with
  | some d => d.2.1
  | none => 0
theorem csD_of {st : Nat → Option Dn} {j : Nat} {d : Dn} (h : st j = some d) : csD st j = d.1 := by unfold csD; rw [h]
theorem bsD_of {st : Nat → Option Dn} {j : Nat} {d : Dn} (h : st j = some d) : bsD st j = d.2.1 := by unfold bsD; rw [h]
/-- Three arrays that hold a table. -/
structure DpA (u : World) (c0 n : Nat) (ti tb : TypeId) (st : Nat → Option Dn) : Prop where
  rc : u.rowIs c0 ti n (fun j => .int .i64 (csD st j))
  rb : u.rowIs (c0 + 1) ti n (fun j => .int .i64 (bsD st j))
  rk : u.rowIs (c0 + 1 + 1) tb n (fun j => .bool (st j).isSome)
section
variable {u u' : World} {c0 n m : Nat} {ti tb : TypeId} {st st' : Nat → Option Dn}
theorem DpA.below (h : DpA u c0 n ti tb st) (hb : Below m u u') (hm : u.heap.size ≤ m) : DpA u' c0 n ti tb st := by
  have hb := hb.mono hm
  exact ⟨h.rc.of_block (hb.block _ h.rc.lt), h.rb.of_block (hb.block _ h.rb.lt), h.rk.of_block (hb.block _ h.rk.lt)⟩
theorem DpA.drewN (h : DpA u c0 n ti tb st) (k : Nat) : DpA (u.drewN k) c0 n ti tb st := h.below (bl_drewN (bl_refl u) k) (Nat.le_refl _)
theorem DpA.congr (h : DpA u c0 n ti tb st) (e : ∀ j, st j = st' j) : DpA u c0 n ti tb st' := by
  rw [show st' = st from (funext e).symm]
  exact h
theorem DpA.put (h : DpA u c0 n ti tb st) {t : Nat} (d : Dn) (e : ∀ j, st' j = if j = t then some d else st j) : DpA (((u.setCell ⟨c0, t, none⟩ (.int .i64 d.1)).setCell ⟨c0 + 1, t, none⟩ (.int .i64 d.2.1)).setCell ⟨c0 + 1 + 1, t, none⟩ (.bool true)) c0 n ti tb st' := by
  constructor
  · refine (((h.rc.set t _).setOther (a := ⟨c0 + 1, t, none⟩) (by show c0 ≠ c0 + 1; omega) _).setOther (a := ⟨c0 + 1 + 1, t, none⟩) (by show c0 ≠ c0 + 1 + 1; omega) _).congr (fun i _ => ?_)
    unfold csD
    rw [e i]
    split <;> rfl
  · refine (((h.rb.setOther (a := ⟨c0, t, none⟩) (by show c0 + 1 ≠ c0; omega) _).set t _).setOther (a := ⟨c0 + 1 + 1, t, none⟩) (by show c0 + 1 ≠ c0 + 1 + 1; omega) _).congr (fun i _ => ?_)
    unfold bsD
    rw [e i]
    split <;> rfl
  · refine (((h.rk.setOther (a := ⟨c0, t, none⟩) (by show c0 + 1 + 1 ≠ c0; omega) _).setOther (a := ⟨c0 + 1, t, none⟩) (by show c0 + 1 + 1 ≠ c0 + 1; omega) _).set t _).congr (fun i _ => ?_)
    rw [e i]
    split <;> rfl
theorem DpA.first (h : DpA u c0 n ti tb (fun _ => none)) (e : ∀ j, st' j = if j = 0 then some (0, 0, 0) else none) : DpA (u.setCell ⟨c0 + 1 + 1, 0, none⟩ (.bool true)) c0 n ti tb st' := by
  constructor
  · refine (h.rc.setOther (a := ⟨c0 + 1 + 1, 0, none⟩) (by show c0 ≠ c0 + 1 + 1; omega) _).congr (fun i _ => ?_)
    by_cases hi : i = 0 <;> simp [csD, e, hi]
  · refine (h.rb.setOther (a := ⟨c0 + 1 + 1, 0, none⟩) (by show c0 + 1 ≠ c0 + 1 + 1; omega) _).congr (fun i _ => ?_)
    by_cases hi : i = 0 <;> simp [bsD, e, hi]
  · refine (h.rk.set 0 _).congr (fun i _ => ?_)
    by_cases hi : i = 0 <;> simp [e, hi]
theorem DpA.cells (h : DpA u c0 n ti tb st) {j : Nat} (hj : j < n) : u.cell? ⟨c0, j, none⟩ = some (.int .i64 (csD st j)) ∧ u.cell? ⟨c0 + 1, j, none⟩ = some (.int .i64 (bsD st j)) ∧ u.cell? ⟨c0 + 1 + 1, j, none⟩ = some (.bool (st j).isSome) := ⟨h.rc.cell hj, h.rb.cell hj, h.rk.cell hj⟩
theorem DpA.fz (h : DpA u c0 n ti tb st) (j : Nat) : u.frozen? ⟨c0, j, none⟩ = false ∧ u.frozen? ⟨c0 + 1, j, none⟩ = false ∧ u.frozen? ⟨c0 + 1 + 1, j, none⟩ = false := ⟨h.rc.frozen j, h.rb.frozen j, h.rk.frozen j⟩
theorem OL.set_far {u : World} {e : TypeId} {B b c : Nat} {l : List Int} (h : OL u e B (some ⟨b, 0, none⟩) c l) {p : Addr} (hp : p.block ≠ b) (v : Value) : OL (u.setCell p v) e B (some ⟨b, 0, none⟩) c l :=
  h.kept (row := some p.block) (on_set' (World.grownBy.refl _ _) (.inl rfl) _) (fun k hk e => by
    have h1 : (Value.slice (some ⟨b, 0, none⟩) l.length c).ownBlock = some b := rfl
    rw [h1] at hk
    cases hk
    injection e with e
    exact hp e)
theorem bst_bd {L : List Gp} {h : Int} (ok : OkPg L h) {t k : Nat} {d : Dn} (hk : k ≤ 41) (e : bst (dpD (gP L h)) (gP L h) t k = some d) : -10000000000 ≤ d.1 ∧ d.1 ≤ 10000000000 := by
  obtain ⟨h1, x, n, h2, h3, h4, h5⟩ := bst_from e
  have := dpD_bd (g := gP L h) (M := 100001000) (fun i j n e => by have := gP_bd ok e; omega) (d.2.1 + 1) (Nat.lt_succ_self _) h2
  have := gP_bd ok h3
  omega
theorem dp_bd {L : List Gp} {h : Int} (ok : OkPg L h) {k : Nat} {d : Dn} (hk : k ≤ 41) (e : dpD (gP L h) k = some d) : (-10000000000 ≤ d.1 ∧ d.1 ≤ 10000000000) ∧ d.2.2 ≤ k := by
  have := dpD_bd (g := gP L h) (M := 100001000) (fun i j n e => by have := gP_bd ok e; omega) (k + 1) (Nat.lt_succ_self _) e
  omega
end
/-- The table before the k-th step for the node t. -/
def stA (g : Nat → Nat → Option Int) (t k j : Nat) : Option Dn := if j < t then dpD g j else if j = t then bst (dpD g) g t k else none
section
variable {g : Nat → Nat → Option Int}
theorem stA_lt {t k j : Nat} (h : j < t) : stA g t k j = dpD g j := if_pos h
theorem stA_at {t k : Nat} : stA g t k t = bst (dpD g) g t k := by unfold stA; rw [if_neg (by omega), if_pos rfl]
theorem stA_next {t : Nat} (h : 0 < t) (j : Nat) : stA g t t j = stA g (t + 1) 0 j := by
  unfold stA
  rcases (by omega : j < t ∨ j = t ∨ j = t + 1 ∨ t + 1 < j) with e | e | e | e
  · rw [if_pos e, if_pos (by omega)]
  · subst e
    rw [if_neg (by omega), if_pos rfl, if_pos (by omega), dpD_succ h]
  · subst e
    rw [if_neg (by omega), if_neg (by omega), if_neg (by omega), if_pos rfl]
    rfl
  · rw [if_neg (by omega), if_neg (by omega), if_neg (by omega), if_neg (by omega)]
theorem stA_same {t k : Nat} (h : bst (dpD g) g t (k + 1) = bst (dpD g) g t k) (j : Nat) : stA g t k j = stA g t (k + 1) j := by
  unfold stA
  rw [h]
theorem stA_put {t k : Nat} {d : Dn} (h : bst (dpD g) g t (k + 1) = some d) (j : Nat) : stA g t (k + 1) j = if j = t then some d else stA g t k j := by
  unfold stA
  rw [h]
  rcases (by omega : j < t ∨ j = t ∨ t < j) with e | e | e
  · rw [if_pos e, if_neg (by omega), if_pos e]
  · subst e
    rw [if_neg (by omega), if_pos rfl, if_pos rfl]
  · rw [if_neg (by omega), if_neg (by omega), if_neg (by omega), if_neg (by omega), if_neg (by omega)]
theorem stA_first (j : Nat) : (stA g 1 0 j) = if j = 0 then some (0, 0, 0) else none := by
  unfold stA
  rcases (by omega : j = 0 ∨ j = 1 ∨ 1 < j) with e | e | e
  · subst e; rfl
  · subst e; rfl
  · rw [if_neg (by omega), if_neg (by omega), if_neg (by omega)]
end
set_option maxHeartbeats 1000000 in
theorem pageCost_s (w : World) (A : Option Addr) (c : Nat) (L : List Gp) (h : Int) (p t : Nat) (ha : TL w A L.length L) (ok : OkPg L h) (hpt : p < t) (htl : t ≤ L.length) :
    Calls Try.prog 78 #[.slice A L.length c, .int .i64 p, .int .i64 t, .int .i64 h] w fun e w' => e = .returned (.tuple #[.int .i64 (pgC L h 0 p t).1, .bool (pgC L h 0 p t).2]) ∧ w = w' := by
  rw [pgC_at hpt htl]
  obtain ⟨l0, l1, l2, q0, q1⟩ := ok
  have CS := hide (pageHeight_s w A L.length c p t L ha l1 l2 (by omega) htl)
  obtain ⟨b, o, rfl, hb0, hc0⟩ := ha.at_ (i := t - 1) (by omega)
  have NO := hide (pgq_no (L := L) (h := h) (f := p) (t := t))
  have LA := hide (pgq_last (L := L) (h := h) (f := p) (t := t))
  have MI := hide (pgq_mid (L := L) (h := h) (f := p) (t := t))
  have zn := pgh_nn (f := p) (k := t - p) l2 (by omega)
  have pn := (lnk_iff.1 (l2 (t - 1) (by omega))).2.2
  have d2 : w.cell? ⟨b, o + (t - 1) * 3 + 2, none⟩ = some (.int .i64 (tg L (t - 1)).v) := by have := hc0 2 (by decide); exact this
  obtain ⟨y, hy⟩ : ∃ y, y = (tg L (t - 1)).v := ⟨_, rfl⟩
  rw [← hy] at d2 pn MI
  have zb : pgh L p (t - p) ≤ 81000 := by
    have := hs_bd (L := L) (f := p) (k := t - p) l2 (by omega)
    unfold pgh
    split <;> omega
  obtain ⟨z, hz⟩ : ∃ z, z = pgh L p (t - p) := ⟨_, rfl⟩
  rw [← hz] at CS NO LA MI zn zb
  have CAST1 : ((t : Int) - 1) = ((t - 1 : Nat) : Int) := by omega
  have g3 : t - 1 < L.length := by omega
  clear ha hc0 hz hy l2
  rcases (by omega : h - z < 0 ∨ ¬ h - z < 0 ∧ t = L.length ∨ ¬ h - z < 0 ∧ ¬ t = L.length) with q | ⟨q, q1⟩ | ⟨q, q1⟩
  · have E := hide (NO.out q)
    clear NO LA MI
    rw [E.out]
    go_enter Try.func78, Try.ntmps78
    go_wp2_with (go_at_call 91; refine (CS.out).mono ?_; rintro e w' ⟨rfl, rfl⟩)
    go_ret2
    exact ⟨rfl, rfl⟩
  · have E := hide (LA.out q q1)
    clear NO LA MI
    rw [E.out]
    have q2 : ((t : Int) == (L.length : Int)) = true := beq_iff_eq.2 (by omega)
    clear q1
    go_enter Try.func78, Try.ntmps78
    go_wp2_with (go_at_call 91; refine (CS.out).mono ?_; rintro e w' ⟨rfl, rfl⟩)
    go_ret2
    exact ⟨rfl, rfl⟩
  · have E := hide (MI.out q q1)
    have sq := sq_pg (z := h - z) (by omega) (by omega)
    clear NO LA MI
    rw [E.out]
    have q2 : ((t : Int) == (L.length : Int)) = false := beq_eq_false_iff_ne.2 (by omega)
    go_enter Try.func78, Try.ntmps78
    go_wp2_with (go_at_call 91; refine (CS.out).mono ?_; rintro e w' ⟨rfl, rfl⟩)
    go_ret2
    exact ⟨rfl, rfl⟩
theorem bool_infoP : (Try.prog.info? 4).map (fun i => (i.zero, i.size, i.bytes)) = some (some (.bool false), 1, 1) := by kernel_rfl
set_option maxHeartbeats 4000000 in
theorem BestPages_s (w : World) (A : Option Addr) (n c : Nat) (L : List Gp) (h : Int) (ha : TL w A n L) (hn : n ≤ 4611686018427387904) :
    Calls Try.prog 38 #[.slice A n c, .int .i64 h] w (RetB w (bpV L h)) := by
  obtain ⟨i0, hi0, jz0, jz1, jz2⟩ := info_parts int_info
  obtain ⟨i1, hi1, kz0, kz1, kz2⟩ := info_parts bool_infoP
  obtain rfl : n = L.length := ha.1
  have HI := hide ha
  clear ha
  cases q1 : lok L
  · have E := hide (bpV_no (L := L) (h := h) (by rw [q1]; rfl))
    go_enter Try.func38, Try.ntmps38
    go_wp2_with (first | (go_at_call 76; (with_reducible refine (validLines_s _ _ _ _ L (HI.out.alloc _) hn).mono ?_); rintro e w' ⟨rfl, rfl⟩) | (go_at_call 77; (with_reducible refine (validWidth_q _ _).mono ?_); rintro e w' ⟨rfl, rfl⟩))
    refine bodyPost_ret (v := .tuple #[.slice none 0 0, .int .i64 0, .bool false]) (by simp [results, Try.results38, go_sem]) rfl ?_
    exact RetB.no E.out (by (repeat' (first | with_reducible exact bl_refl _ | with_reducible assumption | with_reducible refine bl_alloc ?_ _ | with_reducible refine bl_set ?_ ?_ _ | with_reducible refine bl_drewN ?_ _ | with_reducible refine bl_drew ?_ | with_reducible refine bl_call (by assumption) ?_)); (all_goals (first | omega | (simp; done) | (simp; omega))))
  cases q2 : inB h 1 10000
  · have E := hide (bpV_no (L := L) (h := h) (by rw [q2, Bool.and_false]))
    go_enter Try.func38, Try.ntmps38
    go_wp2_with (first | (go_at_call 76; (with_reducible refine (validLines_s _ _ _ _ L (HI.out.alloc _) hn).mono ?_); rintro e w' ⟨rfl, rfl⟩) | (go_at_call 77; (with_reducible refine (validWidth_q _ _).mono ?_); rintro e w' ⟨rfl, rfl⟩))
    refine bodyPost_ret (v := .tuple #[.slice none 0 0, .int .i64 0, .bool false]) (by simp [results, Try.results38, go_sem]) rfl ?_
    exact RetB.no E.out (by (repeat' (first | with_reducible exact bl_refl _ | with_reducible assumption | with_reducible refine bl_alloc ?_ _ | with_reducible refine bl_set ?_ ?_ _ | with_reducible refine bl_drewN ?_ _ | with_reducible refine bl_drew ?_ | with_reducible refine bl_call (by assumption) ?_)); (all_goals (first | omega | (simp; done) | (simp; omega))))
  have E0 := bpV_yes (L := L) (h := h) (by rw [q1, q2]; rfl)
  have OK := hide (okPg_of (L := L) (h := h) (by rw [q1, q2]; rfl))
  have l0 := OK.out.l0
  have l1 := OK.out.l1
  go_enter Try.func38, Try.ntmps38
  go_upto_region 7 with (first | (go_at_call 76; (with_reducible refine (validLines_s _ _ _ _ L (HI.out.alloc _) hn).mono ?_); rintro e w' ⟨rfl, rfl⟩) | (go_at_call 77; (with_reducible refine (validWidth_q _ _).mono ?_); rintro e w' ⟨rfl, rfl⟩) | (refine wpList_make_row _ rfl _ _ _ rfl 3 i0 (.int .i64 0) Try.underlying22 hi0 jz0 jz1 rfl .i64 .i64 (L.length + 1) rfl rfl (by rw [jz2]; omega) (by omega) ?_) | (refine wpList_make_row _ rfl _ _ _ rfl 4 i1 (.bool false) Try.underlying81 hi1 kz0 kz1 rfl .i64 .i64 (L.length + 1) rfl rfl (by rw [kz2]; omega) (by omega) ?_) | fail)
  have D0 : DpA ((((w.alloc (.cells #[] 3)).alloc (.cells (madeCells #[Value.int .i64 0] (L.length + 1)) 3)).alloc (.cells (madeCells #[Value.int .i64 0] (L.length + 1)) 3)).alloc (.cells (madeCells #[Value.bool false] (L.length + 1)) 4)) (w.heap.size + 1) (L.length + 1) 3 4 (fun _ => none) := by
    have a1 := World.rowIs_made (w.alloc (.cells #[] 3)) (.int .i64 0) (L.length + 1) 3
    have a2 := World.rowIs_made ((w.alloc (.cells #[] 3)).alloc (.cells (madeCells #[Value.int .i64 0] (L.length + 1)) 3)) (.int .i64 0) (L.length + 1) 3
    have a3 := World.rowIs_made (((w.alloc (.cells #[] 3)).alloc (.cells (madeCells #[Value.int .i64 0] (L.length + 1)) 3)).alloc (.cells (madeCells #[Value.int .i64 0] (L.length + 1)) 3)) (.bool false) (L.length + 1) 4
    have e1 : ∀ (u : World) (o : Obj), (u.alloc o).heap.size = u.heap.size + 1 := fun u o => by simp
    rw [e1] at a1
    rw [e1, e1] at a2
    rw [e1, e1, e1] at a3
    exact ⟨(a1.alloc _).alloc _, a2.alloc _, a3⟩
  have H0 : OL ((((w.alloc (.cells #[] 3)).alloc (.cells (madeCells #[Value.int .i64 0] (L.length + 1)) 3)).alloc (.cells (madeCells #[Value.int .i64 0] (L.length + 1)) 3)).alloc (.cells (madeCells #[Value.bool false] (L.length + 1)) 4)) 3 w.heap.size (some ⟨w.heap.size, 0, none⟩) 0 [] := by
    have := OL.lit (w := w) (e := 3) (B := w.heap.size) (Nat.le_refl _) [] (by simp)
    exact (((by simpa using this : OL (w.alloc (.cells #[] 3)) 3 w.heap.size (some ⟨w.heap.size, 0, none⟩) 0 []).alloc _).alloc _).alloc _
  have HB0 : Below w.heap.size w ((((w.alloc (.cells #[] 3)).alloc (.cells (madeCells #[Value.int .i64 0] (L.length + 1)) 3)).alloc (.cells (madeCells #[Value.int .i64 0] (L.length + 1)) 3)).alloc (.cells (madeCells #[Value.bool false] (L.length + 1)) 4)) := by repeat' (first | exact bl_refl _ | refine bl_alloc ?_ _)
  obtain ⟨u0, hu0⟩ : ∃ u, u = ((((w.alloc (.cells #[] 3)).alloc (.cells (madeCells #[Value.int .i64 0] (L.length + 1)) 3)).alloc (.cells (madeCells #[Value.int .i64 0] (L.length + 1)) 3)).alloc (.cells (madeCells #[Value.bool false] (L.length + 1)) 4)) := ⟨_, rfl⟩
  rw [← hu0] at D0 H0 HB0 ⊢
  clear hu0
  have S0 := hide (D0.first (st' := stA (gP L h) 1 0) stA_first)
  have kc : u0.cell? ⟨w.heap.size + 1 + 1 + 1, 0, none⟩ = some (.bool false) := (D0.cells (j := 0) (by omega)).2.2
  have kf := (D0.fz 0).2.2
  have O0 := hide (H0.set_far (p := ⟨w.heap.size + 1 + 1 + 1, 0, none⟩) (show w.heap.size + 1 + 1 + 1 ≠ w.heap.size by omega) (.bool true))
  have B0 := hide (bl_set HB0 (p := ⟨w.heap.size + 1 + 1 + 1, 0, none⟩) (show w.heap.size ≤ w.heap.size + 1 + 1 + 1 by omega) (.bool true))
  have E := hide E0
  clear D0 H0 HB0 E0
  go_wp2
  clear kc kf
  go_loopw [11] (fun i u => ∃ t : Nat, 1 ≤ t ∧ t ≤ L.length + 1 ∧ i = .int .i64 t ∧ DpA u (w.heap.size + 1) (L.length + 1) 3 4 (stA (gP L h) t 0) ∧ OL u 3 w.heap.size (some ⟨w.heap.size, 0, none⟩) 0 [] ∧ Below w.heap.size w u) (fun i _ => L.length + 1 - (intOf i).toNat)
  case atStart => exact ⟨1, Nat.le_refl _, by omega, rfl, S0.out, O0.out, B0.out⟩
  case round =>
    obtain ⟨t, ht1, ht2, rfl, hst, hol, hbl⟩ := hrel
    have HST := hide hst
    have HOL := hide hol
    have HBL := hide hbl
    clear hst hol hbl S0 O0 B0
    by_cases hlt : t ≤ L.length
    · go_wp2
      go_loopw [12] (fun i u => ∃ k : Nat, k ≤ t ∧ i = .int .i64 k ∧ DpA u (w.heap.size + 1) (L.length + 1) 3 4 (stA (gP L h) t k) ∧ OL u 3 w.heap.size (some ⟨w.heap.size, 0, none⟩) 0 [] ∧ Below w.heap.size w u) (fun i _ => t - (intOf i).toNat)
      case atStart => exact ⟨0, Nat.zero_le _, rfl, HST.out, HOL.out, HBL.out⟩
      case round =>
        obtain ⟨k, hk, rfl, hst, hol, hbl⟩ := hrel
        have HS := hide hst
        have HO := hide hol
        have HB := hide hbl
        clear HST HOL HBL hst hol hbl
        by_cases hkt : k < t
        · have HC := hide (pageCost_s wr A c L h k t (HI.out.below HB.out) OK.out hkt hlt)
          have YES := hide (gP_yes (L := L) (h := h) (i := k) (j := t))
          have NO := hide (gP_no (L := L) (h := h) (i := k) (j := t))
          have vb := pgC_bd OK.out 0 k t
          obtain ⟨v, hv⟩ : ∃ v, v = (pgC L h 0 k t).1 := ⟨_, rfl⟩
          obtain ⟨fl, hfl⟩ : ∃ v, v = (pgC L h 0 k t).2 := ⟨_, rfl⟩
          rw [← hv, ← hfl] at HC
          rw [← hfl] at YES NO
          rw [← hv] at YES vb
          clear hv hfl
          have BS := hide (show bst (dpD (gP L h)) (gP L h) t (k + 1) = rx (bst (dpD (gP L h)) (gP L h) t k) (dpD (gP L h) k) (gP L h k t) k from rfl)
          obtain ⟨ck, bk, kk⟩ := HS.out.cells (j := k) (by omega)
          obtain ⟨ct, bt, kt⟩ := HS.out.cells (j := t) (by omega)
          obtain ⟨fc, fb, fk⟩ := HS.out.fz t
          have sk := stA_lt (g := gP L h) (k := k) hkt
          have sa := stA_at (g := gP L h) (t := t) (k := k)
          cases fl
          · have N := hide (stA_same (g := gP L h) (t := t) (k := k) (by rw [BS.out, NO.out rfl, rx_no_v]))
            clear YES NO BS vb ck bk kk ct bt kt fc fb fk sk sa
            go_wp2_with (go_at_call 78; refine (HC.out).mono ?_; rintro e w' ⟨rfl, rfl⟩)
            go_quiet (fail)
            go_wp2
            go_roundw
            case rel => exact ⟨k + 1, by omega, by go_num, (HS.out.congr N.out).drewN _, HO.out.drewN _, bl_drewN HB.out _⟩
            case measure => simp [intOf]; omega
          cases dk : dpD (gP L h) k with
          | none =>
            have N := hide (stA_same (g := gP L h) (t := t) (k := k) (by rw [BS.out, dk, rx_no_d]))
            rw [sk, dk] at kk
            replace kk : wr.cell? ⟨w.heap.size + 1 + 1 + 1, k, none⟩ = some (.bool false) := kk
            clear YES NO BS vb ck bk ct bt kt fc fb fk sk sa dk
            go_wp2_with (go_at_call 78; refine (HC.out).mono ?_; rintro e w' ⟨rfl, rfl⟩)
            go_quiet (fail)
            go_wp2
            go_roundw
            case rel => exact ⟨k + 1, by omega, by go_num, (HS.out.congr N.out).drewN _, HO.out.drewN _, bl_drewN HB.out _⟩
            case measure => simp [intOf]; omega
          | some x =>
            have xb := (dp_bd OK.out (by omega) dk).1
            rw [csD_of (sk.trans dk)] at ck
            rw [sk, dk] at kk
            replace kk : wr.cell? ⟨w.heap.size + 1 + 1 + 1, k, none⟩ = some (.bool true) := kk
            have BX := hide (show bst (dpD (gP L h)) (gP L h) t (k + 1) = rx (bst (dpD (gP L h)) (gP L h) t k) (some x) (some v) k by rw [BS.out, YES.out rfl, dk])
            have ws : IntKind.i64.wrap (x.1 + v) = x.1 + v := IntWalk.i64_in _ (by omega)
            clear BS YES NO bk dk sk
            have PUT : Hid (∀ d : Dn, bst (dpD (gP L h)) (gP L h) t (k + 1) = some d → DpA (((wr.setCell ⟨w.heap.size + 1, t, none⟩ (.int .i64 d.1)).setCell ⟨w.heap.size + 1 + 1, t, none⟩ (.int .i64 d.2.1)).setCell ⟨w.heap.size + 1 + 1 + 1, t, none⟩ (.bool true)) (w.heap.size + 1) (L.length + 1) 3 4 (stA (gP L h) t (k + 1))) := hide (fun d hd => HS.out.put d (stA_put hd))
            have O1 := hide (((HO.out.set_far (p := ⟨w.heap.size + 1, t, none⟩) (show w.heap.size + 1 ≠ w.heap.size by omega) (.int .i64 (x.1 + v))).set_far (p := ⟨w.heap.size + 1 + 1, t, none⟩) (show w.heap.size + 1 + 1 ≠ w.heap.size by omega) (.int .i64 k)).set_far (p := ⟨w.heap.size + 1 + 1 + 1, t, none⟩) (show w.heap.size + 1 + 1 + 1 ≠ w.heap.size by omega) (.bool true))
            have B1 := hide (bl_set (bl_set (bl_set HB.out (p := ⟨w.heap.size + 1, t, none⟩) (show w.heap.size ≤ w.heap.size + 1 by omega) (.int .i64 (x.1 + v))) (p := ⟨w.heap.size + 1 + 1, t, none⟩) (show w.heap.size ≤ w.heap.size + 1 + 1 by omega) (.int .i64 k)) (p := ⟨w.heap.size + 1 + 1 + 1, t, none⟩) (show w.heap.size ≤ w.heap.size + 1 + 1 + 1 by omega) (.bool true))
            cases dt : bst (dpD (gP L h)) (gP L h) t k with
            | none =>
              have S1 := hide (PUT.out (x.1 + v, k, x.2.2 + 1) (by rw [BX.out, dt, rx_new]))
              rw [sa, dt] at kt
              replace kt : wr.cell? ⟨w.heap.size + 1 + 1 + 1, t, none⟩ = some (.bool false) := kt
              clear BX PUT dt sa
              go_wp2_with (go_at_call 78; refine (HC.out).mono ?_; rintro e w' ⟨rfl, rfl⟩)
              go_quiet (fail)
              go_wp2
              go_roundw
              case rel => exact ⟨k + 1, by omega, by go_num, S1.out.drewN _, O1.out.drewN _, bl_drewN B1.out _⟩
              case measure => simp [intOf]; omega
            | some y =>
              rw [csD_of (sa.trans dt)] at ct
              rw [sa, dt] at kt
              replace kt : wr.cell? ⟨w.heap.size + 1 + 1 + 1, t, none⟩ = some (.bool true) := kt
              by_cases hl : x.1 + v < y.1
              · have S1 := hide (PUT.out (x.1 + v, k, x.2.2 + 1) (by rw [BX.out, dt, rx_less hl]))
                have hd : decide (x.1 + v < y.1) = true := decide_eq_true hl
                clear BX PUT dt sa
                go_wp2_with (go_at_call 78; refine (HC.out).mono ?_; rintro e w' ⟨rfl, rfl⟩)
                go_quiet (fail)
                go_wp2
                go_roundw
                case rel => exact ⟨k + 1, by omega, by go_num, S1.out.drewN _, O1.out.drewN _, bl_drewN B1.out _⟩
                case measure => simp [intOf]; omega
              · have N := hide (stA_same (g := gP L h) (t := t) (k := k) (by rw [BX.out, dt, rx_keep hl]))
                have hd : decide (x.1 + v < y.1) = false := decide_eq_false hl
                clear BX PUT dt sa O1 B1
                go_wp2_with (go_at_call 78; refine (HC.out).mono ?_; rintro e w' ⟨rfl, rfl⟩)
                go_quiet (fail)
                go_wp2
                go_roundw
                case rel => exact ⟨k + 1, by omega, by go_num, (HS.out.congr N.out).drewN _, HO.out.drewN _, bl_drewN HB.out _⟩
                case measure => simp [intOf]; omega
        · obtain rfl : k = t := by omega
          have N := hide (HS.out.congr (stA_next (g := gP L h) (by omega)))
          go_wp2
          go_roundw
          case rel => exact ⟨k + 1, by omega, by omega, by go_num, N.out, HO.out, HB.out⟩
          case measure => simp [intOf]; omega
    · have HST := hide (show DpA wr (w.heap.size + 1) (L.length + 1) 3 4 (stA (gP L h) (L.length + 1) 0) by
        have h9 := HST.out
        rw [show t = L.length + 1 by omega] at h9
        exact h9)
      have sN := stA_lt (g := gP L h) (t := L.length + 1) (k := 0) (j := L.length) (by omega)
      obtain ⟨cN, _, kN⟩ := HST.out.cells (j := L.length) (by omega)
      rw [sN] at kN
      cases dN : dpD (gP L h) L.length with
      | none =>
        rw [dN] at kN
        replace kN : wr.cell? ⟨w.heap.size + 1 + 1 + 1, L.length, none⟩ = some (.bool false) := kN
        have E2 := hide (E.out.trans (show dpR (gP L h) ndP L.length = ([], 0, false) by unfold dpR; rw [dN]))
        clear cN sN dN
        go_wp2
        refine bodyPost_ret (v := .tuple #[.slice none 0 0, .int .i64 0, .bool false]) (by simp [results, Try.results38, go_sem]) rfl ?_
        exact RetB.no E2.out HBL.out
      | some dn =>
        rw [dN] at kN
        replace kN : wr.cell? ⟨w.heap.size + 1 + 1 + 1, L.length, none⟩ = some (.bool true) := kN
        have E2 := hide (E.out.trans (show dpR (gP L h) ndP L.length = (bkL (gP L h) ndP dn.2.2 L.length, dn.1, true) by unfold dpR; rw [dN]))
        have hP := (dp_bd OK.out (by omega) dN).2
        have CS := hide (csD_of (sN.trans dN))
        have DN := hide dN
        obtain ⟨F, hF⟩ : ∃ F, F = bkL (gP L h) ndP dn.2.2 L.length := ⟨_, rfl⟩
        rw [← hF] at E2
        have HF := hide hF
        clear cN sN dN hF
        go_wp2
        clear kN
        go_loopw [7, 15] (fun v i u => ∃ (j : Nat) (d : Dn) (A' : Option Addr) (cc q : Nat) (l : List Int), j ≤ L.length ∧ dpD (gP L h) j = some d ∧ i = .int .i64 j ∧ v = .slice A' q cc ∧ q = l.length ∧ d.2.2 + q = dn.2.2 ∧ F = bkL (gP L h) ndP d.2.2 j ++ l ∧ OL u 3 w.heap.size A' cc l ∧ DpA u (w.heap.size + 1) (L.length + 1) 3 4 (stA (gP L h) (L.length + 1) 0) ∧ Below w.heap.size w u) (fun _ i _ => (intOf i).toNat)
        case atStart => exact ⟨L.length, dn, some ⟨w.heap.size, 0, none⟩, 0, 0, [], Nat.le_refl _, DN.out, rfl, rfl, rfl, by omega, by rw [HF.out, List.append_nil], HOL.out, HST.out, HBL.out⟩
        case round =>
          obtain ⟨j, d, A', cc, q, l, hj, hd, rfl, rfl, hq, hp, hl, hol, hst, hbl⟩ := hrel
          have HQ := hide hq
          have HL := hide hl
          have HD := hide hd
          have HO := hide hol
          have HS := hide hst
          have HB := hide hbl
          have hz := hbl.size
          clear hq hl hd hol hst hbl HST HOL HBL HF
          by_cases hj0 : 0 < j
          · obtain ⟨hb1, x, n', hx, _, _, hx5⟩ := dpD_from hj0 HD.out
            have HX := hide hx
            have BF := hide (show bkL (gP L h) ndP d.2.2 j = bkL (gP L h) ndP x.2.2 d.2.1 ++ [(j : Int)] by rw [hx5]; show bkL _ _ _ (bfN _ j) ++ _ = _; rw [bfN_of HD.out])
            have H1 := hide (show OL (wr.alloc (.cells #[.int .i64 j] 3)) 3 wr.heap.size (some ⟨wr.heap.size, 0, none⟩) 1 [(j : Int)] from by
              have := OL.lit (w := wr) (e := 3) (B := wr.heap.size) (Nat.le_refl _) [(j : Int)] (by simp [maxLen])
              simpa using this)
            have HIL := hide (show IL (wr.alloc (.cells #[.int .i64 j] 3)) A' q l by rw [HQ.out]; exact (HO.out.alloc _).reads)
            have HNC := hide HO.out.none_capb
            have HSa := hide (HS.out.below (bl_alloc (bl_refl wr) (.cells #[.int .i64 j] 3)) (Nat.le_refl _))
            have HBa := hide (bl_alloc HB.out (.cells #[.int .i64 j] 3))
            have sB := hide (bsD_of ((stA_lt (g := gP L h) (t := L.length + 1) (k := 0) (j := j) (by omega)).trans HD.out))
            have hza : (wr.alloc (.cells #[.int .i64 j] 3)).heap.size = wr.heap.size + 1 := by simp
            clear hx HO HD
            go_wp2_with (at_builtin; go_loud (refine wpList_append_list rfl (.tmp 116) (.tmp 117) _ rfl 3 i0 Try.underlying22 hi0 jz0 jz1 jz2 wr.heap.size (some ⟨wr.heap.size, 0, none⟩) 1 1 [(j : Int)] rfl rfl H1.out A' q cc l rfl HIL.out HNC.out (by omega) (by omega) ?_; intro A2 c2 u2 ho2 hb2 hg2; have HO2 := hide (ho2.more hz); have HS2 := hide (HS.out.below ((bl_alloc (bl_refl wr) (.cells #[.int .i64 j] 3)).trans hb2) (Nat.le_refl _)); have HB2 := hide (HBa.out.trans (hb2.mono hz)); have kb : u2.cell? ⟨w.heap.size + 1 + 1, j, none⟩ = some (.int .i64 d.2.1) := (by have h7 := (HS2.out.cells (j := j) (by omega)).2.1; rw [sB.out] at h7; exact h7); clear ho2 hb2 hg2))
            go_roundw
            case rel => exact ⟨d.2.1, x, A2, c2, 1 + q, [(j : Int)] ++ l, by omega, HX.out, rfl, rfl, by rw [List.length_append, ← HQ.out]; rfl, by omega, by rw [HL.out, BF.out, List.append_assoc], HO2.out, HS2.out, HB2.out⟩
            case measure => simp [intOf]; omega
          · obtain rfl : j = 0 := by omega
            have := dpD_zero_of HD.out
            subst this
            have E3 := hide (E2.out.trans (by rw [HL.out]; rfl : (F, dn.1, true) = (l, dn.1, true)))
            obtain ⟨cN, _, _⟩ := HS.out.cells (j := L.length) (by omega)
            rw [CS.out] at cN
            clear HS HL hz hp HD
            go_wp2
            go_quiet (fail)
            go_wp2
            refine bodyPost_ret (v := .tuple #[.slice A' q cc, .int .i64 dn.1, .bool true]) (by simp [results, Try.results38, go_sem]) rfl ?_
            rw [E3.out]
            exact ⟨A', cc, by rw [HQ.out], HO.out.drewN _, bl_drewN HB.out _⟩
end Go.Proofs.Ytkclecfjpabplaa
