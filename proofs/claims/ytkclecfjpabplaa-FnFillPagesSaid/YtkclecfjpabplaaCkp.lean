/- CheckPages, in the program and in its model. -/
import Derived.Test.YtkclecfjpabplaaBps
import Derived.Test.YtkclecfjpabplaaTotP
import Derived.Test.YtkclecfjpabplaaEnds
namespace Go.Proofs.Ytkclecfjpabplaa
open Go.ChangeShapes Go.WideShapes Go.ChangeAt Go.RowKit
set_option linter.unusedVariables false
set_option linter.unusedSimpArgs false
open Classical
set_option maxRecDepth 4000

theorem toP_bad {s : Int} {E : List Int} {C : Nat → Int → Int → Int × Bool} {k : Nat} (hk : k < E.length) (h : (C k (frm s E k) (ng E k)).2 = false) : toO s E C = (0, false) :=
  toO_no fun x => by rw [x k hk] at h; cases h
theorem pv_frmP (E : List Int) (j : Nat) : pv0 E j = frm 0 E j := by
  cases j with
  | zero => rfl
  | succ j => rfl
theorem ve_atP {E : List Int} {n : Nat} (h : ve E n = true) {j : Nat} (hj : j < E.length) : ∃ f t : Nat, frm 0 E j = f ∧ ng E j = t ∧ f < t ∧ t ≤ n := by
  obtain ⟨a, b⟩ := ve_iff.1 h
  have h1 := a.pos j (by omega)
  have h2 := a j hj
  have h3 := a.le E.length (j + 1) (by omega) (by omega)
  have h4 : pv0 E (j + 1) = ng E j := rfl
  have h5 := pv_frmP E j
  unfold lst at b
  exact ⟨(pv0 E j).toNat, (ng E j).toNat, by omega, by omega, by omega, by omega⟩
/-- What CheckPages answers. -/
noncomputable def cpV (L : List Gp) (h : Int) (E : List Int) : Int × Bool :=
  if lok L && inB h 1 10000 && ve E L.length then toO 0 E (fun _ f t => pgC L h 0 f t) else (0, false)
theorem cpV_no {L : List Gp} {h : Int} {E : List Int} (e : (lok L && inB h 1 10000 && ve E L.length) = false) : cpV L h E = (0, false) := by unfold cpV; rw [e]; rfl
theorem cpV_yes {L : List Gp} {h : Int} {E : List Int} (e : (lok L && inB h 1 10000 && ve E L.length) = true) : cpV L h E = toO 0 E (fun _ f t => pgC L h 0 f t) := by unfold cpV; rw [e]; rfl
theorem cp_bad {L : List Gp} {h : Int} {E : List Int} (x : ve E L.length = true → toO 0 E (fun _ f t => pgC L h 0 f t) = (0, false)) : cpV L h E = (0, false) := by
  cases q : (lok L && inB h 1 10000 && ve E L.length)
  · exact cpV_no q
  · rw [cpV_yes q]
    exact x (by have := (Bool.and_eq_true _ _).mp q; exact this.2)
/-- The sum of the costs of the first k pages. -/
def pS (L : List Gp) (h : Int) (E : List Int) (k : Nat) : Int := sto (fun j => (pgC L h 0 (frm 0 E j) (ng E j)).1) k
theorem pS_bd {L : List Gp} {h : Int} (ok : OkPg L h) (E : List Int) (k : Nat) : -(8000000000 * k) ≤ pS L h E k ∧ pS L h E k ≤ 8000000000 * k := sto_bd fun j _ => by
  have := pgC_bd ok 0 (frm 0 E j) (ng E j)
  omega
set_option maxHeartbeats 1000000 in
theorem CheckPages_i (w : World) (A B : Option Addr) (n c m d : Nat) (L : List Gp) (h : Int) (E : List Int) (ha : TL w A n L) (hn : n ≤ 4611686018427387904) (hc : n ≤ c) (hE : IL w B m E) (hm : m ≤ 1048576) :
    Calls Try.prog 46 #[.slice A n c, .int .i64 h, .slice B m d] w fun e w' => e = .returned (.tuple #[.int .i64 (cpV L h E).1, .bool (cpV L h E).2]) ∧ Below w.heap.size w w' := by
  obtain rfl : n = L.length := ha.1
  obtain rfl : m = E.length := hE.1
  have HI := hide ha
  have HE := hide hE
  clear ha hE
  cases q1 : lok L
  · have O := hide (cpV_no (L := L) (h := h) (E := E) (by rw [q1]; rfl))
    rw [O.out]
    go_enter Try.func46, Try.ntmps46
    go_wp2_with (first | (go_at_call 54; (with_reducible refine (ValidLines_i _ _ _ _ L (HI.out.below (by (repeat' (first | with_reducible exact bl_refl _ | with_reducible assumption | with_reducible refine bl_alloc ?_ _ | with_reducible refine bl_set ?_ ?_ _ | with_reducible refine bl_drewN ?_ _ | with_reducible refine bl_drew ?_ | with_reducible refine bl_call (by assumption) ?_)); (all_goals (first | omega | (simp; done) | (simp; omega))))) hn).mono ?_); rintro e w' ⟨rfl, hb⟩; (try (with_reducible have hb := bl_undrew hb)); obtain ⟨hc, hf⟩ := bcell hb; (try ((with_reducible have hq := bcell1 hb); obtain ⟨hc, hf⟩ := hq)); (try ((with_reducible have hq := bcell2 hb); obtain ⟨hc, hf⟩ := hq)); have hz := bl_sz hb; (try simp at hz); (try (have z0 : w.heap.size < w'.heap.size := (by omega); have y0 := Nat.le_of_lt z0)); (try (have z1 : w.heap.size + 1 < w'.heap.size := (by omega); have y1 := Nat.le_of_lt z1)); (try (have z2 : w.heap.size + 1 + 1 < w'.heap.size := (by omega); have y2 := Nat.le_of_lt z2)); (try (have z3 : w.heap.size + 1 + 1 + 1 < w'.heap.size := (by omega); have y3 := Nat.le_of_lt z3)); (try (have z4 : u1.heap.size < w'.heap.size := (by omega); have y4 := Nat.le_of_lt z4)); (try (have z5 : u1.heap.size + 1 < w'.heap.size := (by omega); have y5 := Nat.le_of_lt z5)); (try (have z6 : u2.heap.size < w'.heap.size := (by omega); have y6 := Nat.le_of_lt z6)); (try (have z7 : u2.heap.size + 1 < w'.heap.size := (by omega); have y7 := Nat.le_of_lt z7)); (try (have z8 : u3.heap.size < w'.heap.size := (by omega); have y8 := Nat.le_of_lt z8)); (try (have z9 : u3.heap.size + 1 < w'.heap.size := (by omega); have y9 := Nat.le_of_lt z9)); (try (have z10 : u4.heap.size < w'.heap.size := (by omega); have y10 := Nat.le_of_lt z10)); (try (have z11 : u4.heap.size + 1 < w'.heap.size := (by omega); have y11 := Nat.le_of_lt z11)); (try (have z12 : u5.heap.size < w'.heap.size := (by omega); have y12 := Nat.le_of_lt z12)); (try (have z13 : u5.heap.size + 1 < w'.heap.size := (by omega); have y13 := Nat.le_of_lt z13)); (try (have z14 : u6.heap.size < w'.heap.size := (by omega); have y14 := Nat.le_of_lt z14)); (try (have z15 : u6.heap.size + 1 < w'.heap.size := (by omega); have y15 := Nat.le_of_lt z15)); (try (have zg : g < w'.heap.size := (by omega); have yg := Nat.le_of_lt zg)); (try (have zc : wc.heap.size < w'.heap.size := (by omega); have yc := Nat.le_of_lt zc)); (try (have zd : wc.heap.size + 1 < w'.heap.size := (by omega); have yd := Nat.le_of_lt zd)); (first | (have _k := u7; clear _k; rename World => u8) | (have _k := u6; clear _k; rename World => u7) | (have _k := u5; clear _k; rename World => u6) | (have _k := u4; clear _k; rename World => u5) | (have _k := u3; clear _k; rename World => u4) | (have _k := u2; clear _k; rename World => u3) | (have _k := u1; clear _k; rename World => u2) | (rename World => u1))) | (go_at_call 80; (with_reducible refine (validPageSize_i _ _).mono ?_); rintro e w' ⟨rfl, rfl⟩) | (go_at_call 57; (with_reducible refine (validEnds_i _ B E.length d E L.length (HE.out.below (by (repeat' (first | with_reducible exact bl_refl _ | with_reducible assumption | with_reducible refine bl_alloc ?_ _ | with_reducible refine bl_set ?_ ?_ _ | with_reducible refine bl_drewN ?_ _ | with_reducible refine bl_drew ?_ | with_reducible refine bl_call (by assumption) ?_)); (all_goals (first | omega | (simp; done) | (simp; omega))))) (by omega)).mono ?_); rintro e w' ⟨rfl, rfl⟩))
    go_ret2
    exact ⟨rfl, (by (repeat' (first | with_reducible exact bl_refl _ | with_reducible assumption | with_reducible refine bl_alloc ?_ _ | with_reducible refine bl_set ?_ ?_ _ | with_reducible refine bl_drewN ?_ _ | with_reducible refine bl_drew ?_ | with_reducible refine bl_call (by assumption) ?_)); (all_goals (first | omega | (simp; done) | (simp; omega))))⟩
  cases q2 : inB h 1 10000
  · have O := hide (cpV_no (L := L) (h := h) (E := E) (by rw [q2]; simp))
    rw [O.out]
    go_enter Try.func46, Try.ntmps46
    go_wp2_with (first | (go_at_call 54; (with_reducible refine (ValidLines_i _ _ _ _ L (HI.out.below (by (repeat' (first | with_reducible exact bl_refl _ | with_reducible assumption | with_reducible refine bl_alloc ?_ _ | with_reducible refine bl_set ?_ ?_ _ | with_reducible refine bl_drewN ?_ _ | with_reducible refine bl_drew ?_ | with_reducible refine bl_call (by assumption) ?_)); (all_goals (first | omega | (simp; done) | (simp; omega))))) hn).mono ?_); rintro e w' ⟨rfl, hb⟩; (try (with_reducible have hb := bl_undrew hb)); obtain ⟨hc, hf⟩ := bcell hb; (try ((with_reducible have hq := bcell1 hb); obtain ⟨hc, hf⟩ := hq)); (try ((with_reducible have hq := bcell2 hb); obtain ⟨hc, hf⟩ := hq)); have hz := bl_sz hb; (try simp at hz); (try (have z0 : w.heap.size < w'.heap.size := (by omega); have y0 := Nat.le_of_lt z0)); (try (have z1 : w.heap.size + 1 < w'.heap.size := (by omega); have y1 := Nat.le_of_lt z1)); (try (have z2 : w.heap.size + 1 + 1 < w'.heap.size := (by omega); have y2 := Nat.le_of_lt z2)); (try (have z3 : w.heap.size + 1 + 1 + 1 < w'.heap.size := (by omega); have y3 := Nat.le_of_lt z3)); (try (have z4 : u1.heap.size < w'.heap.size := (by omega); have y4 := Nat.le_of_lt z4)); (try (have z5 : u1.heap.size + 1 < w'.heap.size := (by omega); have y5 := Nat.le_of_lt z5)); (try (have z6 : u2.heap.size < w'.heap.size := (by omega); have y6 := Nat.le_of_lt z6)); (try (have z7 : u2.heap.size + 1 < w'.heap.size := (by omega); have y7 := Nat.le_of_lt z7)); (try (have z8 : u3.heap.size < w'.heap.size := (by omega); have y8 := Nat.le_of_lt z8)); (try (have z9 : u3.heap.size + 1 < w'.heap.size := (by omega); have y9 := Nat.le_of_lt z9)); (try (have z10 : u4.heap.size < w'.heap.size := (by omega); have y10 := Nat.le_of_lt z10)); (try (have z11 : u4.heap.size + 1 < w'.heap.size := (by omega); have y11 := Nat.le_of_lt z11)); (try (have z12 : u5.heap.size < w'.heap.size := (by omega); have y12 := Nat.le_of_lt z12)); (try (have z13 : u5.heap.size + 1 < w'.heap.size := (by omega); have y13 := Nat.le_of_lt z13)); (try (have z14 : u6.heap.size < w'.heap.size := (by omega); have y14 := Nat.le_of_lt z14)); (try (have z15 : u6.heap.size + 1 < w'.heap.size := (by omega); have y15 := Nat.le_of_lt z15)); (try (have zg : g < w'.heap.size := (by omega); have yg := Nat.le_of_lt zg)); (try (have zc : wc.heap.size < w'.heap.size := (by omega); have yc := Nat.le_of_lt zc)); (try (have zd : wc.heap.size + 1 < w'.heap.size := (by omega); have yd := Nat.le_of_lt zd)); (first | (have _k := u7; clear _k; rename World => u8) | (have _k := u6; clear _k; rename World => u7) | (have _k := u5; clear _k; rename World => u6) | (have _k := u4; clear _k; rename World => u5) | (have _k := u3; clear _k; rename World => u4) | (have _k := u2; clear _k; rename World => u3) | (have _k := u1; clear _k; rename World => u2) | (rename World => u1))) | (go_at_call 80; (with_reducible refine (validPageSize_i _ _).mono ?_); rintro e w' ⟨rfl, rfl⟩) | (go_at_call 57; (with_reducible refine (validEnds_i _ B E.length d E L.length (HE.out.below (by (repeat' (first | with_reducible exact bl_refl _ | with_reducible assumption | with_reducible refine bl_alloc ?_ _ | with_reducible refine bl_set ?_ ?_ _ | with_reducible refine bl_drewN ?_ _ | with_reducible refine bl_drew ?_ | with_reducible refine bl_call (by assumption) ?_)); (all_goals (first | omega | (simp; done) | (simp; omega))))) (by omega)).mono ?_); rintro e w' ⟨rfl, rfl⟩))
    go_ret2
    exact ⟨rfl, (by (repeat' (first | with_reducible exact bl_refl _ | with_reducible assumption | with_reducible refine bl_alloc ?_ _ | with_reducible refine bl_set ?_ ?_ _ | with_reducible refine bl_drewN ?_ _ | with_reducible refine bl_drew ?_ | with_reducible refine bl_call (by assumption) ?_)); (all_goals (first | omega | (simp; done) | (simp; omega))))⟩
  cases q3 : ve E L.length
  · have O := hide (cpV_no (L := L) (h := h) (E := E) (by rw [q3]; simp))
    rw [O.out]
    go_enter Try.func46, Try.ntmps46
    go_wp2_with (first | (go_at_call 54; (with_reducible refine (ValidLines_i _ _ _ _ L (HI.out.below (by (repeat' (first | with_reducible exact bl_refl _ | with_reducible assumption | with_reducible refine bl_alloc ?_ _ | with_reducible refine bl_set ?_ ?_ _ | with_reducible refine bl_drewN ?_ _ | with_reducible refine bl_drew ?_ | with_reducible refine bl_call (by assumption) ?_)); (all_goals (first | omega | (simp; done) | (simp; omega))))) hn).mono ?_); rintro e w' ⟨rfl, hb⟩; (try (with_reducible have hb := bl_undrew hb)); obtain ⟨hc, hf⟩ := bcell hb; (try ((with_reducible have hq := bcell1 hb); obtain ⟨hc, hf⟩ := hq)); (try ((with_reducible have hq := bcell2 hb); obtain ⟨hc, hf⟩ := hq)); have hz := bl_sz hb; (try simp at hz); (try (have z0 : w.heap.size < w'.heap.size := (by omega); have y0 := Nat.le_of_lt z0)); (try (have z1 : w.heap.size + 1 < w'.heap.size := (by omega); have y1 := Nat.le_of_lt z1)); (try (have z2 : w.heap.size + 1 + 1 < w'.heap.size := (by omega); have y2 := Nat.le_of_lt z2)); (try (have z3 : w.heap.size + 1 + 1 + 1 < w'.heap.size := (by omega); have y3 := Nat.le_of_lt z3)); (try (have z4 : u1.heap.size < w'.heap.size := (by omega); have y4 := Nat.le_of_lt z4)); (try (have z5 : u1.heap.size + 1 < w'.heap.size := (by omega); have y5 := Nat.le_of_lt z5)); (try (have z6 : u2.heap.size < w'.heap.size := (by omega); have y6 := Nat.le_of_lt z6)); (try (have z7 : u2.heap.size + 1 < w'.heap.size := (by omega); have y7 := Nat.le_of_lt z7)); (try (have z8 : u3.heap.size < w'.heap.size := (by omega); have y8 := Nat.le_of_lt z8)); (try (have z9 : u3.heap.size + 1 < w'.heap.size := (by omega); have y9 := Nat.le_of_lt z9)); (try (have z10 : u4.heap.size < w'.heap.size := (by omega); have y10 := Nat.le_of_lt z10)); (try (have z11 : u4.heap.size + 1 < w'.heap.size := (by omega); have y11 := Nat.le_of_lt z11)); (try (have z12 : u5.heap.size < w'.heap.size := (by omega); have y12 := Nat.le_of_lt z12)); (try (have z13 : u5.heap.size + 1 < w'.heap.size := (by omega); have y13 := Nat.le_of_lt z13)); (try (have z14 : u6.heap.size < w'.heap.size := (by omega); have y14 := Nat.le_of_lt z14)); (try (have z15 : u6.heap.size + 1 < w'.heap.size := (by omega); have y15 := Nat.le_of_lt z15)); (try (have zg : g < w'.heap.size := (by omega); have yg := Nat.le_of_lt zg)); (try (have zc : wc.heap.size < w'.heap.size := (by omega); have yc := Nat.le_of_lt zc)); (try (have zd : wc.heap.size + 1 < w'.heap.size := (by omega); have yd := Nat.le_of_lt zd)); (first | (have _k := u7; clear _k; rename World => u8) | (have _k := u6; clear _k; rename World => u7) | (have _k := u5; clear _k; rename World => u6) | (have _k := u4; clear _k; rename World => u5) | (have _k := u3; clear _k; rename World => u4) | (have _k := u2; clear _k; rename World => u3) | (have _k := u1; clear _k; rename World => u2) | (rename World => u1))) | (go_at_call 80; (with_reducible refine (validPageSize_i _ _).mono ?_); rintro e w' ⟨rfl, rfl⟩) | (go_at_call 57; (with_reducible refine (validEnds_i _ B E.length d E L.length (HE.out.below (by (repeat' (first | with_reducible exact bl_refl _ | with_reducible assumption | with_reducible refine bl_alloc ?_ _ | with_reducible refine bl_set ?_ ?_ _ | with_reducible refine bl_drewN ?_ _ | with_reducible refine bl_drew ?_ | with_reducible refine bl_call (by assumption) ?_)); (all_goals (first | omega | (simp; done) | (simp; omega))))) (by omega)).mono ?_); rintro e w' ⟨rfl, rfl⟩))
    go_ret2
    exact ⟨rfl, (by (repeat' (first | with_reducible exact bl_refl _ | with_reducible assumption | with_reducible refine bl_alloc ?_ _ | with_reducible refine bl_set ?_ ?_ _ | with_reducible refine bl_drewN ?_ _ | with_reducible refine bl_drew ?_ | with_reducible refine bl_call (by assumption) ?_)); (all_goals (first | omega | (simp; done) | (simp; omega))))⟩
  have O := hide (cpV_yes (L := L) (h := h) (E := E) (by rw [q1, q2, q3]; rfl))
  have OK := hide (okPg_of (L := L) (h := h) (by rw [q1, q2]; rfl))
  have TOT := hide (fun (u : World) (hu : Below w.heap.size w u) (b1 b2 : Nat) (c1 : u.cell? ⟨b1, 0, none⟩ = some (.slice A L.length c)) (c2 : u.cell? ⟨b2, 0, none⟩ = some (.int .i64 h)) =>
    total_pages u B d E (HE.out.below hu) (by omega) 0 (fun _ f t => pgC L h 0 f t) (.pointer (some ⟨b2, 0, none⟩)) (.pointer (some ⟨b1, 0, none⟩)) (fun _ p q => by have := pgC_bd OK.out 0 p q; omega) (fun v hv i x => by
      obtain ⟨f, t, e1, e2, e3, e4⟩ := ve_atP q3 x.isLt
      rw [e1, e2]
      exact pages1_i v b1 b2 c A L h i f t (keep_cell hv c1) (keep_cell hv c2) ((HI.out.below hu).below hv) hc OK.out e3 e4))
  rw [← O.out] at TOT
  obtain ⟨v, hv⟩ : ∃ v, v = cpV L h E := ⟨_, rfl⟩
  rw [← hv] at TOT ⊢
  clear hv O
  obtain ⟨v1, v2⟩ := v
  go_enter Try.func46, Try.ntmps46
  go_wp2_with (first | (go_at_call 54; (with_reducible refine (ValidLines_i _ _ _ _ L (HI.out.below (by (repeat' (first | with_reducible exact bl_refl _ | with_reducible assumption | with_reducible refine bl_alloc ?_ _ | with_reducible refine bl_set ?_ ?_ _ | with_reducible refine bl_drewN ?_ _ | with_reducible refine bl_drew ?_ | with_reducible refine bl_call (by assumption) ?_)); (all_goals (first | omega | (simp; done) | (simp; omega))))) hn).mono ?_); rintro e w' ⟨rfl, hb⟩; (try (with_reducible have hb := bl_undrew hb)); obtain ⟨hc, hf⟩ := bcell hb; (try ((with_reducible have hq := bcell1 hb); obtain ⟨hc, hf⟩ := hq)); (try ((with_reducible have hq := bcell2 hb); obtain ⟨hc, hf⟩ := hq)); have hz := bl_sz hb; (try simp at hz); (try (have z0 : w.heap.size < w'.heap.size := (by omega); have y0 := Nat.le_of_lt z0)); (try (have z1 : w.heap.size + 1 < w'.heap.size := (by omega); have y1 := Nat.le_of_lt z1)); (try (have z2 : w.heap.size + 1 + 1 < w'.heap.size := (by omega); have y2 := Nat.le_of_lt z2)); (try (have z3 : w.heap.size + 1 + 1 + 1 < w'.heap.size := (by omega); have y3 := Nat.le_of_lt z3)); (try (have z4 : u1.heap.size < w'.heap.size := (by omega); have y4 := Nat.le_of_lt z4)); (try (have z5 : u1.heap.size + 1 < w'.heap.size := (by omega); have y5 := Nat.le_of_lt z5)); (try (have z6 : u2.heap.size < w'.heap.size := (by omega); have y6 := Nat.le_of_lt z6)); (try (have z7 : u2.heap.size + 1 < w'.heap.size := (by omega); have y7 := Nat.le_of_lt z7)); (try (have z8 : u3.heap.size < w'.heap.size := (by omega); have y8 := Nat.le_of_lt z8)); (try (have z9 : u3.heap.size + 1 < w'.heap.size := (by omega); have y9 := Nat.le_of_lt z9)); (try (have z10 : u4.heap.size < w'.heap.size := (by omega); have y10 := Nat.le_of_lt z10)); (try (have z11 : u4.heap.size + 1 < w'.heap.size := (by omega); have y11 := Nat.le_of_lt z11)); (try (have z12 : u5.heap.size < w'.heap.size := (by omega); have y12 := Nat.le_of_lt z12)); (try (have z13 : u5.heap.size + 1 < w'.heap.size := (by omega); have y13 := Nat.le_of_lt z13)); (try (have z14 : u6.heap.size < w'.heap.size := (by omega); have y14 := Nat.le_of_lt z14)); (try (have z15 : u6.heap.size + 1 < w'.heap.size := (by omega); have y15 := Nat.le_of_lt z15)); (try (have zg : g < w'.heap.size := (by omega); have yg := Nat.le_of_lt zg)); (try (have zc : wc.heap.size < w'.heap.size := (by omega); have yc := Nat.le_of_lt zc)); (try (have zd : wc.heap.size + 1 < w'.heap.size := (by omega); have yd := Nat.le_of_lt zd)); (first | (have _k := u7; clear _k; rename World => u8) | (have _k := u6; clear _k; rename World => u7) | (have _k := u5; clear _k; rename World => u6) | (have _k := u4; clear _k; rename World => u5) | (have _k := u3; clear _k; rename World => u4) | (have _k := u2; clear _k; rename World => u3) | (have _k := u1; clear _k; rename World => u2) | (rename World => u1))) | (go_at_call 80; (with_reducible refine (validPageSize_i _ _).mono ?_); rintro e w' ⟨rfl, rfl⟩) | (go_at_call 57; (with_reducible refine (validEnds_i _ B E.length d E L.length (HE.out.below (by (repeat' (first | with_reducible exact bl_refl _ | with_reducible assumption | with_reducible refine bl_alloc ?_ _ | with_reducible refine bl_set ?_ ?_ _ | with_reducible refine bl_drewN ?_ _ | with_reducible refine bl_drew ?_ | with_reducible refine bl_call (by assumption) ?_)); (all_goals (first | omega | (simp; done) | (simp; omega))))) (by omega)).mono ?_); rintro e w' ⟨rfl, rfl⟩) | (go_at_call 83; (with_reducible refine (costOfPages_i _ _ _ _ _).mono ?_); rintro e w' ⟨rfl, rfl⟩) | fail)
  (with_reducible refine (TOT.out _ (by (repeat' (first | with_reducible exact bl_refl _ | with_reducible assumption | with_reducible refine bl_alloc ?_ _ | with_reducible refine bl_set ?_ ?_ _ | with_reducible refine bl_drewN ?_ _ | with_reducible refine bl_drew ?_ | with_reducible refine bl_call (by assumption) ?_)); (all_goals (first | omega | (simp; done) | (simp; omega)))) _ _ (by simp [go_sem]) (by simp [go_sem])).mono ?_)
  rintro e u2 ⟨rfl, hb2⟩
  have HB2 := hide (bl_call hb2 (show Below w.heap.size w _ from (by (repeat' (first | with_reducible exact bl_refl _ | with_reducible assumption | with_reducible refine bl_alloc ?_ _ | with_reducible refine bl_set ?_ ?_ _ | with_reducible refine bl_drewN ?_ _ | with_reducible refine bl_drew ?_ | with_reducible refine bl_call (by assumption) ?_)); (all_goals (first | omega | (simp; done) | (simp; omega))))))
  clear hb2
  go_wp2
  go_ret2
  exact ⟨rfl, HB2.out⟩
set_option maxRecDepth 8000 in
set_option maxHeartbeats 2000000 in
theorem CheckPages_s (w : World) (A B : Option Addr) (n c m d : Nat) (L : List Gp) (h : Int) (E : List Int) (ha : TL w A n L) (hn : n ≤ 4611686018427387904) (hE : IL w B m E) (hm : m ≤ 1048576) :
    Calls Try.prog 45 #[.slice A n c, .int .i64 h, .slice B m d] w fun e w' => e = .returned (.tuple #[.int .i64 (cpV L h E).1, .bool (cpV L h E).2]) ∧ w = w' := by
  obtain rfl : n = L.length := ha.1
  obtain rfl : m = E.length := hE.1
  have HI := hide ha
  have HE := hide hE
  clear ha hE
  cases qa : lok L
  · have O := hide (cpV_no (L := L) (h := h) (E := E) (by rw [qa]; rfl))
    rw [O.out]
    go_enter Try.func45, Try.ntmps45
    go_wp2_with (first | (go_at_call 76; (with_reducible refine (validLines_s _ _ _ _ L HI.out hn).mono ?_); rintro e w' ⟨rfl, rfl⟩) | (go_at_call 77; (with_reducible refine (validWidth_q _ _).mono ?_); rintro e w' ⟨rfl, rfl⟩))
    go_ret2
    exact ⟨rfl, rfl⟩
  cases qb : inB h 1 10000
  · have O := hide (cpV_no (L := L) (h := h) (E := E) (by rw [qb]; simp))
    rw [O.out]
    go_enter Try.func45, Try.ntmps45
    go_wp2_with (first | (go_at_call 76; (with_reducible refine (validLines_s _ _ _ _ L HI.out hn).mono ?_); rintro e w' ⟨rfl, rfl⟩) | (go_at_call 77; (with_reducible refine (validWidth_q _ _).mono ?_); rintro e w' ⟨rfl, rfl⟩))
    go_ret2
    exact ⟨rfl, rfl⟩
  have OK := hide (okPg_of (L := L) (h := h) (by rw [qa, qb]; rfl))
  have l1 := OK.out.l1
  have PC := hide (fun (f t : Nat) (hft : f < t) (htl : t ≤ L.length) => pageCost_s w A c L h f t HI.out OK.out hft htl)
  have BAD := hide (fun (x : ve E L.length = true → toO 0 E (fun _ f t => pgC L h 0 f t) = (0, false)) => cp_bad (L := L) (h := h) (E := E) x)
  have YES := hide (fun (x : ve E L.length = true) => cpV_yes (L := L) (h := h) (E := E) (by rw [qa, qb, x]; rfl))
  have SB := hide (fun (k : Nat) => pS_bd OK.out E k)
  have CB := hide (fun (f t : Nat) => pgC_bd OK.out 0 f t)
  obtain ⟨W, hW⟩ : ∃ W, W = cpV L h E := ⟨_, rfl⟩
  rw [← hW] at BAD YES ⊢
  clear hW
  go_enter Try.func45, Try.ntmps45
  go_wp2_with (first | (go_at_call 76; (with_reducible refine (validLines_s _ _ _ _ L HI.out hn).mono ?_); rintro e w' ⟨rfl, rfl⟩) | (go_at_call 77; (with_reducible refine (validWidth_q _ _).mono ?_); rintro e w' ⟨rfl, rfl⟩))
  clear qa qb
  go_loop [8, 9, 10] (fun su fr i => ∃ (k f : Nat), k ≤ E.length ∧ i = .int .i64 k ∧ fr = .int .i64 f ∧ frm 0 E k = f ∧ f ≤ L.length ∧ su = .int .i64 (pS L h E k) ∧ AscTo E k ∧ okT 0 E (fun _ f t => pgC L h 0 f t) k) (fun _ _ i => E.length - (intOf i).toNat)
  case atStart => exact ⟨0, 0, by omega, rfl, rfl, rfl, by omega, rfl, AscTo.zero _, fun j hj => by omega⟩
  case round =>
    obtain ⟨k, f, hk, rfl, rfl, hfr, hfl, rfl, has, hok⟩ := hrel
    have sb := SB.out k
    by_cases hlt : k < E.length
    · obtain ⟨b, o, rfl, hb0, c0⟩ := HE.out.at_ hlt
      have ST := hide (fun h => AscTo.step has h)
      have VB := hide (fun h => ve_bad (l := E) (n := L.length) hlt h)
      have TB := hide (fun x => toP_bad (s := 0) (E := E) (C := fun _ f t => pgC L h 0 f t) hlt x)
      have OS := hide (fun (x : (pgC L h 0 (frm 0 E k) (ng E k)).2 = true) => show okT 0 E (fun _ f t => pgC L h 0 f t) (k + 1) from fun i hi => by
        rcases (by omega : i < k ∨ i = k) with e | e
        · exact hok i e
        · rw [e]; exact x)
      have SS := hide (show pS L h E (k + 1) = pS L h E k + (pgC L h 0 (frm 0 E k) (ng E k)).1 from rfl)
      have FS := hide (frm_succ 0 E k)
      rw [pv_frmP] at ST VB
      rw [hfr] at ST VB TB OS SS
      obtain ⟨y, hy⟩ : ∃ y, y = ng E k := ⟨_, rfl⟩
      rw [← hy] at c0 ST VB TB OS SS FS
      obtain ⟨z, hz⟩ : ∃ z, z = pS L h E k := ⟨_, rfl⟩
      rw [← hz] at SS sb ⊢
      clear hy hz has hok hfr
      rcases (by omega : y ≤ f ∨ (f : Int) < y ∧ (L.length : Int) < y ∨ (f : Int) < y ∧ y ≤ L.length) with q | ⟨q, q1⟩ | ⟨q, q1⟩
      · have O := hide (BAD.out (fun h => by rw [VB.out (.inl q)] at h; cases h))
        clear BAD YES VB TB OS SS ST
        go_wp2
        go_ret2
        exact ⟨by rw [O.out]; rfl, rfl⟩
      · have O := hide (BAD.out (fun h => by rw [VB.out (.inr q1)] at h; cases h))
        clear BAD YES VB TB OS SS ST
        go_wp2
        go_ret2
        exact ⟨by rw [O.out]; rfl, rfl⟩
      · obtain ⟨t, rfl⟩ : ∃ t : Nat, y = t := ⟨y.toNat, by omega⟩
        have hft : f < t := by omega
        have htl : t ≤ L.length := by omega
        have C := hide (PC.out f t hft htl)
        have cb := CB.out f t
        obtain ⟨v, hv⟩ : ∃ v, v = (pgC L h 0 f t).1 := ⟨_, rfl⟩
        obtain ⟨fl, hfl'⟩ : ∃ v, v = (pgC L h 0 f t).2 := ⟨_, rfl⟩
        rw [← hv, ← hfl'] at C
        rw [← hv] at SS cb
        rw [← hfl'] at TB OS
        clear hv hfl' VB
        cases fl
        · have O := hide (BAD.out (fun _ => TB.out rfl))
          clear BAD YES TB OS SS ST
          go_wp2_with (go_at_call 78; refine (C.out).mono ?_; rintro e w' ⟨rfl, rfl⟩)
          go_ret2
          exact ⟨by rw [O.out]; rfl, rfl⟩
        · have OS1 := hide (OS.out rfl)
          have ST1 := hide (ST.out q)
          clear BAD YES TB OS ST
          go_wp2_with (go_at_call 78; refine (C.out).mono ?_; rintro e w' ⟨rfl, rfl⟩)
          go_round
          case rel => exact ⟨k + 1, t, by omega, by go_num, rfl, FS.out, htl, by rw [SS.out], ST1.out, OS1.out⟩
          case measure => simp [intOf]; omega
    · obtain rfl : k = E.length := by omega
      have VA := hide (ve_all (l := E) (n := L.length) has)
      unfold lst at VA
      rw [pv_frmP, hfr] at VA
      rcases (by omega : f = L.length ∨ f < L.length) with q | q
      · have O := hide (YES.out (by rw [VA.out, q]; simp))
        have T := hide (toO_yes hok)
        have O := hide (O.out.trans T.out)
        have q2 : ((f : Int) == (L.length : Int)) = true := beq_iff_eq.2 (by omega)
        clear BAD YES VA hfr has hok q
        go_wp2
        go_ret2
        exact ⟨by rw [O.out]; rfl, rfl⟩
      · have O := hide (BAD.out (fun h => by rw [VA.out] at h; have := of_decide_eq_true h; omega))
        have q2 : ((f : Int) == (L.length : Int)) = false := beq_eq_false_iff_ne.2 (by omega)
        clear BAD YES VA hfr has hok
        go_wp2
        go_ret2
        exact ⟨by rw [O.out]; rfl, rfl⟩
end Go.Proofs.Ytkclecfjpabplaa
