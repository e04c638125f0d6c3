/- BestPages in the program: the search for the least way over pages. -/
import Derived.Test.YtkclecfjpabplaaDp
import Derived.Test.YtkclecfjpabplaaUpto
import Derived.Test.YtkclecfjpabplaaWyE
import Derived.Test.YtkclecfjpabplaaFlP
namespace Go.Proofs.Ytkclecfjpabplaa
open Go.ChangeShapes Go.WideShapes Go.ChangeAt Go.RowKit Go.Shelf
set_option linter.unusedVariables false
set_option linter.unusedSimpArgs false
open Classical
attribute [local go_sem] Oper.semAt_some

/-- What a page costs, and whether it is possible. -/
def pgq (L : List Gp) (h : Int) (f t : Nat) : Int × Bool :=
  if h - pgh L f (t - f) < 0 then (0, false) else if t = L.length then (0, true) else ((h - pgh L f (t - f)) * (h - pgh L f (t - f)) + (tg L (t - 1)).v, true)
theorem pgq_no {L : List Gp} {h : Int} {f t : Nat} (e : h - pgh L f (t - f) < 0) : pgq L h f t = (0, false) := if_pos e
theorem pgq_last {L : List Gp} {h : Int} {f t : Nat} (e : ¬ h - pgh L f (t - f) < 0) (e2 : t = L.length) : pgq L h f t = (0, true) := by unfold pgq; rw [if_neg e, if_pos e2]
theorem pgq_mid {L : List Gp} {h : Int} {f t : Nat} (e : ¬ h - pgh L f (t - f) < 0) (e2 : ¬ t = L.length) : pgq L h f t = ((h - pgh L f (t - f)) * (h - pgh L f (t - f)) + (tg L (t - 1)).v, true) := by unfold pgq; rw [if_neg e, if_neg e2]
theorem sq_pg {z : Int} (h0 : 0 ≤ z) (h : z ≤ 10000) : 0 ≤ z * z ∧ z * z ≤ 100000000 := by
  constructor
  · exact Int.mul_nonneg h0 h0
  · exact Int.le_trans (Int.mul_le_mul h h h0 (by omega)) (by decide)
def pgC (L : List Gp) (h : Int) (p a t : Int) : Int × Bool := if 0 ≤ a ∧ a < t ∧ t ≤ L.length then pgq L h a.toNat t.toNat else (0, false)
theorem pgC_at {L : List Gp} {h : Int} {p : Int} {f t : Nat} (h1 : f < t) (h2 : t ≤ L.length) : pgC L h p f t = pgq L h f t := by
  unfold pgC
  rw [if_pos (by omega)]
  simp only [Int.toNat_natCast]
/-- What is asked of lines and their height. -/
structure OkPg (L : List Gp) (h : Int) : Prop where
  l0 : 1 ≤ L.length
  l1 : L.length ≤ 40
  ln : LTo L L.length
  h0 : 1 ≤ h
  h1 : h ≤ 10000
theorem pgh_nn {L : List Gp} {f k : Nat} (h : LTo L L.length) (hk : f + k ≤ L.length) : 0 ≤ pgh L f k := by
  have := hs_bd h hk
  unfold pgh
  split <;> omega
theorem pgq_bd {L : List Gp} {h : Int} {f t : Nat} (ok : OkPg L h) (h1 : f < t) (h2 : t ≤ L.length) : 0 ≤ (pgq L h f t).1 ∧ (pgq L h f t).1 ≤ 100001000 := by
  have hp := pgh_nn (f := f) (k := t - f) ok.ln (by omega)
  have hh := ok.h1
  unfold pgq
  split
  · simp
  split
  · simp
  · next a b =>
    have := sq_pg (z := h - pgh L f (t - f)) (by omega) (by omega)
    have := (lnk_iff.1 (ok.ln (t - 1) (by omega))).2.2
    dsimp only
    omega
theorem pgC_bd {L : List Gp} {h : Int} (ok : OkPg L h) (p a t : Int) : 0 ≤ (pgC L h p a t).1 ∧ (pgC L h p a t).1 ≤ 100001000 := by
  unfold pgC
  split
  · exact pgq_bd ok (by omega) (by omega)
  · simp
/-- The costs as a table takes them. -/
def gP (L : List Gp) (h : Int) (i j : Nat) : Option Int := if (pgC L h 0 i j).2 = true then some (pgC L h 0 i j).1 else none
theorem gP_yes {L : List Gp} {h : Int} {i j : Nat} (e : (pgC L h 0 i j).2 = true) : gP L h i j = some (pgC L h 0 i j).1 := if_pos e
theorem gP_no {L : List Gp} {h : Int} {i j : Nat} (e : (pgC L h 0 i j).2 = false) : gP L h i j = none := if_neg (by rw [e]; simp)
theorem gP_bd {L : List Gp} {h : Int} (ok : OkPg L h) {i j : Nat} {n : Int} (e : gP L h i j = some n) : 0 ≤ n ∧ n ≤ 100001000 := by
  unfold gP at e
  split at e
  · cases e; exact pgC_bd ok _ _ _
  · cases e
abbrev ndP (j : Nat) : Int := j
abbrev plP (N : Nat) (k : Nat) : Int × Bool := ((k : Int) + 1, ((k : Int) + 1) == (N : Int))
theorem af_low {N : Nat} : ∀ {k : Nat}, k < N → afN (plP N) id k = 0
  | 0, _ => rfl
  | k + 1, h => by
    simp only [afN]
    rw [if_neg, af_low (by omega)]
    rw [beq_iff_eq]
    omega
theorem af_top {N : Nat} (h : 0 < N) : afN (plP N) id N = N := by
  obtain ⟨k, rfl⟩ : ∃ k, N = k + 1 := ⟨N - 1, by omega⟩
  simp only [afN]
  rw [if_pos (by rw [beq_iff_eq]; omega)]
  rfl
theorem isDp_pages (L : List Gp) (h : Int) : IsDp (pgC L h) 0 (plP L.length) L.length (gP L h) ndP id where
  one := fun p a t => rfl
  p0 := rfl
  inc := fun k hk => Nat.lt_succ_self k
  gap := fun k hk m h1 h2 => by simp only [id] at h1 h2; omega
  n0 := rfl
  at_ := fun k hk => by simp
  yes := fun k hk i _ _ _ e => gP_yes e
  no := fun k hk i _ _ _ e => gP_no e
  passed := fun k hk i hi => by rw [af_low hk] at hi; omega
/-- What BestPages answers. -/
noncomputable def bpV (L : List Gp) (h : Int) : List Int × Int × Bool := if lok L && inB h 1 10000 then dpR (gP L h) ndP L.length else ([], 0, false)
theorem bpV_no {L : List Gp} {h : Int} (e : (lok L && inB h 1 10000) = false) : bpV L h = ([], 0, false) := by simp only [bpV, e]; rfl
theorem bpV_yes {L : List Gp} {h : Int} (e : (lok L && inB h 1 10000) = true) : bpV L h = dpR (gP L h) ndP L.length := by simp only [bpV, e, if_true]
theorem okPg_of {L : List Gp} {h : Int} (e : (lok L && inB h 1 10000) = true) : OkPg L h := by
  obtain ⟨a, b⟩ := (Bool.and_eq_true _ _).mp e
  obtain ⟨⟨l0, l1⟩, l2⟩ := lok_iff.1 a
  obtain ⟨h0, h1⟩ := inB_iff.1 b
  exact ⟨l0, l1, l2, h0, h1⟩
/-- What a function leaves that returns a list that it made, a number and whether it succeeded. -/
def RetB (w : World) (o : List Int × Int × Bool) (e : Ending) (w' : World) : Prop := ∃ A c, e = .returned (.tuple #[.slice A o.1.length c, .int .i64 o.2.1, .bool o.2.2]) ∧ OL w' 3 w.heap.size A c o.1 ∧ Below w.heap.size w w'
theorem RetB.no {w w' : World} {o : List Int × Int × Bool} (h : o = ([], 0, false)) (hb : Below w.heap.size w w') : RetB w o (.returned (.tuple #[.slice none 0 0, .int .i64 0, .bool false])) w' := by
  subst h
  exact ⟨none, 0, rfl, OL.nil _ _ _, hb⟩
set_option maxHeartbeats 1000000 in
theorem pages1_i (w : World) (b1 b2 c : Nat) (A : Option Addr) (L : List Gp) (h x : Int) (p t : Nat) (h1 : w.cell? ⟨b1, 0, none⟩ = some (.slice A L.length c)) (h2 : w.cell? ⟨b2, 0, none⟩ = some (.int .i64 h)) (ha : TL w A L.length L) (hc : L.length ≤ c) (ok : OkPg L h) (hpt : p < t) (htl : t ≤ L.length) :
    Calls Try.prog 107 #[.int .i64 x, .int .i64 p, .int .i64 t, .pointer (some ⟨b2, 0, none⟩), .pointer (some ⟨b1, 0, none⟩)] w fun e w' => e = .returned (.tuple #[.int .i64 (pgC L h 0 p t).1, .bool (pgC L h 0 p t).2]) ∧ Below w.heap.size w w' := by
  rw [pgC_at hpt htl]
  obtain ⟨l0, l1, l2, q0, q1⟩ := ok
  obtain ⟨b, o, rfl, hb0, hc0⟩ := ha.at_ (i := t - 1) (by omega)
  have HS := hide (TL.sub ha (f := p) (t := t) (by omega) htl)
  have CS := fun (u : World) (d : Nat) (hu : Below w.heap.size w u) => pageHeight_i u (some ⟨b, o + p * 3, none⟩) (t - p) d p _ L (HS.out.below hu) (by omega) (fun i hi => tg_sub hi htl) l2 (by omega)
  have NO := hide (pgq_no (L := L) (h := h) (f := p) (t := t))
  have LA := hide (pgq_last (L := L) (h := h) (f := p) (t := t))
  have MI := hide (pgq_mid (L := L) (h := h) (f := p) (t := t))
  have zn := pgh_nn (f := p) (k := t - p) l2 (by omega)
  have pn := (lnk_iff.1 (l2 (t - 1) (by omega))).2.2
  have d2 : w.cell? ⟨b, o + (t - 1) * 3 + 2, none⟩ = some (.int .i64 (tg L (t - 1)).v) := by have := hc0 2 (by decide); exact this
  obtain ⟨y, hy⟩ : ∃ y, y = (tg L (t - 1)).v := ⟨_, rfl⟩
  rw [← hy] at d2 pn MI
  have zb : pgh L p (t - p) ≤ 81000 := by
    have := hs_bd (L := L) (f := p) (k := t - p) l2 (by omega)
    unfold pgh
    split <;> omega
  obtain ⟨z, hz⟩ : ∃ z, z = pgh L p (t - p) := ⟨_, rfl⟩
  rw [← hz] at CS NO LA MI zn zb
  have HC := hide CS
  have g1 : p ≤ t := by omega
  have g2 : t ≤ c := by omega
  have g4 : p ≤ c := by omega
  have CAST : ((t : Int) - (p : Int)) = ((t - p : Nat) : Int) := by omega
  have CAST1 : ((t : Int) - 1) = ((t - 1 : Nat) : Int) := by omega
  have g3 : t - 1 < L.length := by omega
  have d1 := h1
  clear CS HS ha hc0 hz hy l2
  rcases (by omega : h - z < 0 ∨ ¬ h - z < 0 ∧ t = L.length ∨ ¬ h - z < 0 ∧ ¬ t = L.length) with q | ⟨q, q1⟩ | ⟨q, q1⟩
  · have E := hide (NO.out q)
    clear NO LA MI
    rw [E.out]
    go_enter Try.func107, Try.ntmps107
    go_wp2_with fail
    go_region_with (go_at_call 88; (with_reducible refine (HC.out _ _ (bl_drew (bl_refl _))).mono ?_); rintro e u1 ⟨rfl, hb⟩; (try (with_reducible have hb := bl_undrew hb)); have k2 := keep_cell hb h2)
    all_goals
      go_wp2
      go_ret2
      exact ⟨rfl, hb⟩
  · have E := hide (LA.out q q1)
    clear NO LA MI
    rw [E.out]
    have q2 : ((t : Int) == (L.length : Int)) = true := beq_iff_eq.2 (by omega)
    clear q1
    go_enter Try.func107, Try.ntmps107
    go_wp2_with fail
    go_region_with (go_at_call 88; (with_reducible refine (HC.out _ _ (bl_drew (bl_refl _))).mono ?_); rintro e u1 ⟨rfl, hb⟩; (try (with_reducible have hb := bl_undrew hb)); have k2 := keep_cell hb h2; have k1 := keep_cell hb d1)
    all_goals
      go_wp2
      go_ret2
      exact ⟨rfl, hb⟩
  · have E := hide (MI.out q q1)
    have sq := sq_pg (z := h - z) (by omega) (by omega)
    clear NO LA MI
    rw [E.out]
    have q2 : ((t : Int) == (L.length : Int)) = false := beq_eq_false_iff_ne.2 (by omega)
    go_enter Try.func107, Try.ntmps107
    go_wp2_with fail
    go_region_with (go_at_call 88; (with_reducible refine (HC.out _ _ (bl_drew (bl_refl _))).mono ?_); rintro e u1 ⟨rfl, hb⟩; (try (with_reducible have hb := bl_undrew hb)); have k2 := keep_cell hb h2; have k1 := keep_cell hb d1; have k3 := keep_cell hb d2)
    all_goals
      go_wp2
      go_ret2
      exact ⟨rfl, hb⟩
theorem costOfPages_i (w : World) (A : Option Addr) (n c : Nat) (h : Int) :
    Calls Try.prog 83 #[.slice A n c, .int .i64 h] w fun e w' => e = .returned (.func (.func 107) #[] #[.pointer (some ⟨w.heap.size + 1, 0, none⟩), .pointer (some ⟨w.heap.size, 0, none⟩)]) ∧ (w.alloc (.cells #[.slice A n c] 51)).alloc (.cells #[.int .i64 h] 3) = w' := by
  go_enter Try.func83, Try.ntmps83
  go_wp2
  go_ret
  exact ⟨rfl, rfl⟩
theorem least_pages (w : World) (A : Option Addr) (c : Nat) (L : List Gp) (h : Int) (b0 b1 b2 : Nat) (ha : TL w A L.length L) (hc : L.length ≤ c) (ok : OkPg L h) (k0 : w.cell? ⟨b0, 0, none⟩ = some (.int .i64 L.length)) (k1 : w.cell? ⟨b1, 0, none⟩ = some (.slice A L.length c)) (k2 : w.cell? ⟨b2, 0, none⟩ = some (.int .i64 h)) :
    Calls Try.prog 81 #[.int .i64 0, .func (.func 106) #[] #[.pointer (some ⟨b0, 0, none⟩)], .func (.func 107) #[] #[.pointer (some ⟨b2, 0, none⟩), .pointer (some ⟨b1, 0, none⟩)], .bool false] w (RetB w (dpR (gP L h) ndP L.length)) := by
  have DP := isDp_pages L h
  have hf := af_top (N := L.length) (by have := ok.l0; omega)
  have l1 := ok.l1
  have hl0 := World.block_lt_of_cell? w _ k0
  have hR := lwR_dp DP hf
  have BD : ∀ j d, dpD (gP L h) j = some d → d.2.2 ≤ j ∧ -(100001000 * (d.2.2 : Int)) ≤ d.1 ∧ d.1 ≤ 100001000 * d.2.2 := fun j d e => dpD_bd (g := gP L h) (M := 100001000) (fun i j n e => by have := gP_bd ok e; omega) (j + 1) (Nat.lt_succ_self j) e
  have := leastWay_i w 0 106 107 #[.pointer (some ⟨b0, 0, none⟩)] #[.pointer (some ⟨b2, 0, none⟩), .pointer (some ⟨b1, 0, none⟩)] (pgC L h) false (plP L.length) L.length
    (upto_seq Fence.wide 4 trivial rfl (by decide) b0 w.heap.size L.length (by omega) w hl0 hl0 k0) (enters_of Try.func106 (by kernel_rfl) rfl)
    (fun k u hk hb hws => by
      have hlen := lwS_len DP (k := k) (by omega)
      have hlw := lwS_dp DP (k := k) (by omega)
      have hpos := lwS_pos (C := pgC L h) (cnt := false) (start := 0) (pl := plP L.length) (k := k)
      have HW : ∀ i, i < (lwS (pgC L h) false 0 (plP L.length) k).1.length → ∃ j d, j < k + 1 ∧ dpD (gP L h) j = some d ∧ tg (lwS (pgC L h) false 0 (plP L.length) k).1 i = wyN (gP L h) ndP j d := fun i hi => by
        rw [hlw] at hi ⊢
        obtain ⟨j, d, e1, e2, _, e4⟩ := Wn_at hi
        exact ⟨j, d, e1, e2, e4⟩
      refine extend_pages u (w.heap.size + 1) (w.heap.size + 1 + 1) _ _ false _ (pgC L h) _ _ hws hpos.1 (by simp only [id] at hlen; omega) hpos.2 ?_ ?_ ?_
      · intro i hi
        obtain ⟨j, d, e1, e2, e3⟩ := HW i hi
        rw [e3]
        have := BD j d e2
        simp only [wyN]
        omega
      · intro i a b
        have := pgC_bd ok i a b
        omega
      · intro v hv i _ hi
        obtain ⟨j, d, e1, e2, e3⟩ := HW i hi
        rw [e3]
        have hb2 : Below w.heap.size w v := hb.trans (hv.mono (by omega))
        exact pages1_i v b1 b2 c A L h _ j (k + 1) (keep_cell hb2 k1) (keep_cell hb2 k2) (ha.below hb2) hc ok e1 (by omega))
    (by have := lwS_len DP (k := L.length) (Nat.le_refl _); simp only [id] at this; omega)
    (lw_ok DP hf (K := 1000000) (by simp only [id]; omega) (fun j d _ e => (BD j d e).1))
  rw [hR] at this
  exact this
set_option maxHeartbeats 1000000 in
theorem BestPages_i (w : World) (A : Option Addr) (n c : Nat) (L : List Gp) (h : Int) (ha : TL w A n L) (hn : n ≤ 4611686018427387904) (hnc : n ≤ c) :
    Calls Try.prog 40 #[.slice A n c, .int .i64 h] w (RetB w (bpV L h)) := by
  obtain rfl : n = L.length := ha.1
  have HI := hide ha
  clear ha
  cases q1 : lok L
  · have E := hide (bpV_no (L := L) (h := h) (by rw [q1]; rfl))
    go_enter Try.func40, Try.ntmps40
    go_wp2_with (first | (go_at_call 54; (with_reducible refine (ValidLines_i _ _ _ _ L (HI.out.below (by (repeat' (first | with_reducible exact bl_refl _ | with_reducible assumption | with_reducible refine bl_alloc ?_ _ | with_reducible refine bl_set ?_ ?_ _ | with_reducible refine bl_drewN ?_ _ | with_reducible refine bl_drew ?_ | with_reducible refine bl_call (by assumption) ?_)); (all_goals (first | omega | (simp; done) | (simp; omega))))) hn).mono ?_); rintro e w' ⟨rfl, hb⟩; (try (with_reducible have hb := bl_undrew hb)); obtain ⟨hc, hf⟩ := bcell hb; (try ((with_reducible have hq := bcell1 hb); obtain ⟨hc, hf⟩ := hq)); (try ((with_reducible have hq := bcell2 hb); obtain ⟨hc, hf⟩ := hq)); have hz := bl_sz hb; (try simp at hz); (try (have z0 : w.heap.size < w'.heap.size := (by omega); have y0 := Nat.le_of_lt z0)); (try (have z1 : w.heap.size + 1 < w'.heap.size := (by omega); have y1 := Nat.le_of_lt z1)); (try (have z2 : w.heap.size + 1 + 1 < w'.heap.size := (by omega); have y2 := Nat.le_of_lt z2)); (try (have z3 : w.heap.size + 1 + 1 + 1 < w'.heap.size := (by omega); have y3 := Nat.le_of_lt z3)); (try (have z4 : u1.heap.size < w'.heap.size := (by omega); have y4 := Nat.le_of_lt z4)); (try (have z5 : u1.heap.size + 1 < w'.heap.size := (by omega); have y5 := Nat.le_of_lt z5)); (try (have z6 : u2.heap.size < w'.heap.size := (by omega); have y6 := Nat.le_of_lt z6)); (try (have z7 : u2.heap.size + 1 < w'.heap.size := (by omega); have y7 := Nat.le_of_lt z7)); (try (have z8 : u3.heap.size < w'.heap.size := (by omega); have y8 := Nat.le_of_lt z8)); (try (have z9 : u3.heap.size + 1 < w'.heap.size := (by omega); have y9 := Nat.le_of_lt z9)); (try (have z10 : u4.heap.size < w'.heap.size := (by omega); have y10 := Nat.le_of_lt z10)); (try (have z11 : u4.heap.size + 1 < w'.heap.size := (by omega); have y11 := Nat.le_of_lt z11)); (try (have z12 : u5.heap.size < w'.heap.size := (by omega); have y12 := Nat.le_of_lt z12)); (try (have z13 : u5.heap.size + 1 < w'.heap.size := (by omega); have y13 := Nat.le_of_lt z13)); (try (have z14 : u6.heap.size < w'.heap.size := (by omega); have y14 := Nat.le_of_lt z14)); (try (have z15 : u6.heap.size + 1 < w'.heap.size := (by omega); have y15 := Nat.le_of_lt z15)); (try (have zg : g < w'.heap.size := (by omega); have yg := Nat.le_of_lt zg)); (try (have zc : wc.heap.size < w'.heap.size := (by omega); have yc := Nat.le_of_lt zc)); (try (have zd : wc.heap.size + 1 < w'.heap.size := (by omega); have yd := Nat.le_of_lt zd)); (first | (have _k := u7; clear _k; rename World => u8) | (have _k := u6; clear _k; rename World => u7) | (have _k := u5; clear _k; rename World => u6) | (have _k := u4; clear _k; rename World => u5) | (have _k := u3; clear _k; rename World => u4) | (have _k := u2; clear _k; rename World => u3) | (have _k := u1; clear _k; rename World => u2) | (rename World => u1))) | (go_at_call 80; (with_reducible refine (validPageSize_i _ _).mono ?_); rintro e w' ⟨rfl, rfl⟩))
    refine bodyPost_ret (v := .tuple #[.slice none 0 0, .int .i64 0, .bool false]) (by simp [results, Try.results40, go_sem]) rfl ?_
    exact RetB.no E.out (by (repeat' (first | with_reducible exact bl_refl _ | with_reducible assumption | with_reducible refine bl_alloc ?_ _ | with_reducible refine bl_set ?_ ?_ _ | with_reducible refine bl_drewN ?_ _ | with_reducible refine bl_drew ?_ | with_reducible refine bl_call (by assumption) ?_)); (all_goals (first | omega | (simp; done) | (simp; omega))))
  cases q2 : inB h 1 10000
  · have E := hide (bpV_no (L := L) (h := h) (by rw [q2, Bool.and_false]))
    go_enter Try.func40, Try.ntmps40
    go_wp2_with (first | (go_at_call 54; (with_reducible refine (ValidLines_i _ _ _ _ L (HI.out.below (by (repeat' (first | with_reducible exact bl_refl _ | with_reducible assumption | with_reducible refine bl_alloc ?_ _ | with_reducible refine bl_set ?_ ?_ _ | with_reducible refine bl_drewN ?_ _ | with_reducible refine bl_drew ?_ | with_reducible refine bl_call (by assumption) ?_)); (all_goals (first | omega | (simp; done) | (simp; omega))))) hn).mono ?_); rintro e w' ⟨rfl, hb⟩; (try (with_reducible have hb := bl_undrew hb)); obtain ⟨hc, hf⟩ := bcell hb; (try ((with_reducible have hq := bcell1 hb); obtain ⟨hc, hf⟩ := hq)); (try ((with_reducible have hq := bcell2 hb); obtain ⟨hc, hf⟩ := hq)); have hz := bl_sz hb; (try simp at hz); (try (have z0 : w.heap.size < w'.heap.size := (by omega); have y0 := Nat.le_of_lt z0)); (try (have z1 : w.heap.size + 1 < w'.heap.size := (by omega); have y1 := Nat.le_of_lt z1)); (try (have z2 : w.heap.size + 1 + 1 < w'.heap.size := (by omega); have y2 := Nat.le_of_lt z2)); (try (have z3 : w.heap.size + 1 + 1 + 1 < w'.heap.size := (by omega); have y3 := Nat.le_of_lt z3)); (try (have z4 : u1.heap.size < w'.heap.size := (by omega); have y4 := Nat.le_of_lt z4)); (try (have z5 : u1.heap.size + 1 < w'.heap.size := (by omega); have y5 := Nat.le_of_lt z5)); (try (have z6 : u2.heap.size < w'.heap.size := (by omega); have y6 := Nat.le_of_lt z6)); (try (have z7 : u2.heap.size + 1 < w'.heap.size := (by omega); have y7 := Nat.le_of_lt z7)); (try (have z8 : u3.heap.size < w'.heap.size := (by omega); have y8 := Nat.le_of_lt z8)); (try (have z9 : u3.heap.size + 1 < w'.heap.size := (by omega); have y9 := Nat.le_of_lt z9)); (try (have z10 : u4.heap.size < w'.heap.size := (by omega); have y10 := Nat.le_of_lt z10)); (try (have z11 : u4.heap.size + 1 < w'.heap.size := (by omega); have y11 := Nat.le_of_lt z11)); (try (have z12 : u5.heap.size < w'.heap.size := (by omega); have y12 := Nat.le_of_lt z12)); (try (have z13 : u5.heap.size + 1 < w'.heap.size := (by omega); have y13 := Nat.le_of_lt z13)); (try (have z14 : u6.heap.size < w'.heap.size := (by omega); have y14 := Nat.le_of_lt z14)); (try (have z15 : u6.heap.size + 1 < w'.heap.size := (by omega); have y15 := Nat.le_of_lt z15)); (try (have zg : g < w'.heap.size := (by omega); have yg := Nat.le_of_lt zg)); (try (have zc : wc.heap.size < w'.heap.size := (by omega); have yc := Nat.le_of_lt zc)); (try (have zd : wc.heap.size + 1 < w'.heap.size := (by omega); have yd := Nat.le_of_lt zd)); (first | (have _k := u7; clear _k; rename World => u8) | (have _k := u6; clear _k; rename World => u7) | (have _k := u5; clear _k; rename World => u6) | (have _k := u4; clear _k; rename World => u5) | (have _k := u3; clear _k; rename World => u4) | (have _k := u2; clear _k; rename World => u3) | (have _k := u1; clear _k; rename World => u2) | (rename World => u1))) | (go_at_call 80; (with_reducible refine (validPageSize_i _ _).mono ?_); rintro e w' ⟨rfl, rfl⟩))
    refine bodyPost_ret (v := .tuple #[.slice none 0 0, .int .i64 0, .bool false]) (by simp [results, Try.results40, go_sem]) rfl ?_
    exact RetB.no E.out (by (repeat' (first | with_reducible exact bl_refl _ | with_reducible assumption | with_reducible refine bl_alloc ?_ _ | with_reducible refine bl_set ?_ ?_ _ | with_reducible refine bl_drewN ?_ _ | with_reducible refine bl_drew ?_ | with_reducible refine bl_call (by assumption) ?_)); (all_goals (first | omega | (simp; done) | (simp; omega))))
  · have E := hide (bpV_yes (L := L) (h := h) (by rw [q1, q2]; rfl))
    have OK := hide (okPg_of (L := L) (h := h) (by rw [q1, q2]; rfl))
    rw [E.out]
    have LP := hide (fun (u : World) (hu : Below w.heap.size w u) (b0 b1 b2 : Nat) k0 k1 k2 => least_pages u A c L h b0 b1 b2 (HI.out.below hu) hnc OK.out k0 k1 k2)
    obtain ⟨V, hV⟩ : ∃ V, V = dpR (gP L h) ndP L.length := ⟨_, rfl⟩
    rw [← hV] at LP ⊢
    clear hV OK E
    go_enter Try.func40, Try.ntmps40
    go_wp2_with (first | (go_at_call 54; (with_reducible refine (ValidLines_i _ _ _ _ L (HI.out.below (by (repeat' (first | with_reducible exact bl_refl _ | with_reducible assumption | with_reducible refine bl_alloc ?_ _ | with_reducible refine bl_set ?_ ?_ _ | with_reducible refine bl_drewN ?_ _ | with_reducible refine bl_drew ?_ | with_reducible refine bl_call (by assumption) ?_)); (all_goals (first | omega | (simp; done) | (simp; omega))))) hn).mono ?_); rintro e w' ⟨rfl, hb⟩; (try (with_reducible have hb := bl_undrew hb)); obtain ⟨hc, hf⟩ := bcell hb; (try ((with_reducible have hq := bcell1 hb); obtain ⟨hc, hf⟩ := hq)); (try ((with_reducible have hq := bcell2 hb); obtain ⟨hc, hf⟩ := hq)); have hz := bl_sz hb; (try simp at hz); (try (have z0 : w.heap.size < w'.heap.size := (by omega); have y0 := Nat.le_of_lt z0)); (try (have z1 : w.heap.size + 1 < w'.heap.size := (by omega); have y1 := Nat.le_of_lt z1)); (try (have z2 : w.heap.size + 1 + 1 < w'.heap.size := (by omega); have y2 := Nat.le_of_lt z2)); (try (have z3 : w.heap.size + 1 + 1 + 1 < w'.heap.size := (by omega); have y3 := Nat.le_of_lt z3)); (try (have z4 : u1.heap.size < w'.heap.size := (by omega); have y4 := Nat.le_of_lt z4)); (try (have z5 : u1.heap.size + 1 < w'.heap.size := (by omega); have y5 := Nat.le_of_lt z5)); (try (have z6 : u2.heap.size < w'.heap.size := (by omega); have y6 := Nat.le_of_lt z6)); (try (have z7 : u2.heap.size + 1 < w'.heap.size := (by omega); have y7 := Nat.le_of_lt z7)); (try (have z8 : u3.heap.size < w'.heap.size := (by omega); have y8 := Nat.le_of_lt z8)); (try (have z9 : u3.heap.size + 1 < w'.heap.size := (by omega); have y9 := Nat.le_of_lt z9)); (try (have z10 : u4.heap.size < w'.heap.size := (by omega); have y10 := Nat.le_of_lt z10)); (try (have z11 : u4.heap.size + 1 < w'.heap.size := (by omega); have y11 := Nat.le_of_lt z11)); (try (have z12 : u5.heap.size < w'.heap.size := (by omega); have y12 := Nat.le_of_lt z12)); (try (have z13 : u5.heap.size + 1 < w'.heap.size := (by omega); have y13 := Nat.le_of_lt z13)); (try (have z14 : u6.heap.size < w'.heap.size := (by omega); have y14 := Nat.le_of_lt z14)); (try (have z15 : u6.heap.size + 1 < w'.heap.size := (by omega); have y15 := Nat.le_of_lt z15)); (try (have zg : g < w'.heap.size := (by omega); have yg := Nat.le_of_lt zg)); (try (have zc : wc.heap.size < w'.heap.size := (by omega); have yc := Nat.le_of_lt zc)); (try (have zd : wc.heap.size + 1 < w'.heap.size := (by omega); have yd := Nat.le_of_lt zd)); (first | (have _k := u7; clear _k; rename World => u8) | (have _k := u6; clear _k; rename World => u7) | (have _k := u5; clear _k; rename World => u6) | (have _k := u4; clear _k; rename World => u5) | (have _k := u3; clear _k; rename World => u4) | (have _k := u2; clear _k; rename World => u3) | (have _k := u1; clear _k; rename World => u2) | (rename World => u1))) | (go_at_call 80; (with_reducible refine (validPageSize_i _ _).mono ?_); rintro e w' ⟨rfl, rfl⟩) | (go_at_call 82; (with_reducible refine (endsUpTo_i _ _).mono ?_); rintro e w' ⟨rfl, rfl⟩) | (go_at_call 83; (with_reducible refine (costOfPages_i _ _ _ _ _).mono ?_); rintro e w' ⟨rfl, rfl⟩) | fail)
    (with_reducible refine (LP.out _ (by (repeat' (first | with_reducible exact bl_refl _ | with_reducible assumption | with_reducible refine bl_alloc ?_ _ | with_reducible refine bl_set ?_ ?_ _ | with_reducible refine bl_drewN ?_ _ | with_reducible refine bl_drew ?_ | with_reducible refine bl_call (by assumption) ?_)); (all_goals (first | omega | (simp; done) | (simp; omega)))) _ _ _ (by simp [go_sem]) (by simp [go_sem]) (by simp [go_sem])).mono ?_)
    rintro e u2 ⟨A2, c2, rfl, ho2, hb2⟩
    have HO := hide (ho2.more (show w.heap.size ≤ _ by simp; omega))
    have HB2 := hide (bl_call hb2 (show Below w.heap.size w _ from (by (repeat' (first | with_reducible exact bl_refl _ | with_reducible assumption | with_reducible refine bl_alloc ?_ _ | with_reducible refine bl_set ?_ ?_ _ | with_reducible refine bl_drewN ?_ _ | with_reducible refine bl_drew ?_ | with_reducible refine bl_call (by assumption) ?_)); (all_goals (first | omega | (simp; done) | (simp; omega))))))
    clear ho2 hb2
    obtain ⟨V1, V2, V3⟩ := V
    go_wp2
    refine bodyPost_ret (v := .tuple #[.slice A2 V1.length c2, .int .i64 V2, .bool V3]) (by simp [results, Try.results40, go_sem]) rfl ?_
    exact ⟨A2, c2, rfl, HO.out, HB2.out⟩
end Go.Proofs.Ytkclecfjpabplaa
