/- FillPages, in the program and in its model. -/
import Derived.Test.YtkclecfjpabplaaFillW
import Derived.Test.YtkclecfjpabplaaLines
import Derived.Deep.RegionWith
namespace Go.Proofs.Ytkclecfjpabplaa
open Go.ChangeShapes Go.WideShapes Go.ChangeAt Go.RowKit
set_option linter.unusedVariables false
open Classical
set_option maxRecDepth 4000

def fpg (L : List Gp) (h : Int) (p t : Nat) : Bool := decide (pgh L p (t - p) ≤ h)
noncomputable def fpV (L : List Gp) (h : Int) : Option (List Int) := if lok L && inB h 1 10000 then fil (fpg L h) L.length L.length 0 else none
theorem fpV_no {L : List Gp} {h : Int} (e : (lok L && inB h 1 10000) = false) : fpV L h = none := by simp only [fpV, e]; rfl
theorem fpV_yes {L : List Gp} {h : Int} (e : (lok L && inB h 1 10000) = true) : fpV L h = fil (fpg L h) L.length L.length 0 := by simp only [fpV, e, if_true]
/-- What a function leaves that returns a list that it made, or none. -/
def RetQ (w : World) (o : Option (List Int)) (e : Ending) (w' : World) : Prop := ∃ A c, e = .returned (.tuple #[.slice A (o.getD []).length c, .bool o.isSome]) ∧ OL w' 3 w.heap.size A c (o.getD []) ∧ Below w.heap.size w w'
theorem RetQ.no {w w' : World} {o : Option (List Int)} (h : o = none) (hb : Below w.heap.size w w') : RetQ w o (.returned (.tuple #[.slice none 0 0, .bool false])) w' := by
  subst h
  exact ⟨none, 0, rfl, OL.nil _ _ _, hb⟩
theorem RetQ.yes {w w' : World} {o : Option (List Int)} {l : List Int} {A : Option Addr} {c q : Nat} (h : o = some l) (hq : q = l.length) (ho : OL w' 3 w.heap.size A c l) (hb : Below w.heap.size w w') : RetQ w o (.returned (.tuple #[.slice A q c, .bool true])) w' := by
  subst h
  subst hq
  exact ⟨A, c, rfl, ho, hb⟩

theorem validPageSize_i (h : Int) (w : World) : Calls Try.prog 80 #[.int .i64 h] w fun e w' => e = .returned (.bool (inB h 1 10000)) ∧ w = w' := by
  go_enter Try.func80, Try.ntmps80
  go_wp2_with (go_at_call 65; refine (within_any _ _ _ _).mono ?_; rintro e w' ⟨rfl, rfl⟩)
  go_ret
  exact ⟨rfl, rfl⟩
theorem validWidth_q (h : Int) (w : World) : Calls Try.prog 77 #[.int .i64 h] w fun e w' => e = .returned (.bool (inB h 1 10000)) ∧ w = w' := by
  go_enter Try.func77, Try.ntmps77
  go_wp2_with (go_at_call 69; refine (inRange_any _ _ _ _).mono ?_; rintro e w' ⟨rfl, rfl⟩)
  go_ret
  exact ⟨rfl, rfl⟩

set_option maxHeartbeats 1000000 in
theorem fpag_i (w : World) (b1 b2 c : Nat) (A : Option Addr) (L : List Gp) (h : Int) (p t : Nat) (h1 : w.cell? ⟨b1, 0, none⟩ = some (.slice A L.length c)) (h2 : w.cell? ⟨b2, 0, none⟩ = some (.int .i64 h)) (ha : TL w A L.length L) (hc : L.length ≤ c) (hl : L.length ≤ 40) (hk : LTo L L.length) (hpt : p < t) (htl : t ≤ L.length) :
    Calls Try.prog 90 #[.int .i64 p, .int .i64 t, .pointer (some ⟨b1, 0, none⟩), .pointer (some ⟨b2, 0, none⟩)] w fun e w' => e = .returned (.bool (fpg L h p t)) ∧ Below w.heap.size w w' := by
  obtain ⟨b, o, rfl, hb0, hc0⟩ := ha.at_ (i := 0) (by omega)
  have HS := hide (TL.sub ha (f := p) (t := t) (by omega) htl)
  have CS := fun (u : World) (d : Nat) (hu : Below w.heap.size w u) => pageHeight_i u (some ⟨b, o + p * 3, none⟩) (t - p) d p _ L (HS.out.below hu) (by omega) (fun i hi => tg_sub hi htl) hk (by omega)
  have E : Hid (fpg L h p t = decide (pgh L p (t - p) ≤ h)) := hide rfl
  obtain ⟨z, hz⟩ : ∃ z, z = pgh L p (t - p) := ⟨_, rfl⟩
  rw [← hz] at CS E
  have HC := hide CS
  have g1 : p ≤ t := by omega
  have g2 : t ≤ c := by omega
  have CAST : ((t : Int) - (p : Int)) = ((t - p : Nat) : Int) := by omega
  clear CS HS hk ha hc0 hz
  go_enter Try.func90, Try.ntmps90
  go_wp2_with fail
  go_region_with (go_at_call 88; (with_reducible refine (HC.out _ _ (bl_drew (bl_refl _))).mono ?_); rintro e u1 ⟨rfl, hb⟩; (try (with_reducible have hb := bl_undrew hb)); have k2 := keep_cell hb h2)
  all_goals
    go_wp2
    go_ret
    exact ⟨bool_ret E.out.symm, hb⟩

set_option maxHeartbeats 1000000 in
theorem FillPages_i (w : World) (A : Option Addr) (n c : Nat) (L : List Gp) (h : Int) (ha : TL w A n L) (hn : n ≤ 4611686018427387904) (hnc : n ≤ c) :
    Calls Try.prog 52 #[.slice A n c, .int .i64 h] w (RetQ w (fpV L h)) := by
  obtain rfl : n = L.length := ha.1
  have HI := hide ha
  clear ha
  cases q1 : lok L
  · have E := hide (fpV_no (L := L) (h := h) (by rw [q1]; rfl))
    go_enter Try.func52, Try.ntmps52
    go_wp2_with (first | (go_at_call 54; (with_reducible refine (ValidLines_i _ _ _ _ L (HI.out.below (by (repeat' (first | with_reducible exact bl_refl _ | with_reducible assumption | with_reducible refine bl_alloc ?_ _ | with_reducible refine bl_set ?_ ?_ _ | with_reducible refine bl_drewN ?_ _ | with_reducible refine bl_drew ?_ | with_reducible refine bl_call (by assumption) ?_)); (all_goals (first | omega | (simp; done) | (simp; omega))))) hn).mono ?_); rintro e w' ⟨rfl, hb⟩; (try (with_reducible have hb := bl_undrew hb)); obtain ⟨hc, hf⟩ := bcell hb; (try ((with_reducible have hq := bcell1 hb); obtain ⟨hc, hf⟩ := hq)); (try ((with_reducible have hq := bcell2 hb); obtain ⟨hc, hf⟩ := hq)); have hz := bl_sz hb; (try simp at hz); (try (have z0 : w.heap.size < w'.heap.size := (by omega); have y0 := Nat.le_of_lt z0)); (try (have z1 : w.heap.size + 1 < w'.heap.size := (by omega); have y1 := Nat.le_of_lt z1)); (try (have z2 : w.heap.size + 1 + 1 < w'.heap.size := (by omega); have y2 := Nat.le_of_lt z2)); (try (have z3 : w.heap.size + 1 + 1 + 1 < w'.heap.size := (by omega); have y3 := Nat.le_of_lt z3)); (try (have z4 : u1.heap.size < w'.heap.size := (by omega); have y4 := Nat.le_of_lt z4)); (try (have z5 : u1.heap.size + 1 < w'.heap.size := (by omega); have y5 := Nat.le_of_lt z5)); (try (have z6 : u2.heap.size < w'.heap.size := (by omega); have y6 := Nat.le_of_lt z6)); (try (have z7 : u2.heap.size + 1 < w'.heap.size := (by omega); have y7 := Nat.le_of_lt z7)); (try (have z8 : u3.heap.size < w'.heap.size := (by omega); have y8 := Nat.le_of_lt z8)); (try (have z9 : u3.heap.size + 1 < w'.heap.size := (by omega); have y9 := Nat.le_of_lt z9)); (try (have z10 : u4.heap.size < w'.heap.size := (by omega); have y10 := Nat.le_of_lt z10)); (try (have z11 : u4.heap.size + 1 < w'.heap.size := (by omega); have y11 := Nat.le_of_lt z11)); (try (have z12 : u5.heap.size < w'.heap.size := (by omega); have y12 := Nat.le_of_lt z12)); (try (have z13 : u5.heap.size + 1 < w'.heap.size := (by omega); have y13 := Nat.le_of_lt z13)); (try (have z14 : u6.heap.size < w'.heap.size := (by omega); have y14 := Nat.le_of_lt z14)); (try (have z15 : u6.heap.size + 1 < w'.heap.size := (by omega); have y15 := Nat.le_of_lt z15)); (try (have zg : g < w'.heap.size := (by omega); have yg := Nat.le_of_lt zg)); (try (have zc : wc.heap.size < w'.heap.size := (by omega); have yc := Nat.le_of_lt zc)); (try (have zd : wc.heap.size + 1 < w'.heap.size := (by omega); have yd := Nat.le_of_lt zd)); (first | (have _k := u7; clear _k; rename World => u8) | (have _k := u6; clear _k; rename World => u7) | (have _k := u5; clear _k; rename World => u6) | (have _k := u4; clear _k; rename World => u5) | (have _k := u3; clear _k; rename World => u4) | (have _k := u2; clear _k; rename World => u3) | (have _k := u1; clear _k; rename World => u2) | (rename World => u1))) | (go_at_call 80; (with_reducible refine (validPageSize_i _ _).mono ?_); rintro e w' ⟨rfl, rfl⟩))
    go_ret2
    exact RetQ.no E.out (by (repeat' (first | with_reducible exact bl_refl _ | with_reducible assumption | with_reducible refine bl_alloc ?_ _ | with_reducible refine bl_set ?_ ?_ _ | with_reducible refine bl_drewN ?_ _ | with_reducible refine bl_drew ?_ | with_reducible refine bl_call (by assumption) ?_)); (all_goals (first | omega | (simp; done) | (simp; omega))))
  cases q2 : inB h 1 10000
  · have E := hide (fpV_no (L := L) (h := h) (by rw [q2, Bool.and_false]))
    go_enter Try.func52, Try.ntmps52
    go_wp2_with (first | (go_at_call 54; (with_reducible refine (ValidLines_i _ _ _ _ L (HI.out.below (by (repeat' (first | with_reducible exact bl_refl _ | with_reducible assumption | with_reducible refine bl_alloc ?_ _ | with_reducible refine bl_set ?_ ?_ _ | with_reducible refine bl_drewN ?_ _ | with_reducible refine bl_drew ?_ | with_reducible refine bl_call (by assumption) ?_)); (all_goals (first | omega | (simp; done) | (simp; omega))))) hn).mono ?_); rintro e w' ⟨rfl, hb⟩; (try (with_reducible have hb := bl_undrew hb)); obtain ⟨hc, hf⟩ := bcell hb; (try ((with_reducible have hq := bcell1 hb); obtain ⟨hc, hf⟩ := hq)); (try ((with_reducible have hq := bcell2 hb); obtain ⟨hc, hf⟩ := hq)); have hz := bl_sz hb; (try simp at hz); (try (have z0 : w.heap.size < w'.heap.size := (by omega); have y0 := Nat.le_of_lt z0)); (try (have z1 : w.heap.size + 1 < w'.heap.size := (by omega); have y1 := Nat.le_of_lt z1)); (try (have z2 : w.heap.size + 1 + 1 < w'.heap.size := (by omega); have y2 := Nat.le_of_lt z2)); (try (have z3 : w.heap.size + 1 + 1 + 1 < w'.heap.size := (by omega); have y3 := Nat.le_of_lt z3)); (try (have z4 : u1.heap.size < w'.heap.size := (by omega); have y4 := Nat.le_of_lt z4)); (try (have z5 : u1.heap.size + 1 < w'.heap.size := (by omega); have y5 := Nat.le_of_lt z5)); (try (have z6 : u2.heap.size < w'.heap.size := (by omega); have y6 := Nat.le_of_lt z6)); (try (have z7 : u2.heap.size + 1 < w'.heap.size := (by omega); have y7 := Nat.le_of_lt z7)); (try (have z8 : u3.heap.size < w'.heap.size := (by omega); have y8 := Nat.le_of_lt z8)); (try (have z9 : u3.heap.size + 1 < w'.heap.size := (by omega); have y9 := Nat.le_of_lt z9)); (try (have z10 : u4.heap.size < w'.heap.size := (by omega); have y10 := Nat.le_of_lt z10)); (try (have z11 : u4.heap.size + 1 < w'.heap.size := (by omega); have y11 := Nat.le_of_lt z11)); (try (have z12 : u5.heap.size < w'.heap.size := (by omega); have y12 := Nat.le_of_lt z12)); (try (have z13 : u5.heap.size + 1 < w'.heap.size := (by omega); have y13 := Nat.le_of_lt z13)); (try (have z14 : u6.heap.size < w'.heap.size := (by omega); have y14 := Nat.le_of_lt z14)); (try (have z15 : u6.heap.size + 1 < w'.heap.size := (by omega); have y15 := Nat.le_of_lt z15)); (try (have zg : g < w'.heap.size := (by omega); have yg := Nat.le_of_lt zg)); (try (have zc : wc.heap.size < w'.heap.size := (by omega); have yc := Nat.le_of_lt zc)); (try (have zd : wc.heap.size + 1 < w'.heap.size := (by omega); have yd := Nat.le_of_lt zd)); (first | (have _k := u7; clear _k; rename World => u8) | (have _k := u6; clear _k; rename World => u7) | (have _k := u5; clear _k; rename World => u6) | (have _k := u4; clear _k; rename World => u5) | (have _k := u3; clear _k; rename World => u4) | (have _k := u2; clear _k; rename World => u3) | (have _k := u1; clear _k; rename World => u2) | (rename World => u1))) | (go_at_call 80; (with_reducible refine (validPageSize_i _ _).mono ?_); rintro e w' ⟨rfl, rfl⟩))
    go_ret2
    exact RetQ.no E.out (by (repeat' (first | with_reducible exact bl_refl _ | with_reducible assumption | with_reducible refine bl_alloc ?_ _ | with_reducible refine bl_set ?_ ?_ _ | with_reducible refine bl_drewN ?_ _ | with_reducible refine bl_drew ?_ | with_reducible refine bl_call (by assumption) ?_)); (all_goals (first | omega | (simp; done) | (simp; omega))))
  · have E := hide (fpV_yes (L := L) (h := h) (by rw [q1, q2]; rfl))
    obtain ⟨⟨l0, l1⟩, l2⟩ := lok_iff.1 q1
    have CF := hide (fun (u : World) (b1 b2 p t : Nat) (k1 : u.cell? ⟨b1, 0, none⟩ = some (.slice A L.length c)) (k2 : u.cell? ⟨b2, 0, none⟩ = some (.int .i64 h)) (hi : TL u A L.length L) (hpt : p < t) (htl : t ≤ L.length) => fpag_i u b1 b2 c A L h p t k1 k2 hi hnc l1 l2 hpt htl)
    clear l2
    go_enter Try.func52, Try.ntmps52
    go_wp2_with (first | (go_at_call 54; (with_reducible refine (ValidLines_i _ _ _ _ L (HI.out.below (by (repeat' (first | with_reducible exact bl_refl _ | with_reducible assumption | with_reducible refine bl_alloc ?_ _ | with_reducible refine bl_set ?_ ?_ _ | with_reducible refine bl_drewN ?_ _ | with_reducible refine bl_drew ?_ | with_reducible refine bl_call (by assumption) ?_)); (all_goals (first | omega | (simp; done) | (simp; omega))))) hn).mono ?_); rintro e w' ⟨rfl, hb⟩; (try (with_reducible have hb := bl_undrew hb)); obtain ⟨hc, hf⟩ := bcell hb; (try ((with_reducible have hq := bcell1 hb); obtain ⟨hc, hf⟩ := hq)); (try ((with_reducible have hq := bcell2 hb); obtain ⟨hc, hf⟩ := hq)); have hz := bl_sz hb; (try simp at hz); (try (have z0 : w.heap.size < w'.heap.size := (by omega); have y0 := Nat.le_of_lt z0)); (try (have z1 : w.heap.size + 1 < w'.heap.size := (by omega); have y1 := Nat.le_of_lt z1)); (try (have z2 : w.heap.size + 1 + 1 < w'.heap.size := (by omega); have y2 := Nat.le_of_lt z2)); (try (have z3 : w.heap.size + 1 + 1 + 1 < w'.heap.size := (by omega); have y3 := Nat.le_of_lt z3)); (try (have z4 : u1.heap.size < w'.heap.size := (by omega); have y4 := Nat.le_of_lt z4)); (try (have z5 : u1.heap.size + 1 < w'.heap.size := (by omega); have y5 := Nat.le_of_lt z5)); (try (have z6 : u2.heap.size < w'.heap.size := (by omega); have y6 := Nat.le_of_lt z6)); (try (have z7 : u2.heap.size + 1 < w'.heap.size := (by omega); have y7 := Nat.le_of_lt z7)); (try (have z8 : u3.heap.size < w'.heap.size := (by omega); have y8 := Nat.le_of_lt z8)); (try (have z9 : u3.heap.size + 1 < w'.heap.size := (by omega); have y9 := Nat.le_of_lt z9)); (try (have z10 : u4.heap.size < w'.heap.size := (by omega); have y10 := Nat.le_of_lt z10)); (try (have z11 : u4.heap.size + 1 < w'.heap.size := (by omega); have y11 := Nat.le_of_lt z11)); (try (have z12 : u5.heap.size < w'.heap.size := (by omega); have y12 := Nat.le_of_lt z12)); (try (have z13 : u5.heap.size + 1 < w'.heap.size := (by omega); have y13 := Nat.le_of_lt z13)); (try (have z14 : u6.heap.size < w'.heap.size := (by omega); have y14 := Nat.le_of_lt z14)); (try (have z15 : u6.heap.size + 1 < w'.heap.size := (by omega); have y15 := Nat.le_of_lt z15)); (try (have zg : g < w'.heap.size := (by omega); have yg := Nat.le_of_lt zg)); (try (have zc : wc.heap.size < w'.heap.size := (by omega); have yc := Nat.le_of_lt zc)); (try (have zd : wc.heap.size + 1 < w'.heap.size := (by omega); have yd := Nat.le_of_lt zd)); (first | (have _k := u7; clear _k; rename World => u8) | (have _k := u6; clear _k; rename World => u7) | (have _k := u5; clear _k; rename World => u6) | (have _k := u4; clear _k; rename World => u5) | (have _k := u3; clear _k; rename World => u4) | (have _k := u2; clear _k; rename World => u3) | (have _k := u1; clear _k; rename World => u2) | (rename World => u1))) | (go_at_call 80; (with_reducible refine (validPageSize_i _ _).mono ?_); rintro e w' ⟨rfl, rfl⟩) | fail)
    have k1 : u1.cell? ⟨w.heap.size, 0, none⟩ = some (.slice A L.length c) := by simp [go_sem, *]
    have k2 : u1.cell? ⟨w.heap.size + 1, 0, none⟩ = some (.int .i64 h) := by simp [go_sem, *]
    have HB := hide (show Below w.heap.size w u1 from (by (repeat' (first | with_reducible exact bl_refl _ | with_reducible assumption | with_reducible refine bl_alloc ?_ _ | with_reducible refine bl_set ?_ ?_ _ | with_reducible refine bl_drewN ?_ _ | with_reducible refine bl_drew ?_ | with_reducible refine bl_call (by assumption) ?_)); (all_goals (first | omega | (simp; done) | (simp; omega)))))
    clear hc hf
    (with_reducible refine (fill_FillPages_1 _ L.length _ _ (fpg L h) (by omega) (fun u p t hb hpt htl => CF.out u _ _ p t (keep_cell hb k1) (keep_cell hb k2) ((HI.out.below HB.out).below hb) hpt htl)).mono ?_)
    rintro e u2 ⟨(⟨M, B, d, hL, rfl, ho, hll⟩ | ⟨hL, rfl⟩), hb⟩
    · have E2 := hide (E.out.trans hL)
      have HO := hide (ho.more HB.out.size)
      have HB2 := hide (bl_call hb HB.out)
      clear ho hb hL
      go_wp2
      go_ret2
      exact RetQ.yes E2.out rfl HO.out HB2.out
    · have E2 := hide (E.out.trans hL)
      have HB2 := hide (bl_call hb HB.out)
      clear hb hL
      go_wp2
      go_ret2
      exact RetQ.no E2.out HB2.out

set_option maxHeartbeats 2000000 in
theorem FillPages_s (w : World) (A : Option Addr) (n c : Nat) (L : List Gp) (h : Int) (ha : TL w A n L) (hn : n ≤ 4611686018427387904) :
    Calls Try.prog 53 #[.slice A n c, .int .i64 h] w (RetQ w (fpV L h)) := by
  obtain ⟨i0, hi0, jz0, jz1, jz2⟩ := info_parts int_info
  obtain rfl : n = L.length := ha.1
  have HI := hide ha
  clear ha
  cases q1 : lok L
  · have E := hide (fpV_no (L := L) (h := h) (by rw [q1]; rfl))
    go_enter Try.func53, Try.ntmps53
    go_wp2_with (first | (go_at_call 76; (with_reducible refine (validLines_s _ _ _ _ L (HI.out.alloc _) hn).mono ?_); rintro e w' ⟨rfl, rfl⟩) | (go_at_call 77; (with_reducible refine (validWidth_q _ _).mono ?_); rintro e w' ⟨rfl, rfl⟩))
    go_ret2
    exact RetQ.no E.out (by (repeat' (first | with_reducible exact bl_refl _ | with_reducible assumption | with_reducible refine bl_alloc ?_ _ | with_reducible refine bl_set ?_ ?_ _ | with_reducible refine bl_drewN ?_ _ | with_reducible refine bl_drew ?_ | with_reducible refine bl_call (by assumption) ?_)); (all_goals (first | omega | (simp; done) | (simp; omega))))
  cases q2 : inB h 1 10000
  · have E := hide (fpV_no (L := L) (h := h) (by rw [q2, Bool.and_false]))
    go_enter Try.func53, Try.ntmps53
    go_wp2_with (first | (go_at_call 76; (with_reducible refine (validLines_s _ _ _ _ L (HI.out.alloc _) hn).mono ?_); rintro e w' ⟨rfl, rfl⟩) | (go_at_call 77; (with_reducible refine (validWidth_q _ _).mono ?_); rintro e w' ⟨rfl, rfl⟩))
    go_ret2
    exact RetQ.no E.out (by (repeat' (first | with_reducible exact bl_refl _ | with_reducible assumption | with_reducible refine bl_alloc ?_ _ | with_reducible refine bl_set ?_ ?_ _ | with_reducible refine bl_drewN ?_ _ | with_reducible refine bl_drew ?_ | with_reducible refine bl_call (by assumption) ?_)); (all_goals (first | omega | (simp; done) | (simp; omega))))
  have E0 := fpV_yes (L := L) (h := h) (by rw [q1, q2]; rfl)
  obtain ⟨⟨l0, l1⟩, l2⟩ := lok_iff.1 q1
  obtain ⟨h0, h1⟩ := inB_iff.1 q2
  have CP := hide (fun (u : World) (p t : Nat) (hu : Below w.heap.size w u) (hpt : p ≤ t) (htl : t ≤ L.length) => pageHeight_s u A L.length c p t L (HI.out.below hu) l1 l2 hpt htl)
  obtain ⟨T, hT⟩ : ∃ T, T = fil (fpg L h) L.length L.length 0 := ⟨_, rfl⟩
  rw [← hT] at E0
  have E := hide E0
  have S0 : Hid (T = (fil (fpg L h) L.length L.length 0).map ([] ++ ·)) := hide (by rw [hT]; cases fil (fpg L h) L.length L.length 0 <;> simp)
  have H0 := hide (show OL (w.alloc (.cells #[] 3)) 3 w.heap.size (some ⟨w.heap.size, 0, none⟩) 0 [] from by
    have := OL.lit (w := w) (e := 3) (B := w.heap.size) (Nat.le_refl _) [] (by simp)
    simpa using this)
  clear hT E0 l2
  go_enter Try.func53, Try.ntmps53
  go_wp2_with (first | (go_at_call 76; (with_reducible refine (validLines_s _ _ _ _ L (HI.out.alloc _) hn).mono ?_); rintro e w' ⟨rfl, rfl⟩) | (go_at_call 77; (with_reducible refine (validWidth_q _ _).mono ?_); rintro e w' ⟨rfl, rfl⟩))
  go_loopw [6, 7] (fun v i u => ∃ (p k q : Nat) (A' : Option Addr) (cc : Nat) (l : List Int), p ≤ L.length ∧ L.length ≤ p + k ∧ i = .int .i64 p ∧ v = .slice A' q cc ∧ q = l.length ∧ q ≤ p ∧ OL u 3 w.heap.size A' cc l ∧ T = (fil (fpg L h) L.length k p).map (l ++ ·) ∧ Below w.heap.size w u) (fun _ i _ => L.length - (intOf i).toNat)
  case atStart => exact ⟨0, L.length, 0, _, _, [], by omega, by omega, rfl, rfl, rfl, by omega, H0.out, S0.out, bl_alloc (bl_refl _) _⟩
  case round =>
    obtain ⟨p, k, q, A', cc, l, hp, hk, rfl, rfl, hpl, hqp, hol, htt, hbl⟩ := hrel
    have HPL := hide hpl
    have HT := hide htt
    clear hpl htt
    by_cases hlt : p < L.length
    · have HOL := hide hol
      have HB := hide hbl
      have hzw := hbl.size
      clear hol hbl
      go_wp2
      go_loop [8] (fun j => ∃ t : Nat, p ≤ t ∧ t ≤ L.length ∧ j = .int .i64 t ∧ adv (fpg L h) p (L.length - p) p = adv (fpg L h) p (L.length - t) t) (fun j => L.length - (intOf j).toNat)
      case atStart => exact ⟨p, by omega, hp, rfl, rfl⟩
      case round =>
        obtain ⟨t, hpt, htn, rfl, had⟩ := hrel
        have HAD := hide had
        clear had
        have LEAVE : Hid (adv (fpg L h) p (L.length - t) t = t → adv (fpg L h) p (L.length - p) p = t) := hide (fun h => HAD.out.trans h)
        by_cases htl : t < L.length
        · have C := CP.out wr p (t + 1) HB.out (by omega) (by omega)
          rw [show (((t + 1 : Nat)) : Int) = (t : Int) + 1 from by omega] at C
          have hfq : fpg L h p (t + 1) = decide (pgh L p (t + 1 - p) ≤ h) := rfl
          obtain ⟨z, hz⟩ : ∃ z, z = pgh L p (t + 1 - p) := ⟨_, rfl⟩
          rw [← hz] at C hfq
          have HC := hide C
          clear C hz
          rcases (by omega : h < z ∨ z ≤ h) with hzh | hzh
          · have qf : fpg L h p (t + 1) = false := by rw [hfq]; exact decide_eq_false (by omega)
            have EQ := hide (LEAVE.out (adv_no qf))
            clear LEAVE HAD qf hfq
            rcases (by omega : t = p ∨ p < t) with h3 | h3
            · have NO := hide (E.out.trans (HT.out.trans (show (fil (fpg L h) L.length k p).map (l ++ ·) = none by rw [fil_no hlt (by omega) (EQ.out.trans h3)]; rfl)))
              subst h3
              go_wp2_with (go_at_call 91; (with_reducible refine HC.out.mono ?_); rintro e w' ⟨rfl, rfl⟩)
              go_ret2
              exact RetQ.no NO.out HB.out
            · have g0 : ((t : Int) == (p : Int)) = false := beq_eq_false_iff_ne.2 (by omega)
              go_wp2_with (first | (go_at_call 91; (with_reducible refine HC.out.mono ?_); rintro e w' ⟨rfl, rfl⟩) | (at_builtin; refine wpList_append_int rfl (.tmp 41) (.tmp 43) _ rfl 3 i0 Try.underlying22 hi0 jz0 jz1 jz2 w.heap.size A' cc q l rfl (HPL.out) (HOL.out.alloc _) wr.heap.size t rfl (by simp) (by omega) (by simp; omega) ?_; intro A' c' w' hol' hb' hg'))
              go_roundw
              case rel => exact ⟨t, k - 1, q + 1, A', c', l ++ [(t : Int)], by omega, by omega, rfl, rfl, by simp [HPL.out], by omega, hol', fil_snoc hlt hk EQ.out (by omega) HT.out, (bl_alloc HB.out _).trans hb'⟩
              case measure => simp [intOf]; omega
          · have qf : fpg L h p (t + 1) = true := by rw [hfq]; exact decide_eq_true hzh
            have M := hide (HAD.out.trans (show adv (fpg L h) p (L.length - t) t = adv (fpg L h) p (L.length - (t + 1)) (t + 1) by rw [show L.length - t = (L.length - (t + 1)) + 1 from by omega, adv_yes qf]))
            clear LEAVE HAD qf hfq
            go_wp2_with (go_at_call 91; (with_reducible refine HC.out.mono ?_); rintro e w' ⟨rfl, rfl⟩)
            go_round
            case rel => exact ⟨t + 1, by omega, by omega, by go_num, M.out⟩
            case measure => simp [intOf]; omega
        · have htn' : t = L.length := by omega
          have EQ := hide (LEAVE.out (by rw [htn', Nat.sub_self]; rfl))
          have g0 : ((t : Int) == (p : Int)) = false := beq_eq_false_iff_ne.2 (by omega)
          clear LEAVE HAD htn'
          go_wp2_with (at_builtin; refine wpList_append_int rfl (.tmp 41) (.tmp 43) _ rfl 3 i0 Try.underlying22 hi0 jz0 jz1 jz2 w.heap.size A' cc q l rfl (HPL.out) (HOL.out.alloc _) wr.heap.size t rfl (by simp) (by omega) (by simp; omega) ?_; intro A' c' w' hol' hb' hg')
          go_roundw
          case rel => exact ⟨t, k - 1, q + 1, A', c', l ++ [(t : Int)], by omega, by omega, rfl, rfl, by simp [HPL.out], by omega, hol', fil_snoc hlt hk EQ.out (by omega) HT.out, (bl_alloc HB.out _).trans hb'⟩
          case measure => simp [intOf]; omega
    · have E2 := hide (E.out.trans (HT.out.trans (show (fil (fpg L h) L.length k p).map (l ++ ·) = some l by rw [fil_end (by omega)]; simp)))
      have HB := hide hbl
      go_wp2
      go_ret2
      exact RetQ.yes E2.out HPL.out hol HB.out
end Go.Proofs.Ytkclecfjpabplaa
